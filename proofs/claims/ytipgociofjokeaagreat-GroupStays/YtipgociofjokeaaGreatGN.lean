/- Package group as plain data: what Decide answers, what Apply leaves. No function of the program is named here. -/
import Derived.Test.YtipgociofjokeaaGreatPGXA4
import Derived.Test.YtipgociofjokeaaGreatPGEv
namespace Go.Proofs.YtipgociofjokeaaGreat
open Go.RowKit Go.Sort Go.Lib

/-- A member: when it was heard of last, its share. -/
structure Mb where
  heard : Int
  parts : List Int
/-- A group: its members by their names, the names in their order besides. -/
structure Gp where
  parts : Int
  sess : Int
  gen : Int
  mem : Nm → Option Mb
  ks : List Nm
  off : Int → Option Int
  pend : List (Int × Int × Int)
  ep : Int → Option Int
def gp0 (parts sess : Int) : Gp := ⟨parts, sess, 0, fun _ => none, [], fun _ => none, [], fun _ => none⟩
open Classical in
/-- f, but for one key. -/
noncomputable def setN {α β : Type} (f : α → Option β) (k : α) (x : Option β) : α → Option β := fun q => if q = k then x else f q
theorem setN_same {α β : Type} (f : α → Option β) (k : α) (x : Option β) : setN f k x k = x := by simp [setN]
theorem setN_other {α β : Type} (f : α → Option β) {q k : α} (h : q ≠ k) (x : Option β) : setN f k x q = f q := by simp [setN, h]
def Gp.has (G : Gp) (nm : Nm) : Bool := (G.mem nm).isSome
def Gp.epo (G : Gp) (p : Int) : Int := (G.ep p).getD 0
def Gp.heard (G : Gp) (nm : Nm) : Int := ((G.mem nm).getD ⟨0, []⟩).heard
def Gp.share (G : Gp) (nm : Nm) : List Int := ((G.mem nm).getD ⟨0, []⟩).parts
/-- Who was not heard of for a session. -/
def Gp.silent (G : Gp) (now : Int) : List Nm := G.ks.filter (fun nm => !decide (now < G.heard nm + G.sess))
def pendOf (p : Int) (l : List (Int × Int × Int)) : Bool := l.any (fun q => q.1 == p)
/-- Why an event that may be is refused (0: it is not). -/
def Gp.whyNot (G : Gp) (x : Ev) : Int :=
  if x.kind = 1 then (if G.has x.mem || decide (G.ks.length < 100) then 0 else 7)
  else if x.kind = 2 then (if G.has x.mem then 0 else 60)
  else if x.kind = 3 then (if G.has x.mem && x.gen == G.gen then 0 else 60)
  else if x.kind = 4 then (if G.has x.mem && x.gen == G.gen then (if x.part < G.parts then 0 else 1) else 60)
  else if x.kind = 5 then 0
  else if x.kind = 6 then (if G.has x.mem && x.gen == G.gen then (if x.part < G.parts then (if G.epo x.prod ≤ x.ep then 0 else 50) else 1) else 60)
  else (if G.epo x.prod ≤ x.ep then 0 else 50)
/-- Is nothing left to do for an event that is not refused? -/
def Gp.done (G : Gp) (x : Ev) : Bool :=
  if x.kind = 5 then (G.silent x.now).isEmpty
  else if x.kind = 7 then (G.ep x.prod == some x.ep && !pendOf x.prod G.pend)
  else false
/-- What Decide answers. -/
def Gp.dec (G : Gp) (x : Ev) : Bool × Int := if x.may then (if G.whyNot x = 0 then (G.done x, 0) else (false, G.whyNot x)) else (false, 1)
/-- The shares of the next generation. -/
def Gp.dealt (G : Gp) : List (List Int) := stickyP G.ks (G.ks.map G.share) G.ks G.parts.toNat
def dealTo (G : Gp) (P : List (List Int)) (j : Nat) : Nm → Option Mb := fun nm => if G.ks.idxOf nm < j then (G.mem nm).map (fun mb => { mb with parts := P.getD (G.ks.idxOf nm) [] }) else G.mem nm
def Gp.deal (G : Gp) : Gp := { G with gen := G.gen + 1, mem := dealTo G G.dealt G.ks.length }
/-- What an event that is taken leaves. -/
noncomputable def Gp.take (G : Gp) (x : Ev) : Gp :=
  if x.kind = 1 then (if G.has x.mem then { G with mem := setN G.mem x.mem (some ⟨x.now, G.share x.mem⟩) } else Gp.deal { G with mem := setN G.mem x.mem (some ⟨x.now, []⟩), ks := risN (x.mem :: G.ks) })
  else if x.kind = 2 then Gp.deal { G with mem := setN G.mem x.mem none, ks := G.ks.filter (fun nm => decide (nm ≠ x.mem)) }
  else if x.kind = 3 then { G with mem := setN G.mem x.mem (some ⟨max (G.heard x.mem) x.now, G.share x.mem⟩) }
  else if x.kind = 4 then { G with off := setN G.off x.part (some x.off) }
  else if x.kind = 5 then Gp.deal { G with mem := fun nm => if nm ∈ G.silent x.now then none else G.mem nm, ks := G.ks.filter (fun nm => decide (x.now < G.heard nm + G.sess)) }
  else if x.kind = 6 then { G with pend := G.pend ++ [(x.prod, x.part, x.off)], ep := setN G.ep x.prod (some x.ep) }
  else { G with off := (if x.yes then (G.pend.filter (fun q => q.1 == x.prod)).foldl (fun f q => setN f q.2.1 (some q.2.2)) G.off else G.off), pend := G.pend.filter (fun q => !(q.1 == x.prod)), ep := setN G.ep x.prod (some x.ep) }
/-- What Apply leaves. -/
noncomputable def Gp.app (G : Gp) (x : Ev) : Gp := if x.may ∧ G.whyNot x = 0 ∧ G.done x = false then G.take x else G
end Go.Proofs.YtipgociofjokeaaGreat
