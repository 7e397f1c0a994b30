/- Package group as plain data: what Decide answers, what Apply leaves. No function of the program is named here. -/
import Derived.Test.YtiiepmljcjbflaaGreatAMath
import Derived.Test.YtiiepmljcjbflaaGreatPGTk
import Derived.Test.YtiiepmljcjbflaaGreatASteps
import Derived.WalkLawsBesides
namespace Go.Proofs.YtiiepmljcjbflaaGreat
open Go.RowKit Go.Sort Go.Lib

/-- A member: when it was heard of last, its share. -/
structure Mb where
  heard : Int
  parts : List Int
/-- A group: its members by their names, the names in their order besides. -/
structure Gp where
  parts : Int
  sess : Int
  gen : Int
  mem : Nm → Option Mb
  ks : List Nm
  off : Int → Option Int
  pend : List (Int × Int × Int)
  ep : Int → Option Int
def gp0 (parts sess : Int) : Gp := ⟨parts, sess, 0, fun _ => none, [], fun _ => none, [], fun _ => none⟩
open Classical in
/-- f, but for one key. -/
noncomputable def setN {α β : Type} (f : α → Option β) (k : α) (x : Option β) : α → Option β := fun q => if q = k then x else f q
theorem setN_same {α β : Type} (f : α → Option β) (k : α) (x : Option β) : setN f k x k = x := by simp [setN]
theorem setN_other {α β : Type} (f : α → Option β) {q k : α} (h : q ≠ k) (x : Option β) : setN f k x q = f q := by simp [setN, h]
def Gp.has (G : Gp) (nm : Nm) : Bool := (G.mem nm).isSome
def Gp.epo (G : Gp) (p : Int) : Int := (G.ep p).getD 0
def Gp.heard (G : Gp) (nm : Nm) : Int := ((G.mem nm).getD ⟨0, []⟩).heard
def Gp.share (G : Gp) (nm : Nm) : List Int := ((G.mem nm).getD ⟨0, []⟩).parts
/-- Who was not heard of for a session. -/
def Gp.silent (G : Gp) (now : Int) : List Nm := G.ks.filter (fun nm => !decide (now < G.heard nm + G.sess))
def pendOf (p : Int) (l : List (Int × Int × Int)) : Bool := l.any (fun q => q.1 == p)
/-- Why an event that may be is refused (0: it is not). -/
def Gp.whyNot (G : Gp) (x : Ev) : Int :=
  if x.kind = 1 then (if G.has x.mem || decide (G.ks.length < 100) then 0 else 7)
  else if x.kind = 2 then (if G.has x.mem then 0 else 60)
  else if x.kind = 3 then (if G.has x.mem && x.gen == G.gen then 0 else 60)
  else if x.kind = 4 then (if G.has x.mem && x.gen == G.gen then (if x.part < G.parts then 0 else 1) else 60)
  else if x.kind = 5 then 0
  else if x.kind = 6 then (if G.has x.mem && x.gen == G.gen then (if x.part < G.parts then (if G.epo x.prod ≤ x.ep then 0 else 50) else 1) else 60)
  else (if G.epo x.prod ≤ x.ep then 0 else 50)
/-- Is nothing left to do for an event that is not refused? -/
def Gp.done (G : Gp) (x : Ev) : Bool :=
  if x.kind = 5 then (G.silent x.now).isEmpty
  else if x.kind = 7 then (G.ep x.prod == some x.ep && !pendOf x.prod G.pend)
  else false
/-- What Decide answers. -/
def Gp.dec (G : Gp) (x : Ev) : Bool × Int := if x.may then (if G.whyNot x = 0 then (G.done x, 0) else (false, G.whyNot x)) else (false, 1)
/-- The shares of the next generation. -/
def Gp.dealt (G : Gp) : List (List Int) := stickyP G.ks (G.ks.map G.share) G.ks G.parts.toNat
def dealTo (G : Gp) (P : List (List Int)) (j : Nat) : Nm → Option Mb := fun nm => if G.ks.idxOf nm < j then (G.mem nm).map (fun mb => { mb with parts := P.getD (G.ks.idxOf nm) [] }) else G.mem nm
def Gp.deal (G : Gp) : Gp := { G with gen := G.gen + 1, mem := dealTo G G.dealt G.ks.length }
/-- What an event that is taken leaves. -/
noncomputable def Gp.take (G : Gp) (x : Ev) : Gp :=
  if x.kind = 1 then (if G.has x.mem then { G with mem := setN G.mem x.mem (some ⟨x.now, G.share x.mem⟩) } else Gp.deal { G with mem := setN G.mem x.mem (some ⟨x.now, []⟩), ks := risN (x.mem :: G.ks) })
  else if x.kind = 2 then Gp.deal { G with mem := setN G.mem x.mem none, ks := G.ks.filter (fun nm => decide (nm ≠ x.mem)) }
  else if x.kind = 3 then { G with mem := setN G.mem x.mem (some ⟨max (G.heard x.mem) x.now, G.share x.mem⟩) }
  else if x.kind = 4 then { G with off := setN G.off x.part (some x.off) }
  else if x.kind = 5 then Gp.deal { G with mem := fun nm => if nm ∈ G.silent x.now then none else G.mem nm, ks := G.ks.filter (fun nm => decide (x.now < G.heard nm + G.sess)) }
  else if x.kind = 6 then { G with pend := G.pend ++ [(x.prod, x.part, x.off)], ep := setN G.ep x.prod (some x.ep) }
  else { G with off := (if x.yes then (G.pend.filter (fun q => q.1 == x.prod)).foldl (fun f q => setN f q.2.1 (some q.2.2)) G.off else G.off), pend := G.pend.filter (fun q => !(q.1 == x.prod)), ep := setN G.ep x.prod (some x.ep) }
/-- What Apply leaves. -/
noncomputable def Gp.app (G : Gp) (x : Ev) : Gp := if x.may ∧ G.whyNot x = 0 ∧ G.done x = false then G.take x else G
end Go.Proofs.YtiiepmljcjbflaaGreat

/- A group of package group in memory. -/
namespace Go.Proofs.YtiiepmljcjbflaaGreat
open Go.RowKit Go.Shelf
variable {w w' : World} {g M1 M2 M3 n : Nat} {A : Nm → Sl} {pv : Value} {G : Gp} {F : List Nat}

abbrev TGr : TypeId := 82
abbrev TMb : TypeId := 79
abbrev TIi : TypeId := 80
abbrev kPd : Kd (Int × Int × Int) := ⟨98, 52, 3, 24, fun x => [.int .i64 x.1, .int .i64 x.2.1, .int .i64 x.2.2], (0, 0, 0), .agg #[.int .i64 0, .int .i64 0, .int .i64 0]⟩
theorem kPd_ok : kPd.ok := ⟨⟨fun _ => rfl, by decide⟩, fun a v hv => by (have : v = .int .i64 a.1 ∨ v = .int .i64 a.2.1 ∨ v = .int .i64 a.2.2 := by simpa using hv); rcases this with rfl | rfl | rfl <;> rfl, by kernel_rfl, rfl, Tryz.underlying52⟩
/-- The members as their map's function: A says where each share lies. -/
def memF (T : Nm → Option Mb) (A : Nm → Sl) : Lit → Option Value
  | .string nm => (T nm).map fun mb => .agg #[.int .i64 mb.heard, .slice (A nm).ad (A nm).m (A nm).c]
  | _ => none
theorem memF_str (T : Nm → Option Mb) (A : Nm → Sl) (nm : Nm) : memF T A (.string nm) = (T nm).map (fun mb => .agg #[.int .i64 mb.heard, .slice (A nm).ad (A nm).m (A nm).c]) := rfl
def intF (f : Int → Option Int) : Lit → Option Value
  | .int .i64 p => (f p).map (Value.int .i64)
  | _ => none
theorem keyI : Maps.Keyed Tryz.prog 3 := Maps.int_keyed Tryz.underlying3
def litZ (p : Int) : Lit := .int .i64 p
theorem keyOf_z {p : Int} (h1 : -9223372036854775808 ≤ p) (h2 : p ≤ 9223372036854775807) : keyOf Tryz.prog 3 (.int .i64 p) = some (litZ p) :=
  Maps.keyOf_int_mk Tryz.underlying3 (by have e1 : IntKind.i64.min = -9223372036854775808 := rfl; have e2 : IntKind.i64.max = 9223372036854775807 := rfl; simp [Lit.wf, e1, e2]; omega)
theorem intF_z (f : Int → Option Int) (p : Int) : intF f (litZ p) = (f p).map (Value.int .i64) := rfl
theorem intF_set (f : Int → Option Int) (p : Int) (y : Int) : ∀ kl, updF (intF f) (litZ p) (some (.int .i64 y)) kl = intF (setN f p (some y)) kl := by
  intro kl
  by_cases h : kl = litZ p
  · subst h; rw [updF_same]; simp [intF, litZ, setN]
  · rw [updF_other _ h]
    unfold intF
    split
    · rename_i q
      have hq : q ≠ p := fun e => h (by rw [e]; rfl)
      rw [setN_other _ hq]
    · rfl
open Classical in
/-- Where the shares lie, but for one. -/
noncomputable def setA (A : Nm → Sl) (nm : Nm) (s : Sl) : Nm → Sl := fun q => if q = nm then s else A q
theorem setA_same (A : Nm → Sl) (nm : Nm) (s : Sl) : setA A nm s nm = s := by simp [setA]
theorem setA_other (A : Nm → Sl) {q nm : Nm} (h : q ≠ nm) (s : Sl) : setA A nm s q = A q := by simp [setA, h]
theorem memF_set (T : Nm → Option Mb) (A : Nm → Sl) (nm : Nm) (mb : Mb) (s : Sl) : ∀ kl, updF (memF T A) (.string nm) (some (.agg #[.int .i64 mb.heard, .slice s.ad s.m s.c])) kl = memF (setN T nm (some mb)) (setA A nm s) kl := by
  intro kl
  by_cases h : kl = .string nm
  · subst h; rw [updF_same]; simp [memF, setN_same, setA_same]
  · rw [updF_other _ h]
    unfold memF
    split
    · rename_i q
      have hq : q ≠ nm := fun e => h (by rw [e])
      rw [setN_other _ hq, setA_other _ hq]
    · rfl
theorem memF_del (T : Nm → Option Mb) (A : Nm → Sl) (nm : Nm) : ∀ kl, updF (memF T A) (.string nm) none kl = memF (setN T nm none) A kl := by
  intro kl
  by_cases h : kl = .string nm
  · subst h; rw [updF_same]; simp [memF, setN_same]
  · rw [updF_other _ h]
    unfold memF
    split
    · rename_i q
      have hq : q ≠ nm := fun e => h (by rw [e])
      rw [setN_other _ hq]
    · rfl
/-- What holds of a group whose members and shares are as they may be; n bounds what grows. -/
structure GOk (n : Nat) (G : Gp) : Prop where
  sorted : G.ks.Pairwise (· ≤ ·)
  nodup : G.ks.Nodup
  mem : ∀ nm, nm ∈ G.ks ↔ (G.mem nm).isSome = true
  name : ∀ nm ∈ G.ks, nameOk nm = true
  cnt : G.ks.length ≤ 100
  parts : 1 ≤ G.parts ∧ G.parts ≤ 32
  sess : 1 ≤ G.sess ∧ G.sess ≤ 3600
  heard : ∀ nm mb, G.mem nm = some mb → inN mb.heard
  share : ∀ nm mb, G.mem nm = some mb → mb.parts.length ≤ 32
  gen : 0 ≤ G.gen ∧ G.gen ≤ n
  pend : G.pend.length * 102 ≤ n
  pin : ∀ y ∈ G.pend, inN y.2.1
/-- In w the block g is the group G: its maps lie at M1, M2, M3, its shares where A says; all its blocks are among F. -/
structure GP (w : World) (F : List Nat) (g M1 M2 M3 n : Nat) (A : Nm → Sl) (pv : Value) (G : Gp) : Prop where
  box : Blk w g #[.int .i64 G.parts, .int .i64 G.sess, .int .i64 G.gen, .map (some M1), .map (some M2), pv, .map (some M3)] TGr
  mem : MapF w 9 M1 n (memF G.mem A)
  off : MapF w 3 M2 (n - G.pend.length) (intF G.off)
  pend : OwnK kPd w 0 pv G.pend
  ep : MapF w 3 M3 n (intF G.ep)
  rows : ∀ nm mb, G.mem nm = some mb → OwnK kZ w 0 (A nm).v mb.parts
  ne12 : M1 ≠ M2
  ne13 : M1 ≠ M3
  ne23 : M2 ≠ M3
  inG : g ∈ F
  in1 : M1 ∈ F
  in2 : M2 ∈ F
  in3 : M3 ∈ F
  inP : ∀ b, pv.ownBlock = some b → b ∈ F
  inR : ∀ nm mb b, G.mem nm = some mb → (A nm).v.ownBlock = some b → b ∈ F
theorem GP.keep (h : GP w F g M1 M2 M3 n A pv G) (hk : ∀ b ∈ F, b < w.heap.size → w'.heap[b]? = w.heap[b]?) : GP w' F g M1 M2 M3 n A pv G :=
  ⟨(hk g h.inG h.box.lt).trans h.box, h.mem.keep (hk _ h.in1 h.mem.lt), h.off.keep (hk _ h.in2 h.off.lt), h.pend.keep (fun b hb => hk b (h.inP b hb) (h.pend.block b hb).2.1), h.ep.keep (hk _ h.in3 h.ep.lt),
   fun nm mb hm => (h.rows nm mb hm).keep (fun b hb => hk b (h.inR nm mb b hm hb) ((h.rows nm mb hm).block b hb).2.1), h.ne12, h.ne13, h.ne23, h.inG, h.in1, h.in2, h.in3, h.inP, h.inR⟩
theorem GP.later (h : GP w F g M1 M2 M3 n A pv G) (hb : Below w.heap.size w w') : GP w' F g M1 M2 M3 n A pv G := h.keep (fun b _ hl => hb.block b hl)
theorem GP.chg {F' : List Nat} (h : GP w F g M1 M2 M3 n A pv G) (hc : Chg F' w w') (hn : ∀ b ∈ F, b ∉ F') : GP w' F g M1 M2 M3 n A pv G := h.keep (fun b hb hl => hc.block b hl (hn b hb))
theorem blk_map_ne {cs : Array Value} {T : TypeId} {K : TypeId} {f : Lit → Option Value} {M : Nat} (h : Blk w g cs T) (hm : MapF w K M n f) : g ≠ M := by
  rintro rfl
  obtain ⟨es, c, hm⟩ := hm.isMap
  unfold Blk at h
  rw [h] at hm; cases hm
theorem own_map_ne {α : Type} {Kk : Kd α} {v : Value} {l : List α} {base b : Nat} {K : TypeId} {f : Lit → Option Value} {M : Nat} (h : OwnK Kk w base v l) (hb : v.ownBlock = some b) (hm : MapF w K M n f) : b ≠ M := by
  rintro rfl
  obtain ⟨es, c, hm⟩ := hm.isMap
  obtain ⟨-, -, cur, hc⟩ := h.block b hb
  rw [hc] at hm; cases hm
theorem own_blk_ne {α : Type} {Kk : Kd α} {v : Value} {l : List α} {base b : Nat} {cs : Array Value} {T : TypeId} (h : OwnK Kk w base v l) (hb : v.ownBlock = some b) (hg : Blk w g cs T) (hT : Kk.T ≠ T) : b ≠ g := by
  rintro rfl
  obtain ⟨-, -, cur, hc⟩ := h.block b hb
  unfold Blk at hg
  rw [hg] at hc
  injection hc with hc
  injection hc with h1 h2 h3
  exact hT h2.symm
theorem zeroMb (w : World) : (zeroValue 95).run Tryz.prog w = .ok (.agg #[.int .i64 0, .slice none 0 0]) w := Tryz.zeroValue95 w
theorem zeroI (w : World) : (zeroValue 3).run Tryz.prog w = .ok (.int .i64 0) w := Tryz.zeroValue3 w
/-- What a look for a member finds. -/
def slOf (G : Gp) (A : Nm → Sl) (nm : Nm) : Sl := if (G.mem nm).isSome then A nm else sl0
theorem GP.look_ok (h : GP w F g M1 M2 M3 n A pv G) (nm : Nm) (hs : nm.length ≤ maxLen) : (Instr.lookup TMb (.map (some M1)) (.string (nmS nm)) true).run Tryz.prog w = .ok (.tuple #[.agg #[.int .i64 (G.heard nm), .slice (slOf G A nm).ad (slOf G A nm).m (slOf G A nm).c], .bool (G.has nm)]) w := by
  rw [h.mem.look_ok keyN Tryz.underlying79 (zeroMb w) (keyOf_n nm hs)]
  rw [memF_str]
  unfold Gp.heard Gp.has slOf
  cases G.mem nm <;> rfl
theorem GP.look (h : GP w F g M1 M2 M3 n A pv G) (nm : Nm) (hs : nm.length ≤ maxLen) : (Instr.lookup TMb (.map (some M1)) (.string (nmS nm)) false).run Tryz.prog w = .ok (.agg #[.int .i64 (G.heard nm), .slice (slOf G A nm).ad (slOf G A nm).m (slOf G A nm).c]) w := by
  rw [h.mem.look keyN Tryz.underlying79 (zeroMb w) (keyOf_n nm hs)]
  rw [memF_str]
  unfold Gp.heard slOf
  cases G.mem nm <;> rfl
theorem map_look_ok {M : Nat} {f : Int → Option Int} (h : MapF w 3 M n (intF f)) {p : Int} (h1 : -9223372036854775808 ≤ p) (h2 : p ≤ 9223372036854775807) : (Instr.lookup TIi (.map (some M)) (.int .i64 p) true).run Tryz.prog w = .ok (.tuple #[.int .i64 ((f p).getD 0), .bool (f p).isSome]) w := by
  rw [h.look_ok keyI Tryz.underlying80 (zeroI w) (keyOf_z h1 h2)]
  rw [intF_z]
  cases f p <;> rfl
theorem map_look {M : Nat} {f : Int → Option Int} (h : MapF w 3 M n (intF f)) {p : Int} (h1 : -9223372036854775808 ≤ p) (h2 : p ≤ 9223372036854775807) : (Instr.lookup TIi (.map (some M)) (.int .i64 p) false).run Tryz.prog w = .ok (.int .i64 ((f p).getD 0)) w := by
  rw [h.look keyI Tryz.underlying80 (zeroI w) (keyOf_z h1 h2)]
  rw [intF_z]
  cases f p <;> rfl
/-- The share of a member, as a slice that lies somewhere. -/
theorem GP.shareAt (h : GP w F g M1 M2 M3 n A pv G) (nm : Nm) : OwnK kZ w 0 (slOf G A nm).v (G.share nm) := by
  unfold slOf Gp.share
  cases hm : G.mem nm with
  | none => exact OwnK.nil _ _
  | some mb => exact h.rows nm mb hm
end Go.Proofs.YtiiepmljcjbflaaGreat

/- What is small in package group: made, has. -/
namespace Go.Proofs.YtiiepmljcjbflaaGreat
open Go.RowKit Go.Shelf
variable {w w' : World} {g M1 M2 M3 n : Nat} {A : Nm → Sl} {pv : Value} {G : Gp} {F : List Nat}

set_option maxRecDepth 100000 in
theorem made_any (h : GP w F g M1 M2 M3 n A pv G) : Calls Tryz.prog 41 #[.pointer (some ⟨g, 0, none⟩)] w fun e w' => e = .returned (.bool true) ∧ w' = w := by
  have c3 := h.box.cell 3
  simp only [List.getElem?_toArray, List.getElem?_cons_zero, List.getElem?_cons_succ] at c3
  have hq := run_neq_map_nil (P := Tryz.prog) w TMb 9 95 (some M1) Tryz.underlying79
  clear h
  go_enter Tryz.func41, Tryz.ntmps41
  go_wp2_with fail
  go_ret
  exact ⟨rfl, rfl⟩
set_option maxRecDepth 100000 in
theorem made_nil (w : World) : Calls Tryz.prog 41 #[.pointer none] w fun e w' => e = .returned (.bool false) ∧ w' = w := by
  go_enter Tryz.func41, Tryz.ntmps41
  go_wp2_with fail
  go_ret
  exact ⟨rfl, rfl⟩
set_option maxRecDepth 100000 in
theorem made_not (hc : w.cell? ⟨g, 3, none⟩ = some (.map none)) : Calls Tryz.prog 41 #[.pointer (some ⟨g, 0, none⟩)] w fun e w' => e = .returned (.bool false) ∧ w' = w := by
  have hq := run_neq_map_nil (P := Tryz.prog) w TMb 9 95 none Tryz.underlying79
  go_enter Tryz.func41, Tryz.ntmps41
  go_wp2_with fail
  go_ret
  exact ⟨rfl, rfl⟩
set_option maxRecDepth 100000 in
theorem has_any (h : GP w F g M1 M2 M3 n A pv G) (s : Nm) (hs : s.length ≤ maxLen) : Calls Tryz.prog 96 #[.pointer (some ⟨g, 0, none⟩), .string (nmS s)] w fun e w' => e = .returned (.bool (G.has s)) ∧ ∃ o, w' = w.alloc o := by
  have c3 := h.box.cell 3
  simp only [List.getElem?_toArray, List.getElem?_cons_zero, List.getElem?_cons_succ] at c3
  have hl := h.look_ok s hs
  clear h
  generalize nmS s = t at *
  generalize G.heard s = hd at *
  generalize slOf G A s = sl at *
  obtain ⟨sa, sm, sc⟩ := sl
  dsimp only at hl
  generalize G.has s = hb at *
  go_enter Tryz.func96, Tryz.ntmps96
  go_wp2_with fail
  go_ret
  exact ⟨rfl, _, rfl⟩
end Go.Proofs.YtiiepmljcjbflaaGreat
