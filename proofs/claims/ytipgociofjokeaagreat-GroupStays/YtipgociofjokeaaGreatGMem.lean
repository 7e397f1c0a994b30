/- A group of package group in memory. -/
import Derived.Test.YtipgociofjokeaaGreatGN
import Derived.Test.YtipgociofjokeaaGreatPGXA3
namespace Go.Proofs.YtipgociofjokeaaGreat
open Go.RowKit Go.Shelf
variable {w w' : World} {g M1 M2 M3 n : Nat} {A : Nm → Sl} {pv : Value} {G : Gp} {F : List Nat}

abbrev TGr : TypeId := 41
abbrev TMb : TypeId := 37
abbrev TIi : TypeId := 38
abbrev kPd : Kd (Int × Int × Int) := ⟨77, 39, 3, 24, fun x => [.int .i64 x.1, .int .i64 x.2.1, .int .i64 x.2.2], (0, 0, 0), .agg #[.int .i64 0, .int .i64 0, .int .i64 0]⟩
theorem kPd_ok : kPd.ok := ⟨⟨fun _ => rfl, by decide⟩, fun a v hv => by (have : v = .int .i64 a.1 ∨ v = .int .i64 a.2.1 ∨ v = .int .i64 a.2.2 := by simpa using hv); rcases this with rfl | rfl | rfl <;> rfl, by kernel_rfl, rfl, Tryz.underlying39⟩
/-- The members as their map's function: A says where each share lies. -/
def memF (T : Nm → Option Mb) (A : Nm → Sl) : Lit → Option Value
  | .string nm => (T nm).map fun mb => .agg #[.int .i64 mb.heard, .slice (A nm).ad (A nm).m (A nm).c]
  | _ => none
theorem memF_str (T : Nm → Option Mb) (A : Nm → Sl) (nm : Nm) : memF T A (.string nm) = (T nm).map (fun mb => .agg #[.int .i64 mb.heard, .slice (A nm).ad (A nm).m (A nm).c]) := rfl
def intF (f : Int → Option Int) : Lit → Option Value
  | .int .i64 p => (f p).map (Value.int .i64)
  | _ => none
theorem keyI : Maps.Keyed Tryz.prog 3 := Maps.int_keyed Tryz.underlying3
def litZ (p : Int) : Lit := .int .i64 p
theorem keyOf_z {p : Int} (h1 : -9223372036854775808 ≤ p) (h2 : p ≤ 9223372036854775807) : keyOf Tryz.prog 3 (.int .i64 p) = some (litZ p) :=
  Maps.keyOf_int_mk Tryz.underlying3 (by have e1 : IntKind.i64.min = -9223372036854775808 := rfl; have e2 : IntKind.i64.max = 9223372036854775807 := rfl; simp [Lit.wf, e1, e2]; omega)
theorem intF_z (f : Int → Option Int) (p : Int) : intF f (litZ p) = (f p).map (Value.int .i64) := rfl
theorem intF_set (f : Int → Option Int) (p : Int) (y : Int) : ∀ kl, updF (intF f) (litZ p) (some (.int .i64 y)) kl = intF (setN f p (some y)) kl := by
  intro kl
  by_cases h : kl = litZ p
  · subst h; rw [updF_same]; simp [intF, litZ, setN]
  · rw [updF_other _ h]
    unfold intF
    split
    · rename_i q
      have hq : q ≠ p := fun e => h (by rw [e]; rfl)
      rw [setN_other _ hq]
    · rfl
open Classical in
/-- Where the shares lie, but for one. -/
noncomputable def setA (A : Nm → Sl) (nm : Nm) (s : Sl) : Nm → Sl := fun q => if q = nm then s else A q
theorem setA_same (A : Nm → Sl) (nm : Nm) (s : Sl) : setA A nm s nm = s := by simp [setA]
theorem setA_other (A : Nm → Sl) {q nm : Nm} (h : q ≠ nm) (s : Sl) : setA A nm s q = A q := by simp [setA, h]
theorem memF_set (T : Nm → Option Mb) (A : Nm → Sl) (nm : Nm) (mb : Mb) (s : Sl) : ∀ kl, updF (memF T A) (.string nm) (some (.agg #[.int .i64 mb.heard, .slice s.ad s.m s.c])) kl = memF (setN T nm (some mb)) (setA A nm s) kl := by
  intro kl
  by_cases h : kl = .string nm
  · subst h; rw [updF_same]; simp [memF, setN_same, setA_same]
  · rw [updF_other _ h]
    unfold memF
    split
    · rename_i q
      have hq : q ≠ nm := fun e => h (by rw [e])
      rw [setN_other _ hq, setA_other _ hq]
    · rfl
theorem memF_del (T : Nm → Option Mb) (A : Nm → Sl) (nm : Nm) : ∀ kl, updF (memF T A) (.string nm) none kl = memF (setN T nm none) A kl := by
  intro kl
  by_cases h : kl = .string nm
  · subst h; rw [updF_same]; simp [memF, setN_same]
  · rw [updF_other _ h]
    unfold memF
    split
    · rename_i q
      have hq : q ≠ nm := fun e => h (by rw [e])
      rw [setN_other _ hq]
    · rfl
/-- What holds of a group whose members and shares are as they may be; n bounds what grows. -/
structure GOk (n : Nat) (G : Gp) : Prop where
  sorted : G.ks.Pairwise (· ≤ ·)
  nodup : G.ks.Nodup
  mem : ∀ nm, nm ∈ G.ks ↔ (G.mem nm).isSome = true
  name : ∀ nm ∈ G.ks, nameOk nm = true
  cnt : G.ks.length ≤ 100
  parts : 1 ≤ G.parts ∧ G.parts ≤ 32
  sess : 1 ≤ G.sess ∧ G.sess ≤ 3600
  heard : ∀ nm mb, G.mem nm = some mb → inN mb.heard
  share : ∀ nm mb, G.mem nm = some mb → mb.parts.length ≤ 32
  gen : 0 ≤ G.gen ∧ G.gen ≤ n
  pend : G.pend.length * 102 ≤ n
  pin : ∀ y ∈ G.pend, inN y.2.1
/-- In w the block g is the group G: its maps lie at M1, M2, M3, its shares where A says; all its blocks are among F. -/
structure GP (w : World) (F : List Nat) (g M1 M2 M3 n : Nat) (A : Nm → Sl) (pv : Value) (G : Gp) : Prop where
  box : Blk w g #[.int .i64 G.parts, .int .i64 G.sess, .int .i64 G.gen, .map (some M1), .map (some M2), pv, .map (some M3)] TGr
  mem : MapF w 9 M1 n (memF G.mem A)
  off : MapF w 3 M2 (n - G.pend.length) (intF G.off)
  pend : OwnK kPd w 0 pv G.pend
  ep : MapF w 3 M3 n (intF G.ep)
  rows : ∀ nm mb, G.mem nm = some mb → OwnK kZ w 0 (A nm).v mb.parts
  ne12 : M1 ≠ M2
  ne13 : M1 ≠ M3
  ne23 : M2 ≠ M3
  inG : g ∈ F
  in1 : M1 ∈ F
  in2 : M2 ∈ F
  in3 : M3 ∈ F
  inP : ∀ b, pv.ownBlock = some b → b ∈ F
  inR : ∀ nm mb b, G.mem nm = some mb → (A nm).v.ownBlock = some b → b ∈ F
theorem GP.keep (h : GP w F g M1 M2 M3 n A pv G) (hk : ∀ b ∈ F, b < w.heap.size → w'.heap[b]? = w.heap[b]?) : GP w' F g M1 M2 M3 n A pv G :=
  ⟨(hk g h.inG h.box.lt).trans h.box, h.mem.keep (hk _ h.in1 h.mem.lt), h.off.keep (hk _ h.in2 h.off.lt), h.pend.keep (fun b hb => hk b (h.inP b hb) (h.pend.block b hb).2.1), h.ep.keep (hk _ h.in3 h.ep.lt),
   fun nm mb hm => (h.rows nm mb hm).keep (fun b hb => hk b (h.inR nm mb b hm hb) ((h.rows nm mb hm).block b hb).2.1), h.ne12, h.ne13, h.ne23, h.inG, h.in1, h.in2, h.in3, h.inP, h.inR⟩
theorem GP.later (h : GP w F g M1 M2 M3 n A pv G) (hb : Below w.heap.size w w') : GP w' F g M1 M2 M3 n A pv G := h.keep (fun b _ hl => hb.block b hl)
theorem GP.chg {F' : List Nat} (h : GP w F g M1 M2 M3 n A pv G) (hc : Chg F' w w') (hn : ∀ b ∈ F, b ∉ F') : GP w' F g M1 M2 M3 n A pv G := h.keep (fun b hb hl => hc.block b hl (hn b hb))
theorem blk_map_ne {cs : Array Value} {T : TypeId} {K : TypeId} {f : Lit → Option Value} {M : Nat} (h : Blk w g cs T) (hm : MapF w K M n f) : g ≠ M := by
  rintro rfl
  obtain ⟨es, c, hm⟩ := hm.isMap
  unfold Blk at h
  rw [h] at hm; cases hm
theorem own_map_ne {α : Type} {Kk : Kd α} {v : Value} {l : List α} {base b : Nat} {K : TypeId} {f : Lit → Option Value} {M : Nat} (h : OwnK Kk w base v l) (hb : v.ownBlock = some b) (hm : MapF w K M n f) : b ≠ M := by
  rintro rfl
  obtain ⟨es, c, hm⟩ := hm.isMap
  obtain ⟨-, -, cur, hc⟩ := h.block b hb
  rw [hc] at hm; cases hm
theorem own_blk_ne {α : Type} {Kk : Kd α} {v : Value} {l : List α} {base b : Nat} {cs : Array Value} {T : TypeId} (h : OwnK Kk w base v l) (hb : v.ownBlock = some b) (hg : Blk w g cs T) (hT : Kk.T ≠ T) : b ≠ g := by
  rintro rfl
  obtain ⟨-, -, cur, hc⟩ := h.block b hb
  unfold Blk at hg
  rw [hg] at hc
  injection hc with hc
  injection hc with h1 h2 h3
  exact hT h2.symm
theorem zeroMb (w : World) : (zeroValue 57).run Tryz.prog w = .ok (.agg #[.int .i64 0, .slice none 0 0]) w := Tryz.zeroValue57 w
theorem zeroI (w : World) : (zeroValue 3).run Tryz.prog w = .ok (.int .i64 0) w := Tryz.zeroValue3 w
/-- What a look for a member finds. -/
def slOf (G : Gp) (A : Nm → Sl) (nm : Nm) : Sl := if (G.mem nm).isSome then A nm else sl0
theorem GP.look_ok (h : GP w F g M1 M2 M3 n A pv G) (nm : Nm) (hs : nm.length ≤ maxLen) : (Instr.lookup TMb (.map (some M1)) (.string (nmS nm)) true).run Tryz.prog w = .ok (.tuple #[.agg #[.int .i64 (G.heard nm), .slice (slOf G A nm).ad (slOf G A nm).m (slOf G A nm).c], .bool (G.has nm)]) w := by
  rw [h.mem.look_ok keyN Tryz.underlying37 (zeroMb w) (keyOf_n nm hs)]
  rw [memF_str]
  unfold Gp.heard Gp.has slOf
  cases G.mem nm <;> rfl
theorem GP.look (h : GP w F g M1 M2 M3 n A pv G) (nm : Nm) (hs : nm.length ≤ maxLen) : (Instr.lookup TMb (.map (some M1)) (.string (nmS nm)) false).run Tryz.prog w = .ok (.agg #[.int .i64 (G.heard nm), .slice (slOf G A nm).ad (slOf G A nm).m (slOf G A nm).c]) w := by
  rw [h.mem.look keyN Tryz.underlying37 (zeroMb w) (keyOf_n nm hs)]
  rw [memF_str]
  unfold Gp.heard slOf
  cases G.mem nm <;> rfl
theorem map_look_ok {M : Nat} {f : Int → Option Int} (h : MapF w 3 M n (intF f)) {p : Int} (h1 : -9223372036854775808 ≤ p) (h2 : p ≤ 9223372036854775807) : (Instr.lookup TIi (.map (some M)) (.int .i64 p) true).run Tryz.prog w = .ok (.tuple #[.int .i64 ((f p).getD 0), .bool (f p).isSome]) w := by
  rw [h.look_ok keyI Tryz.underlying38 (zeroI w) (keyOf_z h1 h2)]
  rw [intF_z]
  cases f p <;> rfl
theorem map_look {M : Nat} {f : Int → Option Int} (h : MapF w 3 M n (intF f)) {p : Int} (h1 : -9223372036854775808 ≤ p) (h2 : p ≤ 9223372036854775807) : (Instr.lookup TIi (.map (some M)) (.int .i64 p) false).run Tryz.prog w = .ok (.int .i64 ((f p).getD 0)) w := by
  rw [h.look keyI Tryz.underlying38 (zeroI w) (keyOf_z h1 h2)]
  rw [intF_z]
  cases f p <;> rfl
/-- The share of a member, as a slice that lies somewhere. -/
theorem GP.shareAt (h : GP w F g M1 M2 M3 n A pv G) (nm : Nm) : OwnK kZ w 0 (slOf G A nm).v (G.share nm) := by
  unfold slOf Gp.share
  cases hm : G.mem nm with
  | none => exact OwnK.nil _ _
  | some mb => exact h.rows nm mb hm
end Go.Proofs.YtipgociofjokeaaGreat
