/- A disk in memory: its struct, its row of durable texts, its map of versions. No function of the program is named here. -/
import Derived.Test.YtikomnbhmmjfnaaGreatWide2
import Derived.Lib.SlKeysI
import Derived.Maps.Ext
import Derived.Deep.RegionLaw
import Derived.Deep.RegionHeld
namespace Go.Proofs.YtikomnbhmmjfnaaGreat
open Go.RowKit

abbrev TK : TypeId := 41
def durV (x : DBlock) : List Value := match x.dur with
  | some t => t.map bv ++ [Value.bool false]
  | none => z256 ++ [Value.bool true]
def verV (l : List Nat) : List Value := l.map bv
/-- How a map's element is read: as it is. -/
def RV (v : Value) : Option (DataW Value × List MemPlace) := some (.held v, [])
def diskV (B M n : Nat) (off : Bool) (fuse : Int) : Array Value := #[.slice (some ⟨B, 0, none⟩) n n, .map (some M), .bool off, .int .i64 fuse]
/-- The key of block i. -/
def kI (i : Nat) : Lit := .int .i64 (i : Int)
def verS (V C : Nat → Nat) (s : DSt) (i : Nat) : Value := .slice (some ⟨V i, 0, none⟩) (s.at i).vs.length (C i)
structure Pic (w : World) (F : List Nat) (D B M : Nat) (Dm : DataW Value) (V C : Nat → Nat) (s : DSt) : Prop where
  n1 : 1 ≤ s.bs.length
  n2 : s.bs.length ≤ 4096
  ok : s.ok
  top : s.fuse ≤ 9223372036854775807
  hD : w.heap[D]? = some (.cells (diskV B M s.bs.length s.off s.fuse) TK (0, 0))
  hB : w.heap[B]? = some (.cells (s.bs.flatMap durV).toArray TD (0, 0))
  hM : w.ownsMap Tryz.prog 3 RV M (Maps.size Dm) Dm
  has : ∀ kl, Maps.has Dm kl = true ↔ ∃ i, i < s.bs.length ∧ kl = kI i ∧ (s.at i).vs ≠ []
  look : ∀ i, i < s.bs.length → (s.at i).vs ≠ [] → ∀ z, Dm.atKey (kI i) z = .held (verS V C s i)
  row : ∀ i, i < s.bs.length → (s.at i).vs ≠ [] → w.ownsRow 0 TB 256 (verS V C s i) (s.at i).vs.length ((s.at i).vs.flatMap verV)
  apart : ∀ i j, i < s.bs.length → j < s.bs.length → i ≠ j → (s.at i).vs ≠ [] → (s.at j).vs ≠ [] → V i ≠ V j
  mD : D ∈ F
  mB : B ∈ F
  mM : M ∈ F
  mV : ∀ i, i < s.bs.length → (s.at i).vs ≠ [] → V i ∈ F
  lt : ∀ g ∈ F, g < w.heap.size
def Dk (w : World) (F : List Nat) (D : Nat) (s : DSt) : Prop := ∃ B M Dm V C, Pic w F D B M Dm V C s

variable {w w' : World} {F : List Nat} {D B M : Nat} {Dm : DataW Value} {V C : Nat → Nat} {s : DSt}
theorem durV_len {x : DBlock} (h : ∀ t, x.dur = some t → t.length = 256 ∧ ∀ y ∈ t, y < 256) : (durV x).length = 257 := by
  unfold durV
  cases hx : x.dur with
  | none => simp [z256_len]
  | some t => simp [(h t hx).1]
theorem Pic.durs (h : Pic w F D B M Dm V C s) : ∀ x ∈ s.bs, (durV x).length = 257 := fun x hx => durV_len (h.ok.dur x hx)
theorem Pic.vers (h : Pic w F D B M Dm V C s) {i : Nat} (hi : i < s.bs.length) : ∀ l ∈ (s.at i).vs, (verV l).length = 256 := fun l hl => by
  unfold verV; rw [List.length_map]; exact (h.ok.vs _ (at_mem hi) l hl).1
theorem bv_one1 (x : Nat) : (bv x).oneCell' = true := rfl
theorem verV_one (l : List Nat) : ∀ v ∈ verV l, v.oneCell' = true := fun v hv => by
  obtain ⟨x, _, rfl⟩ := List.mem_map.1 hv; rfl
theorem z256_one : ∀ v ∈ z256, v.oneCell' = true := fun v hv => by rw [z256, List.mem_replicate] at hv; rw [hv.2]; rfl
theorem ownsMap_kept {n : Nat} (h : w.ownsMap Tryz.prog 3 RV M n Dm) (hk : w'.heap[M]? = w.heap[M]?) : w'.ownsMap Tryz.prog 3 RV M n Dm := by
  obtain ⟨es, clock, hb, r⟩ := h
  exact ⟨es, clock, hk.trans hb, r⟩
theorem ownsRow_kept {base e size : Nat} {g n cap : Nat} {xs : List Value} (h : w.ownsRow base e size (.slice (some ⟨g, 0, none⟩) n cap) n xs) (hk : w'.heap[g]? = w.heap[g]?) : w'.ownsRow base e size (.slice (some ⟨g, 0, none⟩) n cap) n xs := by
  refine ⟨h.1, ?_⟩
  rcases h.2 with ⟨h1, _⟩ | ⟨g', cap', cur, e1, r1, r2, r3⟩
  · cases h1
  · cases e1
    exact Or.inr ⟨g, cap, cur, rfl, r1, hk.trans r2, r3⟩
theorem Pic.keep (h : Pic w F D B M Dm V C s) (hk : ∀ g ∈ F, w'.heap[g]? = w.heap[g]?) (hs : w.heap.size ≤ w'.heap.size) : Pic w' F D B M Dm V C s :=
  ⟨h.n1, h.n2, h.ok, h.top, (hk D h.mD).trans h.hD, (hk B h.mB).trans h.hB, ownsMap_kept h.hM (hk M h.mM), h.has, h.look, fun i hi hv => ownsRow_kept (h.row i hi hv) (hk _ (h.mV i hi hv)), h.apart, h.mD, h.mB, h.mM, h.mV, fun g hg => Nat.lt_of_lt_of_le (h.lt g hg) hs⟩
theorem Dk.keep (h : Dk w F D s) (hk : ∀ g ∈ F, w'.heap[g]? = w.heap[g]?) (hs : w.heap.size ≤ w'.heap.size) : Dk w' F D s := by
  obtain ⟨B, M, Dm, V, C, h⟩ := h
  exact ⟨B, M, Dm, V, C, h.keep hk hs⟩
theorem Dk.lt (h : Dk w F D s) : ∀ g ∈ F, g < w.heap.size := by
  obtain ⟨B, M, Dm, V, C, h⟩ := h
  exact h.lt
theorem Dk.ok (h : Dk w F D s) : s.ok := by
  obtain ⟨B, M, Dm, V, C, h⟩ := h
  exact h.ok
theorem Dk.below (h : Dk w F D s) (hb : Below w.heap.size w w') : Dk w' F D s := h.keep (fun g hg => hb.block g (h.lt g hg)) hb.size
theorem Pic.below (h : Pic w F D B M Dm V C s) (hb : Below w.heap.size w w') : Pic w' F D B M Dm V C s := h.keep (fun g hg => hb.block g (h.lt g hg)) hb.size
theorem Pic.ltD (h : Pic w F D B M Dm V C s) : D < w.heap.size := h.lt D h.mD
theorem Pic.cell (h : Pic w F D B M Dm V C s) (i : Nat) : w.cell? ⟨D, i, none⟩ = (diskV B M s.bs.length s.off s.fuse)[i]? := cell_of_row _ _ _ _ _ _ h.hD
theorem Pic.free (h : Pic w F D B M Dm V C s) (i : Nat) : w.frozen? ⟨D, i, none⟩ = false := by simp [World.frozen?, h.hD]
/-- All four cells of the struct. -/
theorem Pic.cells (h : Pic w F D B M Dm V C s) : w.cell? ⟨D, 0, none⟩ = some (.slice (some ⟨B, 0, none⟩) s.bs.length s.bs.length) ∧ w.cell? ⟨D, 1, none⟩ = some (.map (some M)) ∧ w.cell? ⟨D, 2, none⟩ = some (.bool s.off) ∧ w.cell? ⟨D, 3, none⟩ = some (.int .i64 s.fuse) :=
  ⟨h.cell 0, h.cell 1, h.cell 2, h.cell 3⟩
theorem Pic.neDB (h : Pic w F D B M Dm V C s) : D ≠ B := fun e => by
  have h1 := h.hD
  rw [e, h.hB] at h1
  injection h1 with h1
  injection h1 with h1 h2
  exact absurd h2 (by decide)
theorem Pic.neM (h : Pic w F D B M Dm V C s) : D ≠ M ∧ B ≠ M := by
  obtain ⟨es, clock, hb, _⟩ := h.hM
  refine ⟨fun e => ?_, fun e => ?_⟩
  · have h1 := h.hD; rw [e, hb] at h1; cases h1
  · have h1 := h.hB; rw [e, hb] at h1; cases h1
theorem Pic.rowBlock (h : Pic w F D B M Dm V C s) {i : Nat} (hi : i < s.bs.length) (hv : (s.at i).vs ≠ []) : ∃ cur, w.heap[V i]? = some (.cells cur TB (0, 0)) ∧ (s.at i).vs.length ≤ C i ∧ C i ≤ maxLen ∧ cur.size = C i * 256 ∧ cur.toList.take ((s.at i).vs.length * 256) = (s.at i).vs.flatMap verV := by
  rcases (h.row i hi hv).2 with ⟨h1, _⟩ | ⟨g', cap', cur, e1, r1, r2, r3⟩
  · cases h1
  · cases e1
    exact ⟨cur, r2, r3⟩
theorem Pic.neV (h : Pic w F D B M Dm V C s) {i : Nat} (hi : i < s.bs.length) (hv : (s.at i).vs ≠ []) : V i ≠ D ∧ V i ≠ B ∧ V i ≠ M := by
  obtain ⟨cur, hc, _⟩ := h.rowBlock hi hv
  refine ⟨fun e => ?_, fun e => ?_, fun e => ?_⟩
  · rw [e, h.hD] at hc; injection hc with hc; injection hc with h1 h2; exact absurd h2 (by decide)
  · rw [e, h.hB] at hc; injection hc with hc; injection hc with h1 h2; exact absurd h2 (by decide)
  · obtain ⟨es, clock, hb, _⟩ := h.hM
    rw [e, hb] at hc; cases hc
theorem keyI : Maps.Keyed Tryz.prog 3 := Maps.int_keyed Tryz.underlying3
theorem keyOf_i {i : Nat} (hi : i < 9223372036854775808) : keyOf Tryz.prog 3 (.int .i64 (i : Int)) = some (kI i) := Maps.keyOf_int_mk Tryz.underlying3 (by have h1 : IntKind.i64.min = -9223372036854775808 := rfl; have h2 : IntKind.i64.max = 9223372036854775807 := rfl; simp [Lit.wf, h1, h2]; omega)
theorem isKey_i (i : Nat) : WideAt.IsKeyLit (kI i) := trivial
theorem kI_inj {i j : Nat} (h : kI i = kI j) : i = j := by unfold kI at h; injection h with _ h; omega
/-- What is looked up at a block. -/
def verN (V C : Nat → Nat) (s : DSt) (i : Nat) : Value := if (s.at i).vs = [] then .slice none 0 0 else verS V C s i
theorem Pic.lookup (h : Pic w F D B M Dm V C s) {i : Nat} (hi : i < s.bs.length) : (Instr.lookup 39 (.map (some M)) (.int .i64 (i : Int)) false).run Tryz.prog w = .ok (verN V C s i) w := by
  have hn := h.n2
  obtain ⟨v, ps, hr, hv⟩ := h.hM.lookup (t := 39) (e := 141) keyI Tryz.underlying39 (Tryz.zeroValue141 w) (zd := .held (.slice none 0 0)) (zp := []) rfl (keyOf_i (i := i) (by omega))
  rw [hr]
  simp only [RV, Option.some.injEq, Prod.mk.injEq] at hv
  unfold verN
  by_cases h0 : (s.at i).vs = []
  · rw [if_pos h0]
    have h1 : Maps.has Dm (kI i) = false := by
      rw [Bool.eq_false_iff]
      intro h2
      obtain ⟨j, _, e, h3⟩ := (h.has _).1 h2
      exact h3 (by rw [← kI_inj e]; exact h0)
    have h2 := hv.1
    rw [Maps.atKey_of_not_has h1] at h2
    rw [DataW.held.inj h2]
  · rw [if_neg h0]
    have h2 := hv.1
    rw [h.look i hi h0] at h2
    rw [DataW.held.inj h2]
end Go.Proofs.YtikomnbhmmjfnaaGreat

/- What becomes of a disk in memory: a durable text more, a version more, a key less; which blocks are dirty. No function of the program is named here. -/
namespace Go.Proofs.YtikomnbhmmjfnaaGreat
open Go.RowKit
variable {w w' : World} {F : List Nat} {D B M : Nat} {Dm : DataW Value} {V C : Nat → Nat} {s : DSt}

/-- A tighter bound on the entries. -/
theorem ownsMap_tight {n : Nat} (h : w.ownsMap Tryz.prog 3 RV M n Dm) : w.ownsMap Tryz.prog 3 RV M (Maps.size Dm) Dm := by
  obtain ⟨es, clock, hb, Ft, hs, hD⟩ := h
  refine ⟨es, clock, hb, Ft, ?_, hD⟩
  rw [hD]
  simp [Maps.size, length_sorted]
/-- The numbers of the dirty blocks, rising. -/
def dirt : List DBlock → Nat → List Nat
  | [], _ => []
  | x :: xs, k => if x.vs = [] then dirt xs (k + 1) else k :: dirt xs (k + 1)
theorem dirt_len : ∀ (bs : List DBlock) (k : Nat), (dirt bs k).length = dirtyBs bs
  | [], _ => rfl
  | x :: xs, k => by
    unfold dirt dirtyBs
    split
    · rw [dirt_len xs]; omega
    · rw [List.length_cons, dirt_len xs]; omega
theorem dirt_ge : ∀ (bs : List DBlock) (k i : Nat), i ∈ dirt bs k → k ≤ i
  | [], _, _, h => by cases h
  | x :: xs, k, i, h => by
    unfold dirt at h
    split at h
    · have := dirt_ge xs (k + 1) i h; omega
    · rcases List.mem_cons.1 h with h | h
      · omega
      · have := dirt_ge xs (k + 1) i h; omega
theorem dirt_sorted : ∀ (bs : List DBlock) (k : Nat), (dirt bs k).Pairwise (· < ·)
  | [], _ => List.Pairwise.nil
  | x :: xs, k => by
    unfold dirt
    split
    · exact dirt_sorted xs (k + 1)
    · exact List.pairwise_cons.2 ⟨fun i hi => by have := dirt_ge xs (k + 1) i hi; omega, dirt_sorted xs (k + 1)⟩
theorem dirt_mem : ∀ (bs : List DBlock) (k i : Nat), i ∈ dirt bs k ↔ ∃ j, j < bs.length ∧ i = k + j ∧ (bs.getD j b0).vs ≠ []
  | [], k, i => by simp [dirt]
  | x :: xs, k, i => by
    have ih := dirt_mem xs (k + 1) i
    unfold dirt
    constructor
    · intro h
      split at h
      · obtain ⟨j, h1, h2, h3⟩ := ih.1 h
        exact ⟨j + 1, by simp; omega, by omega, by simpa using h3⟩
      · rename_i h0
        rcases List.mem_cons.1 h with h | h
        · exact ⟨0, by simp, by omega, by simpa using h0⟩
        · obtain ⟨j, h1, h2, h3⟩ := ih.1 h
          exact ⟨j + 1, by simp; omega, by omega, by simpa using h3⟩
    · rintro ⟨j, h1, h2, h3⟩
      cases j with
      | zero =>
        have h0 : x.vs ≠ [] := by simpa using h3
        rw [if_neg h0]
        exact List.mem_cons.2 (Or.inl (by omega))
      | succ j =>
        have h4 : i ∈ dirt xs (k + 1) := ih.2 ⟨j, by simp at h1; omega, by omega, by simpa using h3⟩
        split
        · exact h4
        · exact List.mem_cons.2 (Or.inr h4)
theorem dirt_at (s : DSt) (i : Nat) : i ∈ dirt s.bs 0 ↔ i < s.bs.length ∧ (s.at i).vs ≠ [] := by
  rw [dirt_mem]
  constructor
  · rintro ⟨j, h1, h2, h3⟩
    obtain rfl : i = j := by omega
    exact ⟨h1, h3⟩
  · rintro ⟨h1, h2⟩
    exact ⟨i, h1, by omega, h2⟩
/-- The keys of the map. -/
theorem Pic.keys (h : Pic w F D B M Dm V C s) : ((dirt s.bs 0).map (fun i : Nat => (i : Int))).Perm (intKeys Dm) := by
  obtain ⟨es, hD, hpw, _⟩ := h.hM.entries keyI
  obtain ⟨es', hD', hko⟩ := h.hM.keysOf
  obtain rfl : es = es' := by rw [hD] at hD'; simpa using hD'
  have hh := h.has
  subst hD
  refine perm_intKeys hpw (fun p hp => by obtain ⟨v, hv⟩ := hko p hp; obtain ⟨x, _, hx, _⟩ := Maps.keyOf_i64 Tryz.underlying3 hv; exact ⟨x, hx⟩) ?_ ?_
  · exact List.pairwise_map.2 ((dirt_sorted s.bs 0).imp (fun {a b} hab e => by omega))
  · intro x
    rw [hh, List.mem_map]
    constructor
    · rintro ⟨i, hi, rfl⟩
      exact ⟨i, ((dirt_at s i).1 hi).1, rfl, ((dirt_at s i).1 hi).2⟩
    · rintro ⟨i, h1, h2, h3⟩
      refine ⟨i, (dirt_at s i).2 ⟨h1, h3⟩, ?_⟩
      unfold kI at h2
      injection h2 with _ h2
      exact h2.symm
theorem Pic.size (h : Pic w F D B M Dm V C s) : Maps.size Dm = dirtyD s := by
  have h1 := h.keys.length_eq
  rw [List.length_map, dirt_len] at h1
  obtain ⟨es, rfl, _⟩ := h.hM.entries keyI
  rw [dirtyD, h1]
  simp [Maps.size, intKeys]
theorem dirtyBs_le : ∀ bs : List DBlock, dirtyBs bs ≤ bs.length
  | [] => Nat.le_refl _
  | x :: xs => by have := dirtyBs_le xs; unfold dirtyBs; split <;> simp <;> omega
theorem setB_len (s : DSt) (i : Nat) (x : DBlock) : (s.setB i x).bs.length = s.bs.length := by simp [DSt.setB]
theorem mem_setB {s : DSt} {i : Nat} {x y : DBlock} (h : y ∈ (s.setB i x).bs) : y = x ∨ y ∈ s.bs := mem_set h
theorem setB_ok {s : DSt} (h : s.ok) {i : Nat} {x : DBlock} (h1 : ∀ t, x.dur = some t → t.length = 256 ∧ ∀ y ∈ t, y < 256) (h2 : ∀ t ∈ x.vs, t.length = 256 ∧ ∀ y ∈ t, y < 256) : (s.setB i x).ok :=
  ⟨fun y hy => (mem_setB hy).elim (fun e => by rw [e]; exact h1) (h.dur y), fun y hy => (mem_setB hy).elim (fun e => by rw [e]; exact h2) (h.vs y), h.fuse⟩
/-- Another durable text of block i. -/
theorem Pic.dur (h : Pic w F D B M Dm V C s) {i : Nat} (hi : i < s.bs.length) (d : Option (List Nat)) (hd : ∀ t, d = some t → t.length = 256 ∧ ∀ y ∈ t, y < 256) (hb : Chg [B] w w')
    (hB : w'.heap[B]? = some (.cells ((s.bs.flatMap durV).take (i * 257) ++ durV ⟨d, []⟩ ++ (s.bs.flatMap durV).drop (i * 257 + 257)).toArray TD (0, 0))) : Pic w' F D B M Dm V C (s.setB i ⟨d, (s.at i).vs⟩) := by
  have hk : ∀ g ∈ F, g ≠ B → w'.heap[g]? = w.heap[g]? := fun g hg hne => hb.block g (h.lt g hg) (by simpa using hne)
  have hvs : ∀ j, ((s.setB i ⟨d, (s.at i).vs⟩).at j).vs = (s.at j).vs := fun j => by rw [setB_at _ _ _ _ hi]; split; rename_i e; rw [e]; rfl
  have hS : ∀ j, verS V C (s.setB i ⟨d, (s.at i).vs⟩) j = verS V C s j := fun j => by unfold verS; rw [hvs]
  refine ⟨by rw [setB_len]; exact h.n1, by rw [setB_len]; exact h.n2, setB_ok h.ok hd (h.ok.vs (s.at i) (at_mem hi)), h.top, ?_, ?_, ownsMap_kept h.hM (hk M h.mM (fun e => h.neM.2 e.symm)), ?_, ?_, ?_, ?_, h.mD, h.mB, h.mM, ?_, fun g hg => Nat.lt_of_lt_of_le (h.lt g hg) hb.size⟩
  · rw [setB_len]; exact (hk D h.mD h.neDB).trans h.hD
  · rw [hB]
    unfold DSt.setB
    rw [flat_set durV 257 s.bs h.durs i _ hi, List.append_assoc]
    rfl
  · intro kl
    rw [h.has kl, setB_len]
    simp only [hvs]
  · intro j hj hv z
    rw [setB_len] at hj
    rw [hvs] at hv
    rw [hS]
    exact h.look j hj hv z
  · intro j hj hv
    rw [setB_len] at hj
    rw [hvs] at hv ⊢
    rw [hS]
    exact ownsRow_kept (h.row j hj hv) (hk _ (h.mV j hj hv) (h.neV hj hv).2.1)
  · intro a b ha hb2 hab hva hvb
    rw [setB_len] at ha hb2
    rw [hvs] at hva hvb
    exact h.apart a b ha hb2 hab hva hvb
  · intro j hj hv
    rw [setB_len] at hj
    rw [hvs] at hv
    exact h.mV j hj hv
/-- The versions of block i are gone. -/
theorem Pic.del (h : Pic w F D B M Dm V C s) {i : Nat} (hi : i < s.bs.length) (hb : Chg [M] w w') {n : Nat} (hM : w'.ownsMap Tryz.prog 3 RV M n (Dm.del (kI i))) : Pic w' F D B M (Dm.del (kI i)) V C (s.setB i ⟨(s.at i).dur, []⟩) := by
  have hk : ∀ g ∈ F, g ≠ M → w'.heap[g]? = w.heap[g]? := fun g hg hne => hb.block g (h.lt g hg) (by simpa using hne)
  have hat : ∀ j, (s.setB i ⟨(s.at i).dur, []⟩).at j = if j = i then ⟨(s.at i).dur, []⟩ else s.at j := fun j => setB_at _ _ _ _ hi
  have hvs : ∀ j, ((s.setB i ⟨(s.at i).dur, []⟩).at j).vs ≠ [] → j ≠ i ∧ (s.at j).vs ≠ [] ∧ (s.setB i ⟨(s.at i).dur, []⟩).at j = s.at j := fun j hj => by
    rw [hat] at hj
    split at hj
    · exact absurd rfl hj
    · rename_i e
      exact ⟨e, hj, by rw [hat, if_neg e]⟩
  refine ⟨by rw [setB_len]; exact h.n1, by rw [setB_len]; exact h.n2, setB_ok h.ok (h.ok.dur (s.at i) (at_mem hi)) (fun t ht => by cases ht), h.top, ?_, ?_, ownsMap_tight hM, ?_, ?_, ?_, ?_, h.mD, h.mB, h.mM, ?_, fun g hg => Nat.lt_of_lt_of_le (h.lt g hg) hb.size⟩
  · rw [setB_len]; exact (hk D h.mD h.neM.1).trans h.hD
  · rw [hk B h.mB h.neM.2, h.hB]
    unfold DSt.setB
    rw [flat_set durV 257 s.bs h.durs i _ hi]
    congr 3
    have e : durV ⟨(s.at i).dur, []⟩ = durV (s.at i) := rfl
    have e2 := flat_set durV 257 s.bs h.durs i (s.at i) hi
    rw [e, ← e2]
    congr 1
    unfold DSt.at
    rw [List.getD_eq_getElem?_getD, List.getElem?_eq_getElem hi]
    simp
  · intro kl
    by_cases e : kl = kI i
    · subst e
      rw [Maps.has_del_same]
      constructor
      · intro h0; cases h0
      · rintro ⟨j, h1, h2, h3⟩
        exact absurd (kI_inj h2).symm (hvs j h3).1
    · rw [Maps.has_del_other e, h.has kl, setB_len]
      constructor
      · rintro ⟨j, h1, h2, h3⟩
        refine ⟨j, h1, h2, ?_⟩
        rw [hat, if_neg (fun e2 => e (by rw [h2, e2]))]
        exact h3
      · rintro ⟨j, h1, h2, h3⟩
        exact ⟨j, h1, h2, (hvs j h3).2.1⟩
  · intro j hj hv z
    rw [setB_len] at hj
    obtain ⟨h1, h2, h3⟩ := hvs j hv
    rw [Maps.atKey_del_other (fun e => h1 (kI_inj e)), h.look j hj h2]
    unfold verS
    rw [h3]
  · intro j hj hv
    rw [setB_len] at hj
    obtain ⟨h1, h2, h3⟩ := hvs j hv
    have h4 := ownsRow_kept (h.row j hj h2) (hk _ (h.mV j hj h2) (h.neV hj h2).2.2)
    unfold verS
    rw [h3]
    exact h4
  · intro a b ha hb2 hab hva hvb
    rw [setB_len] at ha hb2
    exact h.apart a b ha hb2 hab (hvs a hva).2.1 (hvs b hvb).2.1
  · intro j hj hv
    rw [setB_len] at hj
    exact h.mV j hj (hvs j hv).2.1
end Go.Proofs.YtikomnbhmmjfnaaGreat

/- The looks of package disk: made, has, Blocks, Down; a store into the struct. -/
namespace Go.Proofs.YtikomnbhmmjfnaaGreat
open Go.RowKit
variable {w : World} {F : List Nat} {D B M : Nat} {Dm : DataW Value} {V C : Nat → Nat} {s : DSt}

set_option maxRecDepth 100000 in
set_option maxHeartbeats 1000000 in
theorem made_pic (h : Pic w F D B M Dm V C s) : Calls Tryz.prog 58 #[.pointer (some ⟨D, 0, none⟩)] w fun e w' => e = .returned (.bool true) ∧ w' = w := by
  obtain ⟨c0, -, -, -⟩ := h.cells
  have n1 := h.n1
  generalize s.bs.length = n at *
  clear h
  go_enter Tryz.func58, Tryz.ntmps58
  go_wp2
  all_goals go_ret
  all_goals simp
  all_goals omega
set_option maxRecDepth 100000 in
set_option maxHeartbeats 1000000 in
theorem has_pic (h : Pic w F D B M Dm V C s) (i : Int) : Calls Tryz.prog 75 #[.pointer (some ⟨D, 0, none⟩), .int .i64 i] w fun e w' => e = .returned (.bool (s.has i)) ∧ w' = w := by
  obtain ⟨c0, -, -, -⟩ := h.cells
  have hm := made_pic h
  unfold DSt.has
  generalize s.bs.length = n at *
  clear h
  go_enter Tryz.func75, Tryz.ntmps75
  go_wp2_with (go_at_call 58; refine hm.mono ?_; rintro e w' ⟨rfl, hw'⟩; obtain rfl := hw'.symm)
  all_goals go_ret
  all_goals simp
  all_goals omega
set_option maxRecDepth 100000 in
set_option maxHeartbeats 1000000 in
theorem blocks_pic (h : Pic w F D B M Dm V C s) : Calls Tryz.prog 43 #[.pointer (some ⟨D, 0, none⟩)] w fun e w' => e = .returned (.int .i64 (s.bs.length : Nat)) ∧ w' = w := by
  obtain ⟨c0, -, -, -⟩ := h.cells
  have hm := made_pic h
  generalize s.bs.length = n at *
  clear h
  go_enter Tryz.func43, Tryz.ntmps43
  go_wp2_with (go_at_call 58; refine hm.mono ?_; rintro e w' ⟨rfl, hw'⟩; obtain rfl := hw'.symm)
  all_goals go_ret
  all_goals simp
set_option maxRecDepth 100000 in
set_option maxHeartbeats 1000000 in
theorem down_pic (h : Pic w F D B M Dm V C s) : Calls Tryz.prog 40 #[.pointer (some ⟨D, 0, none⟩)] w fun e w' => e = .returned (.bool s.off) ∧ w' = w := by
  obtain ⟨-, -, c2, -⟩ := h.cells
  have hm := made_pic h
  generalize s.off = n at *
  clear h
  go_enter Tryz.func40, Tryz.ntmps40
  go_wp2_with (go_at_call 58; refine hm.mono ?_; rintro e w' ⟨rfl, hw'⟩; obtain rfl := hw'.symm)
  all_goals go_ret
  all_goals simp
/-- The disk behind a store into its struct. -/
theorem Pic.set (h : Pic w F D B M Dm V C s) (off : Bool) (fuse : Int) {w' : World} (hb : Chg [D] w w') (hD : w'.heap[D]? = some (.cells (diskV B M s.bs.length off fuse) TK (0, 0))) (h1 : -1 ≤ fuse) (h2 : fuse ≤ 9223372036854775807) : Pic w' F D B M Dm V C ⟨s.bs, off, fuse⟩ := by
  have hk : ∀ g ∈ F, g ≠ D → w'.heap[g]? = w.heap[g]? := fun g hg hne => hb.block g (h.lt g hg) (by simpa using hne)
  exact ⟨h.n1, h.n2, ⟨h.ok.dur, h.ok.vs, h1⟩, h2, hD, (hk B h.mB (fun e => h.neDB e.symm)).trans h.hB, ownsMap_kept h.hM (hk M h.mM (fun e => h.neM.1 e.symm)), h.has, h.look, fun i hi hv => ownsRow_kept (h.row i hi hv) (hk _ (h.mV i hi hv) (h.neV hi hv).1), h.apart, h.mD, h.mB, h.mM, h.mV, fun g hg => Nat.lt_of_lt_of_le (h.lt g hg) hb.size⟩
theorem Pic.set3 (h : Pic w F D B M Dm V C s) (fuse : Int) : (w.setCell ⟨D, 3, none⟩ (.int .i64 fuse)).heap[D]? = some (.cells (diskV B M s.bs.length s.off fuse) TK (0, 0)) := by
  rw [heap_setCell_same w D 3 _ TK _ h.hD]; rfl
theorem Pic.set23 (h : Pic w F D B M Dm V C s) (off : Bool) (fuse : Int) : ((w.setCell ⟨D, 2, none⟩ (.bool off)).setCell ⟨D, 3, none⟩ (.int .i64 fuse)).heap[D]? = some (.cells (diskV B M s.bs.length off fuse) TK (0, 0)) := by
  rw [heap_setCell_same _ D 3 _ TK _ (heap_setCell_same w D 2 _ TK _ h.hD)]; rfl
end Go.Proofs.YtikomnbhmmjfnaaGreat

/- New of package disk. -/
namespace Go.Proofs.YtikomnbhmmjfnaaGreat
open Go.RowKit

theorem new_at (n i : Nat) : (newD n).at i = b0 := by
  unfold newD DSt.at
  rw [List.getD_eq_getElem?_getD, List.getElem?_replicate]
  split <;> rfl
theorem durV_b0 : durV b0 = z256 ++ [Value.bool false] := by
  unfold durV b0
  simp only [z256_zeros]
theorem flat_rep {α β : Type} (n : Nat) (x : α) (f g : α → List β) (h : f x = g x) : (List.replicate n x).flatMap f = (List.replicate n x).flatMap g := by
  induction n with
  | zero => rfl
  | succ n ih => rw [List.replicate_succ, List.flatMap_cons, List.flatMap_cons, ih, h]
theorem new_pic {w : World} {n B M D : Nat} (h1 : 1 ≤ n) (h2 : n ≤ 4096) (hB : w.heap[B]? = some (.cells (madeCells (z256 ++ [Value.bool false]).toArray (n * 257)) TD (0, 0))) (hM : w.heap[M]? = some (.map #[] 0)) (hD : w.heap[D]? = some (.cells (diskV B M n false (-1)) TK (0, 0))) :
    Pic w [B, M, D] D B M (.map []) (fun _ => 0) (fun _ => 0) (newD n) := by
  have hl : (newD n).bs.length = n := List.length_replicate
  have hv : ∀ i, ((newD n).at i).vs = [] := fun i => by rw [new_at]; rfl
  have lt : ∀ {g o}, w.heap[g]? = some o → g < w.heap.size := fun h => (Array.getElem?_eq_some_iff.1 h).1
  refine ⟨by omega, by omega, newD_ok n, by simp [newD], by rw [hl]; exact hD, ?_, ?_, ?_, ?_, ?_, ?_, by simp, by simp, by simp, ?_, ?_⟩
  · rw [hB]
    have h3 : (newD n).bs.flatMap durV = (List.replicate n b0).flatMap (fun _ => z256 ++ [Value.bool false]) := by
      exact flat_rep n b0 durV (fun _ => z256 ++ [Value.bool false]) durV_b0
    rw [h3, ← made_row]
  · exact (show w.ownsMap Tryz.prog 3 RV M 0 (.map []) from ⟨#[], 0, hM, ⟨by simp, MapKept.stamped_empty 0, by simp⟩, Nat.le_refl _, rfl⟩)
  · intro kl
    constructor
    · intro h; cases h
    · rintro ⟨i, _, _, h⟩; exact absurd (hv i) h
  · intro i _ h; exact absurd (hv i) h
  · intro i _ h; exact absurd (hv i) h
  · intro i j _ _ _ h; exact absurd (hv i) h
  · intro i _ h; exact absurd (hv i) h
  · intro g hg
    simp at hg
    rcases hg with rfl | rfl | rfl
    · exact lt hB
    · exact lt hM
    · exact lt hD
set_option maxRecDepth 100000 in
set_option maxHeartbeats 2000000 in
theorem new_ok (n : Int) (w : World) (h1 : 1 ≤ n) (h2 : n ≤ 4096) : Calls Tryz.prog 23 #[.int .i64 n] w fun x w' => ∃ F D, x = .returned (.tuple #[.pointer (some ⟨D, 0, none⟩), .int .i64 0]) ∧ Dk w' F D (newD n.toNat) ∧ (∀ g ∈ F, w.heap.size ≤ g) ∧ Below w.heap.size w w' := by
  obtain ⟨N, hN⟩ : ∃ N : Nat, n = N := ⟨n.toNat, by omega⟩
  subst hN
  obtain ⟨it, i1, i2, i3, i4⟩ := info_parts Tryz.infoD
  have hmm : ∀ w, (Instr.makeMap 39 none).run Tryz.prog w = .ok (.map (some w.heap.size)) (w.alloc (.map #[] 0)) := fun w => run_makeMap _ w
  go_enter Tryz.func23, Tryz.ntmps23
  go_wp2_with (at_make; refine wpList_make_full _ rfl _ _ _ rfl w.heap.size TD it _ 257 Tryz.underlying38 i1 i2 i3 .i64 .i64 _ _ N rfl rfl rfl rfl (by rw [i4]; omega) (by unfold maxLen; omega) (Nat.le_refl _) ?_; intro w1 hrow hgr; have HR : Hid (w1.ownsRow w.heap.size TD 257 (.slice (some ⟨w.heap.size, 0, none⟩) N N) N (madeCells (z256 ++ [Value.bool false]).toArray (N * 257)).toList) := hrow; have HG : Hid (w.grownBy w1 none) := hgr; clear hrow hgr)
  go_ret2
  have hB : w1.heap[w.heap.size]? = some (.cells (madeCells (z256 ++ [Value.bool false]).toArray (N * 257)) TD (0, 0)) := by
    rcases HR.out.2 with ⟨e, _⟩ | ⟨g, cap, cur, e, _, r2, _, _, r5, r6⟩
    · cases e
    · cases e
      rw [r2]
      have : cur = madeCells (z256 ++ [Value.bool false]).toArray (N * 257) := by
        apply Array.toList_inj.1
        rw [← r6, List.take_of_length_le (by rw [Array.length_toList, r5]; exact Nat.le_refl _)]
      rw [this]
  have hlt : w.heap.size < w1.heap.size := (Array.getElem?_eq_some_iff.1 hB).1
  have h3 : (↑N : Int).toNat = N := by omega
  rw [h3]
  refine ⟨[w.heap.size, w1.heap.size, w1.heap.size + 1], w1.heap.size + 1, rfl, ⟨_, _, _, _, _, new_pic (by omega) (by omega) ?_ (heap_alloc2_old _ _ _) (heap_alloc2_new _ _ _)⟩, ?_, ?_⟩
  · rw [heap_alloc_old _ _ (by simp; omega), heap_alloc_old _ _ hlt]
    exact hB
  · intro g hg
    simp at hg
    omega
  · have b1 : Below w.heap.size w w1 := ⟨HG.out.os, HG.out.tape, HG.out.output, HG.out.size, fun k hk => HG.out.block k hk (by simp)⟩
    exact (b1.alloc (by omega) _).alloc (by simp; omega) _
set_option maxRecDepth 100000 in
set_option maxHeartbeats 2000000 in
theorem new_no (n : Int) (w : World) (h : ¬ (1 ≤ n ∧ n ≤ 4096)) : Calls Tryz.prog 23 #[.int .i64 n] w fun x w' => x = .returned (.tuple #[.pointer none, .int .i64 1]) ∧ Below w.heap.size w w' := by
  by_cases h1 : n < 1
  · go_enter Tryz.func23, Tryz.ntmps23
    go_wp2
    go_ret2
    exact ⟨rfl, Below.refl _ _⟩
  · have h2 : 4096 < n := by omega
    go_enter Tryz.func23, Tryz.ntmps23
    go_wp2
    go_ret2
    exact ⟨rfl, Below.refl _ _⟩
end Go.Proofs.YtikomnbhmmjfnaaGreat

/- present, Read of package disk; slices.Clone of bytes. -/
namespace Go.Proofs.YtikomnbhmmjfnaaGreat
open Go.RowKit
variable {w : World} {F : List Nat} {D B M : Nat} {Dm : DataW Value} {V C : Nat → Nat} {s : DSt}

def nowV (x : DBlock) : List Value := if x.vs = [] then durV x else verV (x.vs.getLastD []) ++ [Value.bool false]
theorem Pic.durCell (h : Pic w F D B M Dm V C s) {i : Nat} (hi : i < s.bs.length) : ∀ j, j < (durV (s.at i)).length → w.cell? ⟨B, i * 257 + j, none⟩ = (durV (s.at i))[j]? := by
  intro j hj
  rw [h.durs _ (at_mem hi)] at hj
  rw [cell_of_row _ _ _ _ _ _ h.hB, List.getElem?_toArray]
  refine flat_get durV 257 s.bs h.durs i j (s.at i) ?_ hj
  unfold DSt.at
  rw [List.getD_eq_getElem?_getD, List.getElem?_eq_getElem hi]; rfl
theorem Pic.verCell (h : Pic w F D B M Dm V C s) {i : Nat} (hi : i < s.bs.length) (hv : (s.at i).vs ≠ []) {k : Nat} {l : List Nat} (hk : (s.at i).vs[k]? = some l) : ∀ j, j < (verV l).length → w.cell? ⟨V i, k * 256 + j, none⟩ = (verV l)[j]? := by
  intro j hj
  obtain ⟨cur, hc, -, -, -, ht⟩ := h.rowBlock hi hv
  have hm : l ∈ (s.at i).vs := List.mem_of_getElem? hk
  have hl := h.vers hi l hm
  rw [hl] at hj
  have hkl : k < (s.at i).vs.length := (List.getElem?_eq_some_iff.1 hk).1
  have h1 := flat_get verV 256 (s.at i).vs (h.vers hi) k j l hk hj
  rw [← ht, List.getElem?_take, if_pos (by omega)] at h1
  rw [cell_of_row _ _ _ _ _ _ hc, ← h1, Array.getElem?_toList]
theorem verD_one (l : List Nat) : ∀ v ∈ verV l ++ [Value.bool false], v.oneCell' = true := fun v hv => by
  rcases List.mem_append.1 hv with h | h
  · exact verV_one l v h
  · simp at h; rw [h]; rfl
theorem durV_one (x : DBlock) : ∀ v ∈ durV x, v.oneCell' = true := fun v hv => by
  unfold durV at hv
  split at hv
  · exact verD_one _ v hv
  · rcases List.mem_append.1 hv with h | h
    · exact z256_one v h
    · simp at h; rw [h]; rfl
set_option maxRecDepth 100000 in
set_option maxHeartbeats 2000000 in
theorem present_pic (h : Pic w F D B M Dm V C s) (i : Nat) (hi : i < s.bs.length) : Calls Tryz.prog 76 #[.pointer (some ⟨D, 0, none⟩), .int .i64 (i : Int)] w fun e w' => e = .returned (.agg (nowV (s.at i)).toArray) ∧ Below w.heap.size w w' := by
  obtain ⟨c0, c1, -, -⟩ := h.cells
  have hn := h.n2
  have hltD := h.ltD
  have hlook := (h.below ((Below.refl _ w).alloc (Nat.le_refl _) (.cells Tryz.zeroCells131 TD))).lookup hi
  have HP : Hid (Pic w F D B M Dm V C s) := h
  clear h
  unfold verN at hlook
  by_cases hv : (s.at i).vs = []
  · rw [if_pos hv] at hlook
    unfold nowV
    rw [if_pos hv]
    go_enter Tryz.func76, Tryz.ntmps76
    go_wp2_with (first
      | (refine load_wide rfl TD _ rfl _ Tryz.underlying131 rfl (durV (s.at i)) (by rw [HP.out.durs _ (at_mem hi)]; exact sizeD) B (i * 257) rfl ((HP.out.below ((Below.refl _ w).alloc (Nat.le_refl _) _)).durCell hi) ?_)
      | (refine store_new (w0 := w) rfl TD _ _ rfl (durV (s.at i)) (by rw [HP.out.durs _ (at_mem hi)]; exact sizeD) rfl rfl TD Tryz.zeroCells131 rfl (by rw [HP.out.durs _ (at_mem hi), zcD]; simp [z256_len]) (durV_one _) ?_))
    refine bodyPost_ret (results_cell_row Tryz.results76 _ _ w.heap.size TD _ (0, 0) _ rfl (heap_alloc_last _ _) Tryz.underlying131 rfl (by rw [List.size_toArray, HP.out.durs _ (at_mem hi)]; exact sizeD)) rfl ⟨rfl, (Below.refl _ w).alloc (Nat.le_refl _) _⟩
  · rw [if_neg hv] at hlook
    unfold nowV
    rw [if_neg hv]
    obtain ⟨l, hl⟩ : ∃ l, (s.at i).vs.getLast? = some l := by cases hq : (s.at i).vs.getLast? with
      | none => exact absurd (List.getLast?_eq_none_iff.1 hq) hv
      | some l => exact ⟨l, rfl⟩
    have hlD : (s.at i).vs.getLastD [] = l := by rw [List.getLastD_eq_getLast?, hl]; rfl
    rw [hlD]
    have hk : (s.at i).vs[(s.at i).vs.length - 1]? = some l := by rw [← List.getLast?_eq_getElem?]; exact hl
    have hpos : 0 < (s.at i).vs.length := List.length_pos_iff.2 hv
    have h256 : (verV l).length = 256 := HP.out.vers hi l (List.mem_of_getElem? hk)
    have hcell := (HP.out.below ((Below.refl _ w).alloc (Nat.le_refl _) (.cells Tryz.zeroCells131 TD))).verCell hi hv hk
    have HC : Hid (∀ j, j < (verV l).length → (w.alloc (.cells Tryz.zeroCells131 TD)).cell? ⟨V i, ((s.at i).vs.length - 1) * 256 + j, none⟩ = (verV l)[j]?) := hcell
    have hmax : (s.at i).vs.length ≤ maxLen := by obtain ⟨cur, _, r1, r2, _⟩ := HP.out.rowBlock hi hv; omega
    clear hcell
    unfold verS at hlook
    have HK : Hid ((s.at i).vs ≠ []) := hv
    clear hv hl hlD hk
    unfold maxLen at hmax
    generalize (s.at i).vs.length = m at *
    obtain ⟨k, rfl⟩ : ∃ k, m = k + 1 := ⟨m - 1, by omega⟩
    simp only [Nat.add_sub_cancel] at HC
    go_enter Tryz.func76, Tryz.ntmps76
    go_wp2_with (first
      | (refine load_wide rfl TB _ rfl _ Tryz.underlying129 rfl (verV l) (by rw [h256]; exact sizeB) (V i) (k * 256) rfl HC.out ?_)
      | (refine build_text rfl _ rfl _ rfl (verV l ++ [Value.bool false]) ?_ ?_; (exact fun w => run_buildD w _ h256))
      | (refine store_new (w0 := w) rfl TD _ _ rfl (verV l ++ [Value.bool false]) (by rw [List.length_append, h256]; exact sizeD) rfl rfl TD Tryz.zeroCells131 rfl (by rw [List.length_append, h256, zcD]; simp [z256_len]) (verD_one _) ?_))
    refine bodyPost_ret (results_cell_row Tryz.results76 _ _ w.heap.size TD _ (0, 0) _ rfl (heap_alloc_last _ _) Tryz.underlying131 rfl (by rw [List.size_toArray, List.length_append, h256]; exact sizeD)) rfl ⟨rfl, (Below.refl _ w).alloc (Nat.le_refl _) _⟩
end Go.Proofs.YtikomnbhmmjfnaaGreat

/- slices.Clone of bytes; Read of package disk. -/
namespace Go.Proofs.YtikomnbhmmjfnaaGreat
open Go.RowKit
variable {w : World} {F : List Nat} {D B M : Nat} {Dm : DataW Value} {V C : Nat → Nat} {s : DSt}

set_option maxRecDepth 100000 in
set_option maxHeartbeats 1000000 in
theorem clone_any (b off n c : Nat) (l : List Nat) (w : World) (hp : Part.ok w ⟨some ⟨b, off, none⟩, n, c, l⟩) (hn : n ≤ 281474976710656 / 4) :
    Calls Tryz.prog 77 #[.slice (some ⟨b, off, none⟩) n c] w fun e w' => ∃ v, e = .returned v ∧ Own w' w.heap.size v l ∧ Below w.heap.size w w' := by
  have HP : Hid (Part.ok w ⟨some ⟨b, off, none⟩, n, c, l⟩) := hp
  clear hp
  have HO : Hid ((w.alloc (.cells #[] 5)).ownsRow w.heap.size 5 1 (.slice (some ⟨w.heap.size, 0, none⟩) 0 0) 0 (([] : List Nat).map bv)) :=
    (show Hid _ from ⟨by simp, Or.inr ⟨w.heap.size, 0, #[], rfl, Nat.le_refl _, heap_alloc_last _ _, by omega, by unfold maxLen; omega, by simp, by simp⟩⟩)
  have q : ∀ w, (binOp .eql 28 (.slice (some ⟨b, off, none⟩) n c) (.slice none 0 0)).run Tryz.prog w = .ok (.bool false) w := fun w => Lib.run_eql_slice_nil w _ _ _ n c 0 0 Tryz.underlying28
  go_enter Tryz.func77, Tryz.ntmps77
  go_wp2_with (at_builtin; refine app_any rfl _ _ rfl w.heap.size _ 0 [] rfl HO.out (some ⟨b, off, none⟩) n c l rfl HP.out.1 (by intro h; cases h) (HP.out.later ((Below.refl _ w).alloc (Nat.le_refl _) _)).2.2 (by omega) (by simp) ?_; intro v w1 hown hg)
  go_ret
  refine ⟨v, rfl, ⟨HP.out.2.2.1, by simpa [HP.out.1] using hown⟩, ?_⟩
  exact ((Below.refl w.heap.size w).alloc (Nat.le_refl _) _).grown hg (by simp) (fun k hk => by cases hk; exact Nat.le_refl _)
/-- The present text, as it is loaded. -/
theorem nowV_of {x : DBlock} : nowV x = match x.now with
    | some t => t.map bv ++ [Value.bool false]
    | none => z256 ++ [Value.bool true] := by
  unfold nowV DBlock.now durV
  by_cases h : x.vs = []
  · rw [if_pos h, if_pos h]
    all_goals (cases x.dur <;> rfl)
  · rw [if_neg h, if_neg h]
    cases hq : x.vs.getLast? with
    | none => exact absurd (List.getLast?_eq_none_iff.1 hq) h
    | some l => rw [List.getLastD_eq_getLast?, hq]; rfl
theorem now_ok {s : DSt} (h : s.ok) {x : DBlock} (hx : x ∈ s.bs) {t : List Nat} (ht : x.now = some t) : t.length = 256 ∧ ∀ y ∈ t, y < 256 := by
  unfold DBlock.now at ht
  split at ht
  · exact h.dur x hx t ht
  · exact h.vs x hx t (getLast_mem ht)
theorem text_row (w : World) (t : List Nat) (b : Value) (ht : t.length = 256 ∧ ∀ y ∈ t, y < 256) : Part.ok (w.alloc (.cells (t.map bv ++ [b]).toArray TD)) ⟨some ⟨w.heap.size, 0, none⟩, 256, 256, t⟩ := by
  refine ⟨ht.1, fun h => (by cases h), ht.2, Or.inr ⟨w.heap.size, 0, rfl, by simp, fun i hi => ?_⟩⟩
  have hi : i < t.length := hi
  show _ = some (Value.int .u8 (t.getD i 0 : Nat))
  rw [cell_of_row _ _ _ _ _ _ (heap_alloc_last _ _), List.getElem?_toArray, List.getElem?_append_left (by rw [List.length_map]; omega), List.getElem?_map, Nat.zero_add, List.getElem?_eq_getElem hi, List.getD_eq_getElem?_getD, List.getElem?_eq_getElem hi]
  rfl
theorem flag_cell (w : World) (l : List Value) (b : Value) (hl : l.length = 256) : (w.alloc (.cells (l ++ [b]).toArray TD)).cell? ⟨w.heap.size, 256, none⟩ = some b := by
  rw [cell_of_row _ _ _ _ _ _ (heap_alloc_last _ _), List.getElem?_toArray, List.getElem?_append_right (by omega), hl]
  rfl
theorem one_of {l : List Value} (h : ∀ v ∈ l, v.oneCell' = true) (b : Bool) : ∀ v ∈ l ++ [Value.bool b], v.oneCell' = true := fun v hv => by
  rcases List.mem_append.1 hv with h1 | h1
  · exact h v h1
  · simp at h1; rw [h1]; rfl
set_option maxRecDepth 100000 in
set_option maxHeartbeats 1000000 in
theorem read_pic (h : Pic w F D B M Dm V C s) (i : Int) : Calls Tryz.prog 41 #[.pointer (some ⟨D, 0, none⟩), .int .i64 i] w fun x w' => ∃ v, x = .returned (.tuple #[v, .int .i64 (readD s i).2]) ∧ Own w' w.heap.size v (readD s i).1 ∧ Below w.heap.size w w' := by
  obtain ⟨-, -, c2, -⟩ := h.cells
  have hh := has_pic h i
  unfold readD
  by_cases hi : s.has i = true
  · rw [hi] at hh
    obtain ⟨j, hj⟩ : ∃ j : Nat, i = j := ⟨i.toNat, by have := (has_lt hi).1; omega⟩
    subst hj
    have hlt : j < s.bs.length := by have := (has_lt hi).2; omega
    rw [if_pos hi]
    have hp := present_pic h j hlt
    have HP : Hid (Pic w F D B M Dm V C s) := h
    clear h
    cases hoff : s.off with
    | true =>
      rw [hoff] at c2
      go_enter Tryz.func41, Tryz.ntmps41
      go_wp2_with (go_at_call 75; refine hh.mono ?_; rintro e w' ⟨rfl, hw'⟩; obtain rfl := hw'.symm)
      go_ret2
      exact ⟨_, rfl, Own.nil _ _, Below.refl _ _⟩
    | false =>
      rw [hoff] at c2
      simp only [Bool.false_eq_true, if_false, Int.toNat_natCast]
      cases hnow : (s.at j).now with
      | none =>
        rw [nowV_of, hnow] at hp
        simp only at hp ⊢
        go_enter Tryz.func41, Tryz.ntmps41
        go_wp2_with (first
          | (go_at_call 75; refine hh.mono ?_; rintro e w' ⟨rfl, hw'⟩; obtain rfl := hw'.symm)
          | (go_at_call 76; refine hp.mono ?_; rintro e w1 ⟨rfl, b1⟩; have B1 : Hid (Below w.heap.size w w1) := b1; clear b1; have cf := flag_cell w1 z256 (.bool true) z256_len)
          | (refine store_new (w0 := w1) rfl TD _ _ rfl (z256 ++ [Value.bool true]) (by rw [List.length_append, z256_len]; exact sizeD) rfl rfl TD Tryz.zeroCells131 rfl (by rw [List.length_append, z256_len, zcD]; simp [z256_len]) (one_of z256_one _) ?_))
        go_ret2
        exact ⟨_, rfl, Own.nil _ _, B1.out.alloc B1.out.size _⟩
      | some t =>
        have ht := now_ok HP.out.ok (at_mem hlt) hnow
        have HT : Hid (t.length = 256 ∧ ∀ y ∈ t, y < 256) := ht
        have h256 : (t.map bv).length = 256 := by rw [List.length_map]; exact ht.1
        clear ht
        rw [nowV_of, hnow] at hp
        simp only at hp ⊢
        go_enter Tryz.func41, Tryz.ntmps41
        go_wp2_with (first
          | (go_at_call 75; refine hh.mono ?_; rintro e w' ⟨rfl, hw'⟩; obtain rfl := hw'.symm)
          | (go_at_call 76; refine hp.mono ?_; rintro e w1 ⟨rfl, b1⟩; have B1 : Hid (Below w.heap.size w w1) := b1; clear b1; have cf := flag_cell w1 (t.map bv) (.bool false) h256)
          | (refine store_new (w0 := w1) rfl TD _ _ rfl (t.map bv ++ [Value.bool false]) (by rw [List.length_append, h256]; exact sizeD) rfl rfl TD Tryz.zeroCells131 rfl (by rw [List.length_append, h256, zcD]; simp [z256_len]) (one_of (verV_one t) _) ?_)
          | (go_at_call 77; refine (clone_any w1.heap.size 0 256 256 t _ (text_row w1 t (.bool false) HT.out) (by omega)).mono ?_; rintro e w2 ⟨v, rfl, ho, b2⟩))
        go_ret2
        have b3 := B1.out.alloc B1.out.size (.cells (t.map bv ++ [Value.bool false]).toArray TD)
        exact ⟨v, rfl, ho.down b3.size, b3.trans (b2.mono b3.size)⟩
  · have hi2 : s.has i = false := by simpa using hi
    rw [hi2] at hh
    rw [if_neg hi]
    go_enter Tryz.func41, Tryz.ntmps41
    go_wp2_with (go_at_call 75; refine hh.mono ?_; rintro e w' ⟨rfl, hw'⟩; obtain rfl := hw'.symm)
    go_ret2
    exact ⟨_, rfl, Own.nil _ _, Below.refl _ _⟩
end Go.Proofs.YtikomnbhmmjfnaaGreat

/- operation of package disk: an operation is done, or not. -/
namespace Go.Proofs.YtikomnbhmmjfnaaGreat
open Go.RowKit
variable {w : World} {F : List Nat} {D B M : Nat} {Dm : DataW Value} {V C : Nat → Nat} {s : DSt}

theorem opD_on {s : DSt} (h : s.off = true) : opD s = (false, s) := by unfold opD; rw [if_pos h]
theorem opD_zero {s : DSt} (h : s.off = false) (h0 : s.fuse = 0) : opD s = (false, ⟨s.bs, true, -1⟩) := by unfold opD; rw [h, if_neg (by simp), if_pos h0]
theorem opD_pos {s : DSt} (h : s.off = false) (h0 : 0 < s.fuse) : opD s = (true, ⟨s.bs, false, s.fuse - 1⟩) := by unfold opD; rw [h, if_neg (by simp), if_neg (by omega), if_pos h0]
theorem opD_neg {s : DSt} (h : s.off = false) (h0 : s.fuse < 0) : opD s = (true, s) := by unfold opD; rw [h, if_neg (by simp), if_neg (by omega), if_neg (by omega)]
/-- What an operation answers, and how it leaves the world. -/
def OpPost (b : Bool) (R R' : World → Prop) (e : Ending) (w' : World) : Prop := (b = true ∧ e = .returned (.int .i64 0) ∧ R w') ∨ (b = false ∧ e = .returned (.int .i64 8) ∧ R' w')
set_option maxRecDepth 100000 in
set_option maxHeartbeats 2000000 in
theorem op_write (h : Pic w F D B M Dm V C s) (p1 p2 p3 : Value) (R : World → Prop)
    (hdo : ∀ w1, (opD s).1 = true → Pic w1 F D B M Dm V C (opD s).2 → Chg [D] w w1 → Calls Tryz.prog 106 #[p1, p2, p3] w1 fun e w' => e = .returned (.tuple #[]) ∧ R w') :
    Calls Tryz.prog 105 #[.pointer (some ⟨D, 0, none⟩), .func (.func 106) #[] #[p1, p2, p3]] w (OpPost (opD s).1 R (fun w' => Pic w' F D B M Dm V C (opD s).2 ∧ Chg [D] w w')) := by
  obtain ⟨-, -, c2, c3⟩ := h.cells
  have f2 := h.free 2
  have f3 := h.free 3
  have hf := h.ok.fuse
  have ht := h.top
  have HP : Hid (Pic w F D B M Dm V C s) := h
  have HD : Hid (∀ w1, (opD s).1 = true → Pic w1 F D B M Dm V C (opD s).2 → Chg [D] w w1 → Calls Tryz.prog 106 #[p1, p2, p3] w1 fun e w' => e = .returned (.tuple #[]) ∧ R w') := hdo
  clear h hdo
  cases hoff : s.off with
  | true =>
    rw [hoff] at c2
    rw [opD_on hoff]
    go_enter Tryz.func105, Tryz.ntmps105
    go_wp2
    go_ret
    exact Or.inr ⟨rfl, rfl, HP.out, Chg.refl _ _⟩
  | false =>
    rw [hoff] at c2
    rcases Int.lt_trichotomy s.fuse 0 with h0 | h0 | h0
    · have ho := opD_neg hoff h0
      have HX := HD.out w (by rw [ho]) (by rw [ho]; exact HP.out) (Chg.refl _ _)
      rw [ho]
      clear HD
      have hne : (s.fuse == 0) = false := by simp; omega
      go_enter Tryz.func105, Tryz.ntmps105
      go_wp2_with (go_at_call 106; refine HX.mono ?_; rintro e w2 ⟨rfl, hR⟩)
      go_ret
      exact Or.inl ⟨rfl, rfl, hR⟩
    · have ho := opD_zero hoff h0
      rw [h0] at c3
      rw [ho]
      clear HD
      go_enter Tryz.func105, Tryz.ntmps105
      go_wp2
      go_ret
      refine Or.inr ⟨rfl, rfl, ?_, ((Chg.refl [D] w).set (Or.inl (by simp)) _ _).set (Or.inl (by simp)) _ _⟩
      exact HP.out.set true (-1) (((Chg.refl [D] w).set (Or.inl (by simp)) _ _).set (Or.inl (by simp)) _ _) (HP.out.set23 true (-1)) (by omega) (by omega)
    · have ho := opD_pos hoff h0
      have hc : Chg [D] w (w.setCell ⟨D, 3, none⟩ (.int .i64 (s.fuse - 1))) := (Chg.refl [D] w).set (Or.inl (by simp)) _ _
      have HX := HD.out _ (by rw [ho]) (by rw [ho]; exact HP.out.set false (s.fuse - 1) hc (by rw [← hoff]; exact HP.out.set3 _) (by omega) (by omega)) hc
      rw [ho]
      clear HD
      have hne : (s.fuse == 0) = false := by simp; omega
      go_enter Tryz.func105, Tryz.ntmps105
      go_wp2_with (go_at_call 106; refine HX.mono ?_; rintro e w2 ⟨rfl, hR⟩)
      go_ret
      exact Or.inl ⟨rfl, rfl, hR⟩
set_option maxRecDepth 100000 in
set_option maxHeartbeats 2000000 in
theorem op_sync (h : Pic w F D B M Dm V C s) (p1 : Value) (R : World → Prop)
    (hdo : ∀ w1, (opD s).1 = true → Pic w1 F D B M Dm V C (opD s).2 → Chg [D] w w1 → Calls Tryz.prog 107 #[p1] w1 fun e w' => e = .returned (.tuple #[]) ∧ R w') :
    Calls Tryz.prog 105 #[.pointer (some ⟨D, 0, none⟩), .func (.func 107) #[] #[p1]] w (OpPost (opD s).1 R (fun w' => Pic w' F D B M Dm V C (opD s).2 ∧ Chg [D] w w')) := by
  obtain ⟨-, -, c2, c3⟩ := h.cells
  have f2 := h.free 2
  have f3 := h.free 3
  have hf := h.ok.fuse
  have ht := h.top
  have HP : Hid (Pic w F D B M Dm V C s) := h
  have HD : Hid (∀ w1, (opD s).1 = true → Pic w1 F D B M Dm V C (opD s).2 → Chg [D] w w1 → Calls Tryz.prog 107 #[p1] w1 fun e w' => e = .returned (.tuple #[]) ∧ R w') := hdo
  clear h hdo
  cases hoff : s.off with
  | true =>
    rw [hoff] at c2
    rw [opD_on hoff]
    go_enter Tryz.func105, Tryz.ntmps105
    go_wp2
    go_ret
    exact Or.inr ⟨rfl, rfl, HP.out, Chg.refl _ _⟩
  | false =>
    rw [hoff] at c2
    rcases Int.lt_trichotomy s.fuse 0 with h0 | h0 | h0
    · have ho := opD_neg hoff h0
      have HX := HD.out w (by rw [ho]) (by rw [ho]; exact HP.out) (Chg.refl _ _)
      rw [ho]
      clear HD
      have hne : (s.fuse == 0) = false := by simp; omega
      go_enter Tryz.func105, Tryz.ntmps105
      go_wp2_with (go_at_call 107; refine HX.mono ?_; rintro e w2 ⟨rfl, hR⟩)
      go_ret
      exact Or.inl ⟨rfl, rfl, hR⟩
    · have ho := opD_zero hoff h0
      rw [h0] at c3
      rw [ho]
      clear HD
      go_enter Tryz.func105, Tryz.ntmps105
      go_wp2
      go_ret
      refine Or.inr ⟨rfl, rfl, ?_, ((Chg.refl [D] w).set (Or.inl (by simp)) _ _).set (Or.inl (by simp)) _ _⟩
      exact HP.out.set true (-1) (((Chg.refl [D] w).set (Or.inl (by simp)) _ _).set (Or.inl (by simp)) _ _) (HP.out.set23 true (-1)) (by omega) (by omega)
    · have ho := opD_pos hoff h0
      have hc : Chg [D] w (w.setCell ⟨D, 3, none⟩ (.int .i64 (s.fuse - 1))) := (Chg.refl [D] w).set (Or.inl (by simp)) _ _
      have HX := HD.out _ (by rw [ho]) (by rw [ho]; exact HP.out.set false (s.fuse - 1) hc (by rw [← hoff]; exact HP.out.set3 _) (by omega) (by omega)) hc
      rw [ho]
      clear HD
      have hne : (s.fuse == 0) = false := by simp; omega
      go_enter Tryz.func105, Tryz.ntmps105
      go_wp2_with (go_at_call 107; refine HX.mono ?_; rintro e w2 ⟨rfl, hR⟩)
      go_ret
      exact Or.inl ⟨rfl, rfl, hR⟩
end Go.Proofs.YtikomnbhmmjfnaaGreat

/- 'append(versions, text)': a version more, and in which block; the disk in memory behind it. No function of the program is named here. -/
namespace Go.Proofs.YtikomnbhmmjfnaaGreat
open Go.RowKit

theorem run_app_ver {w : World} {n : Nat} {v : Value} {xs : List Value} (hown : w.ownsRow 0 TB 256 v n xs) (ty : TypeId) (g1 : Nat) (l : List Value) (hl : l.length = 256) (hc : w.heap[g1]? = some (.cells l.toArray TB (0, 0))) (h1 : ∀ u ∈ l, u.oneCell' = true) (hn : n ≤ 1073741824) :
    ∃ g' c' w', (Builtin.append_ #[141, 141] ty #[v, .slice (some ⟨g1, 0, none⟩) 1 1]).run Tryz.prog w = .ok (.slice (some ⟨g', 0, none⟩) (n + 1) c') w' ∧ (v.ownBlock = some g' ∨ g' = w.heap.size) ∧
      w'.ownsRow 0 TB 256 (.slice (some ⟨g', 0, none⟩) (n + 1) c') (n + 1) (xs ++ l) ∧ w.grownBy w' v.ownBlock := by
  obtain ⟨i0, hi, hz0, hz1, hz2⟩ := info_parts Tryz.infoB
  have hnews : ∀ j u, l[j]? = some u → w.cell? ((⟨g1, 0, none⟩ : Addr).add j) = some u := fun j u hu => by
    rw [addr_add, cell_of_row _ _ _ _ _ _ hc, List.getElem?_toArray, Nat.zero_add, hu]
  have hzc : (Value.agg z256.toArray).cells.size = 256 := by simp [Value.cells, z256_len]
  obtain ⟨v', w', hr, h2, h3, -⟩ := run_append_own (P := Tryz.prog) w 0 141 ty TB i0 (.agg z256.toArray) 256 256 Tryz.underlying141 hi hz0 hz1 hz2 hzc (by decide) v n xs hown ⟨g1, 0, none⟩ 1 1 l (by omega) hnews h1 (by unfold maxLen; omega) (by omega) (Nat.zero_le _)
  have hx : ∃ g' c', v' = .slice (some ⟨g', 0, none⟩) (n + 1) c' ∧ (v.ownBlock = some g' ∨ g' = w.heap.size) := by
    rcases hown.2 with ⟨e, e0⟩ | ⟨g0, cap0, cur, e, hbg, hg, hnc, hcm, hcs, htake⟩
    · subst e
      subst e0
      have hq := run_append_nil (P := Tryz.prog) w 141 ty TB i0 (.agg z256.toArray) Tryz.underlying141 hi hz0 ⟨g1, 0, none⟩ 1 1 l (by rw [hz1]; omega) hnews (by omega) (by omega) (by rw [hz2]; omega)
      rw [hr] at hq
      injection hq with hq1 hq2
      exact ⟨w.heap.size, _, by rw [hq1], Or.inr rfl⟩
    · subst e
      by_cases hroom : n + 1 ≤ cap0
      · have hq := run_append_room (P := Tryz.prog) w 141 ty TB i0 Tryz.underlying141 hi g0 n cap0 cur hg ⟨g1, 0, none⟩ 1 1 l (by rw [hz1]; omega) hnews h1 hroom (by rw [hz1, hcs]; omega)
        rw [hr] at hq
        injection hq with hq1 hq2
        exact ⟨g0, cap0, hq1, Or.inl rfl⟩
      · have holds : ∀ j u, xs[j]? = some u → w.cell? ((⟨g0, 0, none⟩ : Addr).add j) = some u := hown.cells (g := g0) rfl
        have hq := run_append_grow (P := Tryz.prog) w 141 ty TB i0 (.agg z256.toArray) Tryz.underlying141 hi hz0 ⟨g0, 0, none⟩ n cap0 xs (by rw [hz1]; exact hown.1) holds ⟨g1, 0, none⟩ 1 1 l (by rw [hz1]; omega) hnews (by omega) (by omega) (growslice_fits (by omega) (by rw [hz2]; omega))
        rw [hr] at hq
        injection hq with hq1 hq2
        exact ⟨w.heap.size, _, hq1, Or.inr rfl⟩
  obtain ⟨g', c', rfl, hg'⟩ := hx
  exact ⟨g', c', w', hr, hg', h2, h3⟩

variable {w w' : World} {F : List Nat} {D B M : Nat} {Dm : DataW Value} {V C : Nat → Nat} {s : DSt}
def upd (f : Nat → Nat) (i g : Nat) : Nat → Nat := fun j => if j = i then g else f j
theorem upd_same (f : Nat → Nat) (i g : Nat) : upd f i g i = g := if_pos rfl
theorem upd_other (f : Nat → Nat) {i j : Nat} (g : Nat) (h : j ≠ i) : upd f i g j = f j := if_neg h
/-- A version more of block i: g is its old block, or a new one. -/
theorem Pic.add (h : Pic w F D B M Dm V C s) {i : Nat} (hi : i < s.bs.length) (l : List Nat) (hl : l.length = 256 ∧ ∀ y ∈ l, y < 256) (g cap : Nat) (hs : w.heap.size ≤ w'.heap.size)
    (hk : ∀ k, k < w.heap.size → k ≠ M → ((s.at i).vs ≠ [] → k ≠ V i) → w'.heap[k]? = w.heap[k]?)
    (hg : ((s.at i).vs ≠ [] ∧ g = V i) ∨ w.heap.size ≤ g) (hgl : g < w'.heap.size)
    (hrow : w'.ownsRow 0 TB 256 (.slice (some ⟨g, 0, none⟩) ((s.at i).vs.length + 1) cap) ((s.at i).vs.length + 1) ((s.at i).vs.flatMap verV ++ verV l))
    {nn : Nat} (hM : w'.ownsMap Tryz.prog 3 RV M nn (Dm.put (kI i) (.held (.slice (some ⟨g, 0, none⟩) ((s.at i).vs.length + 1) cap)))) :
    Pic w' (g :: F) D B M (Dm.put (kI i) (.held (.slice (some ⟨g, 0, none⟩) ((s.at i).vs.length + 1) cap))) (upd V i g) (upd C i cap) (s.setB i ((s.at i).add l)) := by
  have hn := h.n2
  have hat : ∀ j, (s.setB i ((s.at i).add l)).at j = if j = i then (s.at i).add l else s.at j := fun j => setB_at _ _ _ _ hi
  have hkeep : ∀ k ∈ F, k ≠ M → ((s.at i).vs ≠ [] → k ≠ V i) → w'.heap[k]? = w.heap[k]? := fun k hkF => hk k (h.lt k hkF)
  have hnew : ∀ j, (s.setB i ((s.at i).add l)).at j = s.at j ∨ j = i := fun j => by
    rw [hat]; split
    · rename_i e; exact Or.inr e
    · exact Or.inl rfl
  have hother : ∀ j, j ≠ i → (s.setB i ((s.at i).add l)).at j = s.at j := fun j e => by rw [hat, if_neg e]
  have hsame : (s.setB i ((s.at i).add l)).at i = (s.at i).add l := by rw [hat, if_pos rfl]
  have hne : ∀ j, j < s.bs.length → j ≠ i → (s.at j).vs ≠ [] → V j ≠ g := fun j hj e hv e2 => by
    rcases hg with ⟨hv2, e3⟩ | h3
    · exact h.apart j i hj hi e hv hv2 (by rw [e2, e3])
    · have := h.lt _ (h.mV j hj hv); omega
  refine ⟨by rw [setB_len]; exact h.n1, by rw [setB_len]; exact h.n2, setB_ok h.ok (h.ok.dur (s.at i) (at_mem hi)) ?_, h.top, ?_, ?_, ownsMap_tight hM, ?_, ?_, ?_, ?_, by simp [h.mD], by simp [h.mB], by simp [h.mM], ?_, ?_⟩
  · intro t ht
    rcases List.mem_append.1 ht with ht | ht
    · exact h.ok.vs (s.at i) (at_mem hi) t ht
    · simp at ht; rw [ht]; exact hl
  · rw [setB_len, hkeep D h.mD h.neM.1 (fun hv => (h.neV hi hv).1.symm)]; exact h.hD
  · rw [hkeep B h.mB h.neM.2 (fun hv => (h.neV hi hv).2.1.symm), h.hB]
    unfold DSt.setB
    rw [flat_set durV 257 s.bs h.durs i _ hi]
    congr 3
    have e : durV ((s.at i).add l) = durV (s.at i) := rfl
    have e2 := flat_set durV 257 s.bs h.durs i (s.at i) hi
    rw [e, ← e2]
    congr 1
    unfold DSt.at
    rw [List.getD_eq_getElem?_getD, List.getElem?_eq_getElem hi]
    simp
  · intro kl
    by_cases e : kl = kI i
    · subst e
      rw [Maps.has_put_same h.hM.isMap (isKey_i i)]
      refine ⟨fun _ => ⟨i, by rw [setB_len]; exact hi, rfl, by rw [hsame]; simp [DBlock.add]⟩, fun _ => rfl⟩
    · rw [Maps.has_put_other e, h.has kl, setB_len]
      constructor
      · rintro ⟨j, h1, h2, h3⟩
        exact ⟨j, h1, h2, by rw [hother j (fun e2 => e (by rw [h2, e2]))]; exact h3⟩
      · rintro ⟨j, h1, h2, h3⟩
        exact ⟨j, h1, h2, by rw [hother j (fun e2 => e (by rw [h2, e2]))] at h3; exact h3⟩
  · intro j hj hv z
    rw [setB_len] at hj
    unfold verS
    by_cases e : j = i
    · subst e
      rw [Maps.atKey_put_same h.hM.isMap (isKey_i j), hsame, upd_same, upd_same]
      simp [DBlock.add]
    · rw [hother j e] at hv ⊢
      rw [Maps.atKey_put_other (fun e2 => e (kI_inj e2)), h.look j hj hv, upd_other _ _ e, upd_other _ _ e]
      rfl
  · intro j hj hv
    rw [setB_len] at hj
    unfold verS
    by_cases e : j = i
    · subst e
      rw [hsame, upd_same, upd_same]
      simpa [DBlock.add] using hrow
    · rw [hother j e] at hv ⊢
      rw [upd_other _ _ e, upd_other _ _ e]
      exact ownsRow_kept (h.row j hj hv) (hkeep _ (h.mV j hj hv) (h.neV hj hv).2.2 (fun hv2 => h.apart j i hj hi e hv hv2))
  · intro a b ha hb2 hab hva hvb
    rw [setB_len] at ha hb2
    by_cases e : a = i
    · subst e
      have e2 : b ≠ a := fun e2 => hab e2.symm
      rw [hother b e2] at hvb
      rw [upd_same, upd_other _ _ e2]
      exact (hne b hb2 e2 hvb).symm
    · rw [hother a e] at hva
      by_cases e2 : b = i
      · subst e2
        rw [upd_same, upd_other _ _ e]
        exact hne a ha e hva
      · rw [hother b e2] at hvb
        rw [upd_other _ _ e, upd_other _ _ e2]
        exact h.apart a b ha hb2 hab hva hvb
  · intro j hj hv
    rw [setB_len] at hj
    by_cases e : j = i
    · subst e; rw [upd_same]; simp
    · rw [hother j e] at hv
      rw [upd_other _ _ e]
      exact List.mem_cons_of_mem _ (h.mV j hj hv)
  · intro k hk2
    rcases List.mem_cons.1 hk2 with rfl | hk2
    · exact hgl
    · exact Nat.lt_of_lt_of_le (h.lt k hk2) hs
/-- The slice that is looked up, as an owned row. -/
theorem Pic.rowN (h : Pic w F D B M Dm V C s) {i : Nat} (hi : i < s.bs.length) : w.ownsRow 0 TB 256 (verN V C s i) (s.at i).vs.length ((s.at i).vs.flatMap verV) := by
  unfold verN
  by_cases h0 : (s.at i).vs = []
  · rw [if_pos h0, h0]
    exact World.ownsRow_nil w 0 TB 256
  · rw [if_neg h0]
    exact h.row i hi h0
end Go.Proofs.YtikomnbhmmjfnaaGreat

/- What Write hands on, piece by piece: the steps of a region that draws its order, the world behind append and the map's update. -/
namespace Go.Proofs.YtikomnbhmmjfnaaGreat
open Go.RowKit
variable {w w' : World} {F : List Nat} {D B M : Nat} {Dm : DataW Value} {V C : Nat → Nat} {s : DSt}

/-- 'copy(text[:], b)', as one step of a region that draws its order. -/
theorem step_copy {ops : Array Oper} {o : Oper} {a : Act} {K : Act → World → Prop} {Q : Exit → Act → World → Prop} {E : Prop} (hgd : o.guard = none) (d x : Operand)
    (ho : o.op = .call { callee := .builtin .copy, args := #[d, x], argTypes := #[28, 28] }) (g cap : Nat) (ad : Option Addr) (l : List Nat)
    (hd : a.eval d = .slice (some ⟨g, 0, none⟩) 256 256) (hs : a.eval x = .slice ad 256 cap) (hp : Part.ok w ⟨ad, 256, cap, l⟩) (cur : Array Value) (t : TypeId) (hg : w.heap[g]? = some (.cells cur t (0, 0))) (hsz : cur.size = 256)
    (N : Nat) (w0 : World) (hb : Below N w0 w) (hN : N ≤ g)
    (h : ∀ w2, w2.heap[g]? = some (.cells (verV l).toArray t (0, 0)) → Below N w0 w2 → K (a.put o.dst (.int .i64 256)) w2) :
    if Region.wanted o (yielded ops a.tmps) = true then Oper.wp Tryz.prog o a w K Q else E := by
  have hw : Region.wanted o (yielded ops a.tmps) = true := by simp [Region.wanted, hgd]
  rw [if_pos hw]
  have hl : l.length = 256 := hp.1
  cases ad with
  | none => have := hp.2.1 rfl; simp at this
  | some ad =>
    obtain ⟨i0, hi, hz0, hz1, hz2⟩ := info_parts Tryz.info5
    have hrun := run_copy_row (P := Tryz.prog) w 28 28 o.type 5 g 0 256 256 ad 256 cap cur t (verV l) Tryz.underlying28 (by rw [hi]; simp [hz1]) hg (by unfold verV; rw [List.length_map, hl]; rfl) (row_cells hp.2.2 ad rfl) (by unfold verV; rw [List.length_map, hl]; omega) (verV_one l)
    have e : (cur.toList.take 0 ++ verV l ++ cur.toList.drop (0 + (verV l).length)) = verV l := by
      rw [List.drop_of_length_le (by unfold verV; simp; omega)]; simp
    have e2 : (verV l).length = 256 := by unfold verV; rw [List.length_map, hl]
    rw [e, e2] at hrun
    unfold Oper.wp
    simp [execOp, ho, resolve, invoke, builtin, hd, hs, hrun, Result.andThen]
    exact h _ (setRow_heap w g cur _ t _ hg) ⟨hb.os, hb.tape, hb.output, by rw [setRow_size]; exact hb.size, fun k hk => by rw [setRow_other w g k _ (by omega)]; exact hb.block k hk⟩
theorem takeH {ops : Array Oper} {Q : Exit → Act → World → Prop} {S : World → Prop} {fuel : Nat} {listed : Array Bool} {a : Act} {md : Region.Mode} (i : Nat) (v : Value) (a' : Act) {oi : Oper} (hi : ops[i]? = some oi) (ha : a.put oi.dst v = a') (hs : Region.noSelect ops = true) (hf : Region.free md ops listed i = true) (hr : (Region.ready md ops listed).contains i = true)
    (hQ : ∀ c a w, Q (.panic c) (a.put oi.dst v) w → Q (.panic c) a w) (hg : oi.guard = none) (hy : ∀ w, S w → (execOp a.eval oi).run Tryz.prog w = .ok (.value v) w) (hS : S w)
    (h : wpAnyH Tryz.prog md ops Q S fuel (listed.setIfInBounds i true) a' w) : wpAnyH Tryz.prog md ops Q S (fuel + 1) listed a w := by
  subst ha
  exact wpAnyH_take hi hs hf hr hQ (Or.inl ⟨by simp [Region.wanted, hg], hy⟩) hS h
theorem wp_value {o : Oper} {a : Act} {K : Act → World → Prop} {Q : Exit → Act → World → Prop} {v : Value} (h : (execOp a.eval o).run Tryz.prog w = .ok (.value v) w') (hK : K (a.put o.dst v) w') : Oper.wp Tryz.prog o a w K Q := by
  unfold Oper.wp
  rw [h]
  exact hK
/-- One of those that may come up is carried out. -/
theorem stepH {ops : Array Oper} {Q : Exit → Act → World → Prop} {S : World → Prop} {fuel : Nat} {listed : Array Bool} {a : Act} {md : Region.Mode} {rs : List Nat} {i : Nat} {o : Oper} (v : Value) (w' : World) (a' : Act) (ho : ops[i]? = some o) (ha : a.put o.dst v = a') (hg : o.guard = none) (hr : (execOp a.eval o).run Tryz.prog w = .ok (.value v) w') (hS : S w')
    (h : wpAnyH Tryz.prog md ops Q S fuel (listed.setIfInBounds i true) a' w') (hs : AllReadyH Tryz.prog md ops Q S fuel listed a w rs) : AllReadyH Tryz.prog md ops Q S fuel listed a w (i :: rs) := by
  subst ha
  exact AllReadyH.cons ho (fun K' hK => by
    rw [if_pos (by simp [Region.wanted, hg])]
    exact wp_value hr (hK.out _ _ hS (fun _ => h))) hs
theorem stepSkipH {ops : Array Oper} {Q : Exit → Act → World → Prop} {S : World → Prop} {fuel : Nat} {listed : Array Bool} {a : Act} {md : Region.Mode} {rs : List Nat} {i : Nat} {o : Oper} (w' : World) (a' : Act) (ho : ops[i]? = some o) (ha : a.put o.dst undef = a') (hg : o.guard = none) (hr : (execOp a.eval o).run Tryz.prog w = .ok .skip w') (hS : S w')
    (h : wpAnyH Tryz.prog md ops Q S fuel (listed.setIfInBounds i true) a' w') (hs : AllReadyH Tryz.prog md ops Q S fuel listed a w rs) : AllReadyH Tryz.prog md ops Q S fuel listed a w (i :: rs) := by
  subst ha
  exact AllReadyH.cons ho (fun K' hK => by
    rw [if_pos (by simp [Region.wanted, hg])]
    unfold Oper.wp
    rw [hr]
    exact hK.out _ _ hS (fun _ => h)) hs
theorem exec_lookup {o : Oper} {ev : Operand → Value} (x y : Operand) (ho : o.op = .lookup 39 x y false) (u k v : Value) (hx : ev x = u) (hy : ev y = k) (hr : (Instr.lookup 39 u k false).run Tryz.prog w = .ok v w) : (execOp ev o).run Tryz.prog w = .ok (.value v) w := by
  simp [execOp, ho, hx, hy, hr, Result.andThen]
theorem exec_buildSlice {o : Oper} {ev : Operand → Value} (x : Operand) (ho : o.op = .buildSlice 141 1 #[(0, x)]) (l : List Value) (hl : l.length = 256) (hx : ev x = .agg l.toArray) : (execOp ev o).run Tryz.prog w = .ok (.value (.slice (some ⟨w.heap.size, 0, none⟩) 1 1)) (w.alloc (.cells l.toArray TB)) := by
  have h := run_buildSliceB w l hl
  simp [execOp, ho, hx, h, Result.andThen]
theorem exec_append {o : Oper} {ev : Operand → Value} (x y : Operand) (ho : o.op = .call { callee := .builtin .append, args := #[x, y], argTypes := #[141, 141] }) (u v r : Value) (hx : ev x = u) (hy : ev y = v) (hr : (Builtin.append_ #[141, 141] o.type #[u, v]).run Tryz.prog w = .ok r w') : (execOp ev o).run Tryz.prog w = .ok (.value r) w' := by
  simp [execOp, ho, resolve, invoke, builtin, hx, hy, hr, Result.andThen]
theorem exec_update {o : Oper} {ev : Operand → Value} (x y z : Operand) (ho : o.op = .mapUpdate 39 x y z) (m k v : Value) (hx : ev x = m) (hy : ev y = k) (hz : ev z = v) (hr : (Instr.mapUpdate 39 m k v).run Tryz.prog w = .ok () w') : (execOp ev o).run Tryz.prog w = .ok .skip w' := by
  simp [execOp, ho, hx, hy, hz, hr, Result.andThen]
theorem exec_load_wide {o : Oper} {ev : Operand → Value} (ty : TypeId) (x : Operand) (ho : o.op = .load ty x) (d : TypeDesc) (hu : Tryz.prog.underlying ty = some d) (hd : isWide d = true) (l : List Value) (hi : (Tryz.prog.info? ty).map (·.size) = some l.length) (g off : Nat) (hx : ev x = .pointer (some ⟨g, off, none⟩)) (hc : ∀ j, j < l.length → w.cell? ⟨g, off + j, none⟩ = l[j]?) :
    (execOp ev o).run Tryz.prog w = .ok (.value (.agg l.toArray)) w := by
  unfold execOp
  simp only [ho, hx, Instr.loadAt, Instr.sureAddr, Sem.run_bind, Sem.run_pure, Result.andThen_ok, run_loadVar_cells w ty d hu hd l hi g off hc]
/-- What a call does with a disk: the blocks that it may change are its own ones; those that it has then are of those, or new. -/
structure Moved (Dk : World → List Nat → Nat → DSt → Prop) (F : List Nat) (D : Nat) (s : DSt) (w w' : World) : Prop where
  disk : ∃ F', Dk w' F' D s ∧ ∀ g ∈ F', g ∈ F ∨ w.heap.size ≤ g
  chg : Chg F w w'
theorem ownBlock_verN {i k : Nat} (h : (verN V C s i).ownBlock = some k) : (s.at i).vs ≠ [] ∧ k = V i := by
  unfold verN at h
  split at h
  · cases h
  · rename_i hv
    unfold verS at h
    simp [Value.ownBlock] at h
    exact ⟨hv, h.symm⟩
theorem write_key (h : Pic w F D B M Dm V C s) {i : Nat} (hi : i < s.bs.length) (l : List Nat) (hl : l.length = 256 ∧ ∀ y ∈ l, y < 256) {w2 : World} (b2 : Below w.heap.size w w2) (hfew : (s.at i).vs.length ≤ 1073741824) :
    ∃ g c w4 w5, (Builtin.append_ #[141, 141] 141 #[verN V C s i, .slice (some ⟨w2.drew.heap.size, 0, none⟩) 1 1]).run Tryz.prog (w2.drew.alloc (.cells (verV l).toArray TB)) = .ok (.slice (some ⟨g, 0, none⟩) ((s.at i).vs.length + 1) c) w4 ∧
      (Instr.mapUpdate 39 (.map (some M)) (.int .i64 (i : Int)) (.slice (some ⟨g, 0, none⟩) ((s.at i).vs.length + 1) c)).run Tryz.prog w4 = .ok () w5 ∧
      Moved Dk F D (s.setB i ((s.at i).add l)) w w5 ∧ (∀ k, k < w2.heap.size → k ∉ F → w4.heap[k]? = w2.heap[k]?) ∧ (∀ k, k < w2.heap.size → k ≠ M → k ∉ F ∨ k = D → w5.heap[k]? = w2.heap[k]?) ∧ w4.heap[D]? = w2.heap[D]? := by
  have h256 : (verV l).length = 256 := by unfold verV; rw [List.length_map]; exact hl.1
  have h2 := h.below b2
  have b23 : Below w2.heap.size w2 (w2.drew.alloc (.cells (verV l).toArray TB)) := ((Below.refl w2.heap.size w2).drew).alloc (Nat.le_refl _) _
  have h3 := h2.below b23
  have hn := h.n2
  obtain ⟨g, c, w4, ha, hg, hrow, hgr⟩ := run_app_ver (h3.rowN hi) 141 w2.drew.heap.size (verV l) h256 (heap_alloc_last _ _) (verV_one l) hfew
  have hsz3 : (w2.drew.alloc (.cells (verV l).toArray TB)).heap.size = w2.heap.size + 1 := by simp
  have hM4 : w4.ownsMap Tryz.prog 3 RV M (Maps.size Dm) Dm := ownsMap_kept h3.hM (hgr.block M (h3.lt M h3.mM) (fun e => by have := ownBlock_verN e.symm; exact (h.neV hi this.1).2.2 this.2.symm))
  have hlt : Maps.size Dm < maxLen := by
    have := h.size
    have := dirtyBs_le s.bs
    unfold dirtyD at *
    unfold maxLen
    omega
  obtain ⟨w5, hu, hM5, hmt⟩ := hM4.store (t := 39) (e := 141) keyI Tryz.underlying39 hlt (keyOf_i (i := i) (by omega)) (val := .slice (some ⟨g, 0, none⟩) ((s.at i).vs.length + 1) c) (d := .held (.slice (some ⟨g, 0, none⟩) ((s.at i).vs.length + 1) c)) (ps := []) rfl
  have hg5 := hmt.grown
  have hs25 : w2.heap.size ≤ w5.heap.size := by have := hgr.size; have := hg5.size; omega
  have hown : ∀ k, some k = (verN V C s i).ownBlock → k ∈ F := fun k e => by have := ownBlock_verN e.symm; rw [this.2]; exact h.mV i hi this.1
  have hk4 : ∀ k, k < w2.heap.size → some k ≠ (verN V C s i).ownBlock → w4.heap[k]? = w2.heap[k]? := fun k hk hne => (hgr.block k (by omega) hne).trans (b23.block k hk)
  have hk5 : ∀ k, k < w2.heap.size → k ≠ M → some k ≠ (verN V C s i).ownBlock → w5.heap[k]? = w2.heap[k]? := fun k hk hne hne2 => (hg5.block k (by have := hgr.size; omega) (fun e => hne (by cases e; rfl))).trans (hk4 k hk hne2)
  have hD : some D ≠ (verN V C s i).ownBlock := fun e => by have := ownBlock_verN e.symm; exact (h.neV hi this.1).1 this.2.symm
  have hsz := b2.size
  refine ⟨g, c, w4, w5, ha, hu, ⟨⟨g :: F, ⟨B, M, _, _, _, h2.add (nn := Maps.size Dm + 1) hi l hl g c hs25 ?_ ?_ ?_ ?_ ?_⟩, ?_⟩, ?_⟩, ?_, ?_, ?_⟩
  · intro k hk hne hne2
    exact hk5 k hk hne (fun e => by have := ownBlock_verN e.symm; exact hne2 this.1 this.2)
  · rcases hg with hg | hg
    · exact Or.inl (ownBlock_verN hg)
    · exact Or.inr (by omega)
  · rcases hrow.2 with ⟨e, _⟩ | ⟨g', cap', cur, e, _, r2, _⟩
    · cases e
    · cases e
      have := (Array.getElem?_eq_some_iff.1 r2).1
      have := hg5.size
      omega
  · refine ownsRow_kept hrow (hg5.block g ?_ (fun e => ?_))
    · rcases hrow.2 with ⟨e, _⟩ | ⟨g', cap', cur, e, _, r2, _⟩
      · cases e
      · cases e
        exact (Array.getElem?_eq_some_iff.1 r2).1
    · cases e
      rcases hrow.2 with ⟨e, _⟩ | ⟨g', cap', cur, e, _, r2, _⟩
      · cases e
      · cases e
        obtain ⟨es, clock, hb, _⟩ := hM4
        rw [hb] at r2
        cases r2
  · exact hM5
  · intro k hk
    rcases List.mem_cons.1 hk with rfl | hk
    · rcases hg with hg | hg
      · exact Or.inl (hown k hg.symm)
      · exact Or.inr (by omega)
    · exact Or.inl hk
  · refine ⟨hg5.os.trans (hgr.os.trans (b23.os.trans b2.os)), hg5.tape.trans (hgr.tape.trans (b23.tape.trans b2.tape)), hg5.output.trans (hgr.output.trans (b23.output.trans b2.output)), by omega, fun k hk hn2 => ?_⟩
    exact (hk5 k (by omega) (fun e => hn2 (by rw [e]; exact h.mM)) (fun e => hn2 (hown k e))).trans (b2.block k hk)
  · exact fun k hk hn2 => hk4 k hk (fun e => hn2 (hown k e))
  · rintro k hk hne (hn2 | rfl)
    · exact hk5 k hk hne (fun e => hn2 (hown k e))
    · exact hk5 k hk hne hD
  · exact hk4 D (by have := h2.ltD; omega) hD
end Go.Proofs.YtikomnbhmmjfnaaGreat

/- What Write hands on: the bytes become a version more. -/
namespace Go.Proofs.YtikomnbhmmjfnaaGreat
open Go.RowKit
variable {w w' : World} {F : List Nat} {D B M : Nat} {Dm : DataW Value} {V C : Nat → Nat} {s : DSt}

set_option maxRecDepth 100000 in
set_option maxHeartbeats 2000000 in
theorem write1_pic (h : Pic w F D B M Dm V C s) (i : Nat) (hi : i < s.bs.length) (gb gd gi cap : Nat) (ad : Option Addr) (l : List Nat) (hp : Part.ok w ⟨ad, 256, cap, l⟩)
    (cb : w.cell? ⟨gb, 0, none⟩ = some (.slice ad 256 cap)) (cd : w.cell? ⟨gd, 0, none⟩ = some (.pointer (some ⟨D, 0, none⟩))) (ci : w.cell? ⟨gi, 0, none⟩ = some (.int .i64 (i : Int)))
    (hnd : gd ∉ F) (hni : gi ∉ F) (hfew : (s.at i).vs.length ≤ 1073741824) :
    Calls Tryz.prog 106 #[.pointer (some ⟨gb, 0, none⟩), .pointer (some ⟨gd, 0, none⟩), .pointer (some ⟨gi, 0, none⟩)] w fun e w' => e = .returned (.tuple #[]) ∧ Moved Dk F D (s.setB i ((s.at i).add l)) w w' := by
  have h256 : (verV l).length = 256 := by unfold verV; rw [List.length_map]; exact hp.1
  have HP : Hid (Pic w F D B M Dm V C s) := h
  have HA : Hid (Part.ok w ⟨ad, 256, cap, l⟩) := hp
  clear h hp
  have lb := block_lt_of_cell cb
  have ld := block_lt_of_cell cd
  have li := block_lt_of_cell ci
  simp only at lb ld li
  have cb1 := (World.cell?_alloc_lt w (.cells Tryz.zeroCells129 129) ⟨gb, 0, none⟩ lb).trans cb
  have B1 : Hid (Below w.heap.size w (w.alloc (.cells Tryz.zeroCells129 TB)).drew) := ((Below.refl w.heap.size w).alloc (Nat.le_refl _) _).drew
  go_enter Tryz.func106, Tryz.ntmps106
  go_wp2_with fail
  go_region_law (refine step_copy (by rfl) _ _ (by rfl) w.heap.size cap ad l (by rfl) (by rfl) (HA.out.later B1.out) Tryz.zeroCells129 TB (heap_alloc_last w _) (by rw [zcB]; simp [z256_len]) w.heap.size w B1.out (Nat.le_refl _) ?_; intro w2 hX b2; have HX : Hid (w2.heap[w.heap.size]? = some (.cells (verV l).toArray TB (0, 0))) := hX; have B2 : Hid (Below w.heap.size w w2) := b2; clear hX b2)
  go_wp2_with fail
  have hS0 : w2.drew.cell? ⟨gd, 0, none⟩ = some (.pointer (some ⟨D, 0, none⟩)) ∧ w2.drew.cell? ⟨gi, 0, none⟩ = some (.int .i64 (i : Int)) ∧ w2.drew.cell? ⟨D, 1, none⟩ = some (.map (some M)) ∧ w2.drew.heap[w.heap.size]? = some (.cells (verV l).toArray TB (0, 0)) :=
    ⟨(B2.out.cell (p := ⟨gd, 0, none⟩) ld).trans cd, (B2.out.cell (p := ⟨gi, 0, none⟩) li).trans ci, (HP.out.below B2.out).cells.2.1, HX.out⟩
  refine wp_region_held_drew (S := fun W => W.cell? ⟨gd, 0, none⟩ = some (.pointer (some ⟨D, 0, none⟩)) ∧ W.cell? ⟨gi, 0, none⟩ = some (.int .i64 (i : Int)) ∧ W.cell? ⟨D, 1, none⟩ = some (.map (some M)) ∧ W.heap[w.heap.size]? = some (.cells (verV l).toArray TB (0, 0))) (by kernel_rfl) hS0 (fun hS => ?_)
  refine takeH 0 (.pointer (some ⟨D, 0, none⟩)) ⟨#[.pointer (some ⟨gb, 0, none⟩), .pointer (some ⟨gd, 0, none⟩), .pointer (some ⟨gi, 0, none⟩), .pointer (some ⟨w.heap.size, 0, none⟩), .slice (some ⟨w.heap.size, 0, none⟩) 256 256, .slice ad 256 cap, .int .i64 256, .pointer (some ⟨D, 0, none⟩), undef, undef, undef, undef, undef, undef, undef, undef, undef, undef, undef, undef, undef], []⟩ rfl rfl (by kernel_rfl) (by kernel_rfl) (by kernel_rfl) (fun _ _ _ h => h) rfl ?_ hS ?_
  · intro W hW
    obtain ⟨s1, s2, s3, s4⟩ := hW
    go_simp
  refine takeH 1 (.pointer (some ⟨D, 0, none⟩)) ⟨#[.pointer (some ⟨gb, 0, none⟩), .pointer (some ⟨gd, 0, none⟩), .pointer (some ⟨gi, 0, none⟩), .pointer (some ⟨w.heap.size, 0, none⟩), .slice (some ⟨w.heap.size, 0, none⟩) 256 256, .slice ad 256 cap, .int .i64 256, .pointer (some ⟨D, 0, none⟩), .pointer (some ⟨D, 0, none⟩), undef, undef, undef, undef, undef, undef, undef, undef, undef, undef, undef, undef], []⟩ rfl rfl (by kernel_rfl) (by kernel_rfl) (by kernel_rfl) (fun _ _ _ h => h) rfl ?_ hS ?_
  · intro W hW
    obtain ⟨s1, s2, s3, s4⟩ := hW
    go_simp
  refine takeH 2 (.pointer (some ⟨D, 1, none⟩)) ⟨#[.pointer (some ⟨gb, 0, none⟩), .pointer (some ⟨gd, 0, none⟩), .pointer (some ⟨gi, 0, none⟩), .pointer (some ⟨w.heap.size, 0, none⟩), .slice (some ⟨w.heap.size, 0, none⟩) 256 256, .slice ad 256 cap, .int .i64 256, .pointer (some ⟨D, 0, none⟩), .pointer (some ⟨D, 0, none⟩), .pointer (some ⟨D, 1, none⟩), undef, undef, undef, undef, undef, undef, undef, undef, undef, undef, undef], []⟩ rfl rfl (by kernel_rfl) (by kernel_rfl) (by kernel_rfl) (fun _ _ _ h => h) rfl ?_ hS ?_
  · intro W hW
    obtain ⟨s1, s2, s3, s4⟩ := hW
    go_simp
  refine takeH 3 (.map (some M)) ⟨#[.pointer (some ⟨gb, 0, none⟩), .pointer (some ⟨gd, 0, none⟩), .pointer (some ⟨gi, 0, none⟩), .pointer (some ⟨w.heap.size, 0, none⟩), .slice (some ⟨w.heap.size, 0, none⟩) 256 256, .slice ad 256 cap, .int .i64 256, .pointer (some ⟨D, 0, none⟩), .pointer (some ⟨D, 0, none⟩), .pointer (some ⟨D, 1, none⟩), .map (some M), undef, undef, undef, undef, undef, undef, undef, undef, undef, undef], []⟩ rfl rfl (by kernel_rfl) (by kernel_rfl) (by kernel_rfl) (fun _ _ _ h => h) rfl ?_ hS ?_
  · intro W hW
    obtain ⟨s1, s2, s3, s4⟩ := hW
    go_simp
  refine takeH 4 (.int .i64 (i : Int)) ⟨#[.pointer (some ⟨gb, 0, none⟩), .pointer (some ⟨gd, 0, none⟩), .pointer (some ⟨gi, 0, none⟩), .pointer (some ⟨w.heap.size, 0, none⟩), .slice (some ⟨w.heap.size, 0, none⟩) 256 256, .slice ad 256 cap, .int .i64 256, .pointer (some ⟨D, 0, none⟩), .pointer (some ⟨D, 0, none⟩), .pointer (some ⟨D, 1, none⟩), .map (some M), .int .i64 (i : Int), undef, undef, undef, undef, undef, undef, undef, undef, undef], []⟩ rfl rfl (by kernel_rfl) (by kernel_rfl) (by kernel_rfl) (fun _ _ _ h => h) rfl ?_ hS ?_
  · intro W hW
    obtain ⟨s1, s2, s3, s4⟩ := hW
    go_simp
  refine takeH 5 (.pointer (some ⟨D, 0, none⟩)) ⟨#[.pointer (some ⟨gb, 0, none⟩), .pointer (some ⟨gd, 0, none⟩), .pointer (some ⟨gi, 0, none⟩), .pointer (some ⟨w.heap.size, 0, none⟩), .slice (some ⟨w.heap.size, 0, none⟩) 256 256, .slice ad 256 cap, .int .i64 256, .pointer (some ⟨D, 0, none⟩), .pointer (some ⟨D, 0, none⟩), .pointer (some ⟨D, 1, none⟩), .map (some M), .int .i64 (i : Int), .pointer (some ⟨D, 0, none⟩), undef, undef, undef, undef, undef, undef, undef, undef], []⟩ rfl rfl (by kernel_rfl) (by kernel_rfl) (by kernel_rfl) (fun _ _ _ h => h) rfl ?_ hS ?_
  · intro W hW
    obtain ⟨s1, s2, s3, s4⟩ := hW
    go_simp
  refine takeH 6 (.pointer (some ⟨D, 0, none⟩)) ⟨#[.pointer (some ⟨gb, 0, none⟩), .pointer (some ⟨gd, 0, none⟩), .pointer (some ⟨gi, 0, none⟩), .pointer (some ⟨w.heap.size, 0, none⟩), .slice (some ⟨w.heap.size, 0, none⟩) 256 256, .slice ad 256 cap, .int .i64 256, .pointer (some ⟨D, 0, none⟩), .pointer (some ⟨D, 0, none⟩), .pointer (some ⟨D, 1, none⟩), .map (some M), .int .i64 (i : Int), .pointer (some ⟨D, 0, none⟩), .pointer (some ⟨D, 0, none⟩), undef, undef, undef, undef, undef, undef, undef], []⟩ rfl rfl (by kernel_rfl) (by kernel_rfl) (by kernel_rfl) (fun _ _ _ h => h) rfl ?_ hS ?_
  · intro W hW
    obtain ⟨s1, s2, s3, s4⟩ := hW
    go_simp
  refine takeH 7 (.pointer (some ⟨D, 1, none⟩)) ⟨#[.pointer (some ⟨gb, 0, none⟩), .pointer (some ⟨gd, 0, none⟩), .pointer (some ⟨gi, 0, none⟩), .pointer (some ⟨w.heap.size, 0, none⟩), .slice (some ⟨w.heap.size, 0, none⟩) 256 256, .slice ad 256 cap, .int .i64 256, .pointer (some ⟨D, 0, none⟩), .pointer (some ⟨D, 0, none⟩), .pointer (some ⟨D, 1, none⟩), .map (some M), .int .i64 (i : Int), .pointer (some ⟨D, 0, none⟩), .pointer (some ⟨D, 0, none⟩), .pointer (some ⟨D, 1, none⟩), undef, undef, undef, undef, undef, undef], []⟩ rfl rfl (by kernel_rfl) (by kernel_rfl) (by kernel_rfl) (fun _ _ _ h => h) rfl ?_ hS ?_
  · intro W hW
    obtain ⟨s1, s2, s3, s4⟩ := hW
    go_simp
  refine takeH 8 (.map (some M)) ⟨#[.pointer (some ⟨gb, 0, none⟩), .pointer (some ⟨gd, 0, none⟩), .pointer (some ⟨gi, 0, none⟩), .pointer (some ⟨w.heap.size, 0, none⟩), .slice (some ⟨w.heap.size, 0, none⟩) 256 256, .slice ad 256 cap, .int .i64 256, .pointer (some ⟨D, 0, none⟩), .pointer (some ⟨D, 0, none⟩), .pointer (some ⟨D, 1, none⟩), .map (some M), .int .i64 (i : Int), .pointer (some ⟨D, 0, none⟩), .pointer (some ⟨D, 0, none⟩), .pointer (some ⟨D, 1, none⟩), .map (some M), undef, undef, undef, undef, undef], []⟩ rfl rfl (by kernel_rfl) (by kernel_rfl) (by kernel_rfl) (fun _ _ _ h => h) rfl ?_ hS ?_
  · intro W hW
    obtain ⟨s1, s2, s3, s4⟩ := hW
    go_simp
  refine takeH 9 (.int .i64 (i : Int)) ⟨#[.pointer (some ⟨gb, 0, none⟩), .pointer (some ⟨gd, 0, none⟩), .pointer (some ⟨gi, 0, none⟩), .pointer (some ⟨w.heap.size, 0, none⟩), .slice (some ⟨w.heap.size, 0, none⟩) 256 256, .slice ad 256 cap, .int .i64 256, .pointer (some ⟨D, 0, none⟩), .pointer (some ⟨D, 0, none⟩), .pointer (some ⟨D, 1, none⟩), .map (some M), .int .i64 (i : Int), .pointer (some ⟨D, 0, none⟩), .pointer (some ⟨D, 0, none⟩), .pointer (some ⟨D, 1, none⟩), .map (some M), .int .i64 (i : Int), undef, undef, undef, undef], []⟩ rfl rfl (by kernel_rfl) (by kernel_rfl) (by kernel_rfl) (fun _ _ _ h => h) rfl ?_ hS ?_
  · intro W hW
    obtain ⟨s1, s2, s3, s4⟩ := hW
    go_simp
  refine takeH 11 (.agg (verV l).toArray) ⟨#[.pointer (some ⟨gb, 0, none⟩), .pointer (some ⟨gd, 0, none⟩), .pointer (some ⟨gi, 0, none⟩), .pointer (some ⟨w.heap.size, 0, none⟩), .slice (some ⟨w.heap.size, 0, none⟩) 256 256, .slice ad 256 cap, .int .i64 256, .pointer (some ⟨D, 0, none⟩), .pointer (some ⟨D, 0, none⟩), .pointer (some ⟨D, 1, none⟩), .map (some M), .int .i64 (i : Int), .pointer (some ⟨D, 0, none⟩), .pointer (some ⟨D, 0, none⟩), .pointer (some ⟨D, 1, none⟩), .map (some M), .int .i64 (i : Int), undef, .agg (verV l).toArray, undef, undef], []⟩ rfl rfl (by kernel_rfl) (by kernel_rfl) (by kernel_rfl) (fun _ _ _ h => h) rfl ?_ hS ?_
  · intro W hW
    obtain ⟨s1, s2, s3, s4⟩ := hW
    refine exec_load_wide TB _ rfl _ Tryz.underlying129 rfl (verV l) (by rw [h256]; exact sizeB) w.heap.size 0 rfl (fun j hj => ?_)
    rw [cell_of_row _ _ _ _ _ _ s4, List.getElem?_toArray, Nat.zero_add]
  have key : ∃ g c w4 w5, (Builtin.append_ #[141, 141] 141 #[verN V C s i, .slice (some ⟨w2.drew.heap.size, 0, none⟩) 1 1]).run Tryz.prog (w2.drew.alloc (.cells (verV l).toArray TB)) = .ok (.slice (some ⟨g, 0, none⟩) ((s.at i).vs.length + 1) c) w4 ∧
      (Instr.mapUpdate 39 (.map (some M)) (.int .i64 (i : Int)) (.slice (some ⟨g, 0, none⟩) ((s.at i).vs.length + 1) c)).run Tryz.prog w4 = .ok () w5 ∧
      Moved Dk F D (s.setB i ((s.at i).add l)) w w5 ∧ (∀ k, k < w2.heap.size → k ∉ F → w4.heap[k]? = w2.heap[k]?) ∧ (∀ k, k < w2.heap.size → k ≠ M → k ∉ F ∨ k = D → w5.heap[k]? = w2.heap[k]?) ∧ w4.heap[D]? = w2.heap[D]? := write_key HP.out hi l ⟨HA.out.1, HA.out.2.2.1⟩ B2.out hfew
  obtain ⟨g, c, w4, w5, ha, hu, hm, hk4, hk5, hd4⟩ := key
  have hlook := ((HP.out.below B2.out).below ((Below.refl _ w2).drew)).lookup hi
  have hlook3 := (((HP.out.below B2.out).below ((Below.refl _ w2).drew)).below ((Below.refl _ w2.drew).alloc (Nat.le_refl _) (.cells (verV l).toArray TB))).lookup hi
  have hsz := B2.out.size
  have hXl : w.heap.size < w2.heap.size := (Array.getElem?_eq_some_iff.1 HX.out).1
  have hDl := HP.out.ltD
  have hXF : w.heap.size ∉ F := fun hm2 => absurd (HP.out.lt _ hm2) (by omega)
  have hcell : ∀ {W1 W2 : World} {g : Nat} {k : Nat}, W2.heap[g]? = W1.heap[g]? → W2.cell? ⟨g, k, none⟩ = W1.cell? ⟨g, k, none⟩ := fun {W1 W2 g k} e => by simp only [World.cell?, e]
  have hS3 : (w2.drew.alloc (.cells (verV l).toArray TB)).cell? ⟨gd, 0, none⟩ = some (.pointer (some ⟨D, 0, none⟩)) ∧ (w2.drew.alloc (.cells (verV l).toArray TB)).cell? ⟨gi, 0, none⟩ = some (.int .i64 (i : Int)) ∧ (w2.drew.alloc (.cells (verV l).toArray TB)).cell? ⟨D, 1, none⟩ = some (.map (some M)) ∧ (w2.drew.alloc (.cells (verV l).toArray TB)).heap[w.heap.size]? = some (.cells (verV l).toArray TB (0, 0)) := by
    refine ⟨(hcell (heap_alloc_old _ _ (by simp; omega))).trans hS.1, (hcell (heap_alloc_old _ _ (by simp; omega))).trans hS.2.1, (hcell (heap_alloc_old _ _ (by simp; omega))).trans hS.2.2.1, (heap_alloc_old _ _ (by simp; omega)).trans hS.2.2.2⟩
  have hS4 : w4.cell? ⟨gd, 0, none⟩ = some (.pointer (some ⟨D, 0, none⟩)) ∧ w4.cell? ⟨gi, 0, none⟩ = some (.int .i64 (i : Int)) ∧ w4.cell? ⟨D, 1, none⟩ = some (.map (some M)) ∧ w4.heap[w.heap.size]? = some (.cells (verV l).toArray TB (0, 0)) := by
    refine ⟨(hcell (hk4 gd (by omega) hnd)).trans hS.1, (hcell (hk4 gi (by omega) hni)).trans hS.2.1, (hcell hd4).trans hS.2.2.1, (hk4 _ hXl hXF).trans hS.2.2.2⟩
  have hS5 : w5.cell? ⟨gd, 0, none⟩ = some (.pointer (some ⟨D, 0, none⟩)) ∧ w5.cell? ⟨gi, 0, none⟩ = some (.int .i64 (i : Int)) ∧ w5.cell? ⟨D, 1, none⟩ = some (.map (some M)) ∧ w5.heap[w.heap.size]? = some (.cells (verV l).toArray TB (0, 0)) := by
    have hMF := HP.out.mM
    refine ⟨(hcell (hk5 gd (by omega) (fun e => hnd (by rw [e]; exact hMF)) (Or.inl hnd))).trans hS.1, (hcell (hk5 gi (by omega) (fun e => hni (by rw [e]; exact hMF)) (Or.inl hni))).trans hS.2.1, (hcell (hk5 D (by omega) HP.out.neM.1 (Or.inr rfl))).trans hS.2.2.1, (hk5 _ hXl (fun e => hXF (by rw [e]; exact hMF)) (Or.inl hXF)).trans hS.2.2.2⟩
  refine wpAnyH_ready (rs := [10, 12]) (by kernel_rfl) (by simp) (stepH (verN V C s i) w2.drew ⟨#[.pointer (some ⟨gb, 0, none⟩), .pointer (some ⟨gd, 0, none⟩), .pointer (some ⟨gi, 0, none⟩), .pointer (some ⟨w.heap.size, 0, none⟩), .slice (some ⟨w.heap.size, 0, none⟩) 256 256, .slice ad 256 cap, .int .i64 256, .pointer (some ⟨D, 0, none⟩), .pointer (some ⟨D, 0, none⟩), .pointer (some ⟨D, 1, none⟩), .map (some M), .int .i64 (i : Int), .pointer (some ⟨D, 0, none⟩), .pointer (some ⟨D, 0, none⟩), .pointer (some ⟨D, 1, none⟩), .map (some M), .int .i64 (i : Int), verN V C s i, .agg (verV l).toArray, undef, undef], []⟩ rfl rfl rfl ?_ hS ?_ (stepH (.slice (some ⟨w2.drew.heap.size, 0, none⟩) 1 1) (w2.drew.alloc (.cells (verV l).toArray TB)) ⟨#[.pointer (some ⟨gb, 0, none⟩), .pointer (some ⟨gd, 0, none⟩), .pointer (some ⟨gi, 0, none⟩), .pointer (some ⟨w.heap.size, 0, none⟩), .slice (some ⟨w.heap.size, 0, none⟩) 256 256, .slice ad 256 cap, .int .i64 256, .pointer (some ⟨D, 0, none⟩), .pointer (some ⟨D, 0, none⟩), .pointer (some ⟨D, 1, none⟩), .map (some M), .int .i64 (i : Int), .pointer (some ⟨D, 0, none⟩), .pointer (some ⟨D, 0, none⟩), .pointer (some ⟨D, 1, none⟩), .map (some M), .int .i64 (i : Int), undef, .agg (verV l).toArray, .slice (some ⟨w2.drew.heap.size, 0, none⟩) 1 1, undef], []⟩ rfl rfl rfl ?_ hS3 ?_ AllReadyH.nil))
  · exact exec_lookup (.tmp 15) (.tmp 16) rfl (.map (some M)) (.int .i64 (i : Int)) _ rfl rfl hlook
  · refine wpAnyH_ready (rs := [12]) (by kernel_rfl) (by simp) (stepH (.slice (some ⟨w2.drew.heap.size, 0, none⟩) 1 1) (w2.drew.alloc (.cells (verV l).toArray TB)) ⟨#[.pointer (some ⟨gb, 0, none⟩), .pointer (some ⟨gd, 0, none⟩), .pointer (some ⟨gi, 0, none⟩), .pointer (some ⟨w.heap.size, 0, none⟩), .slice (some ⟨w.heap.size, 0, none⟩) 256 256, .slice ad 256 cap, .int .i64 256, .pointer (some ⟨D, 0, none⟩), .pointer (some ⟨D, 0, none⟩), .pointer (some ⟨D, 1, none⟩), .map (some M), .int .i64 (i : Int), .pointer (some ⟨D, 0, none⟩), .pointer (some ⟨D, 0, none⟩), .pointer (some ⟨D, 1, none⟩), .map (some M), .int .i64 (i : Int), verN V C s i, .agg (verV l).toArray, .slice (some ⟨w2.drew.heap.size, 0, none⟩) 1 1, undef], []⟩ rfl rfl rfl ?_ hS3 ?_ AllReadyH.nil)
    · exact exec_buildSlice (.tmp 18) rfl (verV l) h256 rfl
    refine wpAnyH_ready (rs := [13]) (by kernel_rfl) (by simp) (stepH (.slice (some ⟨g, 0, none⟩) ((s.at i).vs.length + 1) c) w4 ⟨#[.pointer (some ⟨gb, 0, none⟩), .pointer (some ⟨gd, 0, none⟩), .pointer (some ⟨gi, 0, none⟩), .pointer (some ⟨w.heap.size, 0, none⟩), .slice (some ⟨w.heap.size, 0, none⟩) 256 256, .slice ad 256 cap, .int .i64 256, .pointer (some ⟨D, 0, none⟩), .pointer (some ⟨D, 0, none⟩), .pointer (some ⟨D, 1, none⟩), .map (some M), .int .i64 (i : Int), .pointer (some ⟨D, 0, none⟩), .pointer (some ⟨D, 0, none⟩), .pointer (some ⟨D, 1, none⟩), .map (some M), .int .i64 (i : Int), verN V C s i, .agg (verV l).toArray, .slice (some ⟨w2.drew.heap.size, 0, none⟩) 1 1, .slice (some ⟨g, 0, none⟩) ((s.at i).vs.length + 1) c], []⟩ rfl rfl rfl ?_ hS4 ?_ AllReadyH.nil)
    · exact exec_append (.tmp 17) (.tmp 19) rfl (verN V C s i) (.slice (some ⟨w2.drew.heap.size, 0, none⟩) 1 1) _ rfl rfl ha
    refine wpAnyH_ready (rs := [14]) (by kernel_rfl) (by simp) (stepSkipH w5 ⟨#[.pointer (some ⟨gb, 0, none⟩), .pointer (some ⟨gd, 0, none⟩), .pointer (some ⟨gi, 0, none⟩), .pointer (some ⟨w.heap.size, 0, none⟩), .slice (some ⟨w.heap.size, 0, none⟩) 256 256, .slice ad 256 cap, .int .i64 256, .pointer (some ⟨D, 0, none⟩), .pointer (some ⟨D, 0, none⟩), .pointer (some ⟨D, 1, none⟩), .map (some M), .int .i64 (i : Int), .pointer (some ⟨D, 0, none⟩), .pointer (some ⟨D, 0, none⟩), .pointer (some ⟨D, 1, none⟩), .map (some M), .int .i64 (i : Int), verN V C s i, .agg (verV l).toArray, .slice (some ⟨w2.drew.heap.size, 0, none⟩) 1 1, .slice (some ⟨g, 0, none⟩) ((s.at i).vs.length + 1) c], []⟩ rfl rfl rfl ?_ hS5 ?_ AllReadyH.nil)
    · exact exec_update (.tmp 10) (.tmp 11) (.tmp 20) rfl (.map (some M)) (.int .i64 (i : Int)) (.slice (some ⟨g, 0, none⟩) ((s.at i).vs.length + 1) c) rfl rfl rfl hu
    refine wpAnyH_done (by kernel_rfl) ?_ _
    exact bodyPost_end (results_none rfl _ _ _) rfl ⟨rfl, hm⟩
  · exact exec_buildSlice (.tmp 18) rfl (verV l) h256 rfl
  · refine wpAnyH_ready (rs := [10]) (by kernel_rfl) (by simp) (stepH (verN V C s i) (w2.drew.alloc (.cells (verV l).toArray TB)) ⟨#[.pointer (some ⟨gb, 0, none⟩), .pointer (some ⟨gd, 0, none⟩), .pointer (some ⟨gi, 0, none⟩), .pointer (some ⟨w.heap.size, 0, none⟩), .slice (some ⟨w.heap.size, 0, none⟩) 256 256, .slice ad 256 cap, .int .i64 256, .pointer (some ⟨D, 0, none⟩), .pointer (some ⟨D, 0, none⟩), .pointer (some ⟨D, 1, none⟩), .map (some M), .int .i64 (i : Int), .pointer (some ⟨D, 0, none⟩), .pointer (some ⟨D, 0, none⟩), .pointer (some ⟨D, 1, none⟩), .map (some M), .int .i64 (i : Int), verN V C s i, .agg (verV l).toArray, .slice (some ⟨w2.drew.heap.size, 0, none⟩) 1 1, undef], []⟩ rfl rfl rfl ?_ hS3 ?_ AllReadyH.nil)
    · exact exec_lookup (.tmp 15) (.tmp 16) rfl (.map (some M)) (.int .i64 (i : Int)) _ rfl rfl hlook3
    refine wpAnyH_ready (rs := [13]) (by kernel_rfl) (by simp) (stepH (.slice (some ⟨g, 0, none⟩) ((s.at i).vs.length + 1) c) w4 ⟨#[.pointer (some ⟨gb, 0, none⟩), .pointer (some ⟨gd, 0, none⟩), .pointer (some ⟨gi, 0, none⟩), .pointer (some ⟨w.heap.size, 0, none⟩), .slice (some ⟨w.heap.size, 0, none⟩) 256 256, .slice ad 256 cap, .int .i64 256, .pointer (some ⟨D, 0, none⟩), .pointer (some ⟨D, 0, none⟩), .pointer (some ⟨D, 1, none⟩), .map (some M), .int .i64 (i : Int), .pointer (some ⟨D, 0, none⟩), .pointer (some ⟨D, 0, none⟩), .pointer (some ⟨D, 1, none⟩), .map (some M), .int .i64 (i : Int), verN V C s i, .agg (verV l).toArray, .slice (some ⟨w2.drew.heap.size, 0, none⟩) 1 1, .slice (some ⟨g, 0, none⟩) ((s.at i).vs.length + 1) c], []⟩ rfl rfl rfl ?_ hS4 ?_ AllReadyH.nil)
    · exact exec_append (.tmp 17) (.tmp 19) rfl (verN V C s i) (.slice (some ⟨w2.drew.heap.size, 0, none⟩) 1 1) _ rfl rfl ha
    refine wpAnyH_ready (rs := [14]) (by kernel_rfl) (by simp) (stepSkipH w5 ⟨#[.pointer (some ⟨gb, 0, none⟩), .pointer (some ⟨gd, 0, none⟩), .pointer (some ⟨gi, 0, none⟩), .pointer (some ⟨w.heap.size, 0, none⟩), .slice (some ⟨w.heap.size, 0, none⟩) 256 256, .slice ad 256 cap, .int .i64 256, .pointer (some ⟨D, 0, none⟩), .pointer (some ⟨D, 0, none⟩), .pointer (some ⟨D, 1, none⟩), .map (some M), .int .i64 (i : Int), .pointer (some ⟨D, 0, none⟩), .pointer (some ⟨D, 0, none⟩), .pointer (some ⟨D, 1, none⟩), .map (some M), .int .i64 (i : Int), verN V C s i, .agg (verV l).toArray, .slice (some ⟨w2.drew.heap.size, 0, none⟩) 1 1, .slice (some ⟨g, 0, none⟩) ((s.at i).vs.length + 1) c], []⟩ rfl rfl rfl ?_ hS5 ?_ AllReadyH.nil)
    · exact exec_update (.tmp 10) (.tmp 11) (.tmp 20) rfl (.map (some M)) (.int .i64 (i : Int)) (.slice (some ⟨g, 0, none⟩) ((s.at i).vs.length + 1) c) rfl rfl rfl hu
    refine wpAnyH_done (by kernel_rfl) ?_ _
    exact bodyPost_end (results_none rfl _ _ _) rfl ⟨rfl, hm⟩
end Go.Proofs.YtikomnbhmmjfnaaGreat

/- Write of package disk. -/
namespace Go.Proofs.YtikomnbhmmjfnaaGreat
open Go.RowKit
variable {w w' : World} {F : List Nat} {D B M : Nat} {Dm : DataW Value} {V C : Nat → Nat} {s : DSt}

/-- No block has too many versions. -/
def DSt.few (s : DSt) : Prop := ∀ x ∈ s.bs, x.vs.length ≤ 1073741824
theorem Pic.moved (h : Pic w' F D B M Dm V C s) (hc : Chg F w w') : Moved Dk F D s w w' := ⟨⟨F, ⟨_, _, _, _, _, h⟩, fun _ hg => Or.inl hg⟩, hc⟩
theorem Moved.pre {w0 : World} (h : Moved Dk F D s w w') (hc : Chg F w0 w) : Moved Dk F D s w0 w' := by
  obtain ⟨⟨F', h1, h2⟩, h3⟩ := h
  exact ⟨⟨F', h1, fun g hg => (h2 g hg).imp id (fun h => Nat.le_trans hc.size h)⟩, hc.trans h3 (fun k hk => Or.inl hk)⟩
theorem Pic.not_byte (h : Pic w F D B M Dm V C s) {off : Nat} {x : Int} (hc : w.cell? ⟨D, off, none⟩ = some (.int .u8 x)) : False := by
  rw [h.cell] at hc
  unfold diskV at hc
  match off, hc with
  | 0, hc => simp at hc
  | 1, hc => simp at hc
  | 2, hc => simp at hc
  | 3, hc => simp at hc
  | n + 4, hc => simp at hc
/-- Bytes that came in stay as they are when the struct is written. -/
theorem Pic.part (h : Pic w F D B M Dm V C s) {p : Part} (hp : p.ok w) (hc : Chg [D] w w') : p.ok w' := hp.chg hc (fun b off e hne hm => by
  have e2 : b = D := by simpa using hm
  subst e2
  rcases hp.2.2.2 with h0 | ⟨b', off', e3, _, hcell⟩
  · exact hne h0
  · rw [e] at e3
    cases e3
    exact h.not_byte (hcell 0 (List.length_pos_iff.2 hne)))
theorem three_blocks (w : World) (a b c : Obj) : (((w.alloc a).alloc b).alloc c).heap[w.heap.size]? = some a ∧ (((w.alloc a).alloc b).alloc c).heap[w.heap.size + 1]? = some b ∧ (((w.alloc a).alloc b).alloc c).heap[w.heap.size + 2]? = some c := by
  have e1 : (w.alloc a).heap.size = w.heap.size + 1 := by simp
  have e2 : ((w.alloc a).alloc b).heap.size = w.heap.size + 2 := by simp
  refine ⟨?_, ?_, ?_⟩
  · rw [heap_alloc_old _ _ (by omega), heap_alloc_old _ _ (by omega)]; exact heap_alloc_last w a
  · rw [heap_alloc_old _ _ (by omega), ← e1]; exact heap_alloc_last (w.alloc a) b
  · rw [← e2]; exact heap_alloc_last ((w.alloc a).alloc b) c
set_option maxRecDepth 100000 in
set_option maxHeartbeats 2000000 in
theorem write_pic (h : Pic w F D B M Dm V C s) (hfew : s.few) (i : Int) (ad : Option Addr) (len cap : Nat) (l : List Nat) (hp : Part.ok w ⟨ad, len, cap, l⟩) :
    Calls Tryz.prog 80 #[.pointer (some ⟨D, 0, none⟩), .int .i64 i, .slice ad len cap] w fun x w' => x = .returned (.int .i64 (writeD s i l).1) ∧ Moved Dk F D (writeD s i l).2 w w' := by
  have b1 : Below w.heap.size w (((w.alloc (.cells #[.pointer (some ⟨D, 0, none⟩)] 37)).alloc (.cells #[.int .i64 i] 3)).alloc (.cells #[.slice ad len cap] 28)) :=
    (((Below.refl w.heap.size w).alloc (Nat.le_refl _) _).alloc (by simp) _).alloc (by simp; omega) _
  have hl : l.length = len := hp.1
  have h1 := h.below b1
  have hp1 := hp.later b1
  have hh := has_pic h1 i
  have B1 : Hid (Chg F w (((w.alloc (.cells #[.pointer (some ⟨D, 0, none⟩)] 37)).alloc (.cells #[.int .i64 i] 3)).alloc (.cells #[.slice ad len cap] 28))) := (show Hid _ from Chg.of b1)
  have HP1 : Hid (Pic (((w.alloc (.cells #[.pointer (some ⟨D, 0, none⟩)] 37)).alloc (.cells #[.int .i64 i] 3)).alloc (.cells #[.slice ad len cap] 28)) F D B M Dm V C s) := h1
  by_cases hi : s.has i = true
  · rw [hi] at hh
    by_cases hlen : len = 256
    · subst hlen
      have hw : writeD s i l = (if (opD s).1 then (0, (opD s).2.setB i.toNat (((opD s).2.at i.toNat).add l)) else (8, (opD s).2)) := by
        unfold writeD
        rw [hi, hl]
        rfl
      have hop : Calls Tryz.prog 105 #[.pointer (some ⟨D, 0, none⟩), .func (.func 106) #[] #[.pointer (some ⟨w.heap.size + 2, 0, none⟩), .pointer (some ⟨w.heap.size, 0, none⟩), .pointer (some ⟨w.heap.size + 1, 0, none⟩)]] (((w.alloc (.cells #[.pointer (some ⟨D, 0, none⟩)] 37)).alloc (.cells #[.int .i64 i] 3)).alloc (.cells #[.slice ad 256 cap] 28)) fun x w' => x = .returned (.int .i64 (writeD s i l).1) ∧ Moved Dk F D (writeD s i l).2 w w' := by
        refine (op_write h1 _ _ _ (fun w' => Moved Dk F D ((opD s).2.setB i.toNat (((opD s).2.at i.toNat).add l)) w w') (fun w2 h0 h2 hc => ?_)).mono ?_
        · have hi2 := has_lt hi
          have hci : (i.toNat : Int) = i := by omega
          have hltF := h.lt
          have hD := h.ltD
          have cell : ∀ g o, g ≠ D → (((w.alloc (.cells #[.pointer (some ⟨D, 0, none⟩)] 37)).alloc (.cells #[.int .i64 i] 3)).alloc (.cells #[.slice ad 256 cap] 28)).heap[g]? = some o → w2.heap[g]? = some o := fun g o hg ho => by
            rw [hc.block g (Array.getElem?_eq_some_iff.1 ho).1 (by simpa using hg)]; exact ho
          refine (write1_pic h2 i.toNat (by rw [opD_bs]; exact hi2.2) (w.heap.size + 2) w.heap.size (w.heap.size + 1) cap ad l (h1.part hp1 hc) ?_ ?_ ?_ ?_ ?_ ?_).mono ?_
          · rw [cell_of_row _ _ _ _ _ _ (cell (w.heap.size + 2) _ (by omega) (three_blocks w _ _ _).2.2)]; rfl
          · rw [cell_of_row _ _ _ _ _ _ (cell w.heap.size _ (by omega) (three_blocks w _ _ _).1)]; rfl
          · rw [cell_of_row _ _ _ _ _ _ (cell (w.heap.size + 1) _ (by omega) (three_blocks w _ _ _).2.1), hci]; rfl
          · exact fun hm => absurd (hltF _ hm) (by omega)
          · exact fun hm => absurd (hltF _ hm) (by omega)
          · rw [opD_at]; exact hfew _ (at_mem hi2.2)
          · rintro e w3 ⟨rfl, hm⟩
            exact ⟨rfl, hm.pre ((Chg.of b1).trans (G := [D]) hc (fun k hk => by simp at hk; rw [hk]; exact Or.inl h.mD))⟩
        · rintro e w3 (⟨h0, rfl, hm⟩ | ⟨h0, rfl, hm, hc⟩)
          · rw [hw, if_pos h0]
            exact ⟨rfl, hm⟩
          · rw [hw, if_neg (by rw [h0]; simp)]
            exact ⟨rfl, hm.moved ((Chg.of b1).trans (G := [D]) hc (fun k hk => by simp at hk; rw [hk]; exact Or.inl h.mD))⟩
      clear h h1 hp hp1 hw b1
      go_enter Tryz.func80, Tryz.ntmps80
      go_wp2_with (first
        | (go_at_call 75; refine hh.mono ?_; rintro e w' ⟨rfl, hw'⟩; obtain rfl := hw'.symm)
        | (go_at_call 105; refine hop.mono ?_; rintro e w3 ⟨rfl, hm⟩))
      go_ret
      exact ⟨rfl, hm⟩
    · have hw : writeD s i l = (1, s) := by
        unfold writeD
        rw [hi, hl]
        have : (len == 256) = false := by simpa using hlen
        rw [this]
        rfl
      rw [hw]
      clear h h1 hp hp1 hw b1
      go_enter Tryz.func80, Tryz.ntmps80
      go_wp2_with (go_at_call 75; refine hh.mono ?_; rintro e w' ⟨rfl, hw'⟩; obtain rfl := hw'.symm)
      go_ret
      exact ⟨rfl, HP1.out.moved B1.out⟩
  · have hi2 : s.has i = false := by simpa using hi
    rw [hi2] at hh
    have hw : writeD s i l = (1, s) := by
      unfold writeD
      rw [hi2]
      rfl
    rw [hw]
    clear h h1 hp hp1 hw b1
    go_enter Tryz.func80, Tryz.ntmps80
    go_wp2_with (go_at_call 75; refine hh.mono ?_; rintro e w' ⟨rfl, hw'⟩; obtain rfl := hw'.symm)
    go_ret
    exact ⟨rfl, HP1.out.moved B1.out⟩
end Go.Proofs.YtikomnbhmmjfnaaGreat

/- take of package disk: a version becomes durable, or nothing is left. -/
namespace Go.Proofs.YtikomnbhmmjfnaaGreat
open Go.RowKit
variable {w w' : World} {F : List Nat} {D B M : Nat} {Dm : DataW Value} {V C : Nat → Nat} {s : DSt}

theorem setB_self {s : DSt} {i : Nat} (hi : i < s.bs.length) : s.setB i ⟨(s.at i).dur, (s.at i).vs⟩ = s := by
  have e : s.at i = s.bs[i] := by unfold DSt.at; rw [List.getD_eq_getElem?_getD, List.getElem?_eq_getElem hi]; rfl
  show (⟨s.bs.set i (s.at i), s.off, s.fuse⟩ : DSt) = s
  rw [e, List.set_getElem_self]
theorem row_fit (h : Pic w F D B M Dm V C s) {i : Nat} (hi : i < s.bs.length) (l : List Value) (hl : l.length = 257) : i * 257 + l.length ≤ (s.bs.flatMap durV).toArray.size := by
  rw [List.size_toArray, flat_len durV 257 s.bs h.durs, hl]
  omega
theorem Pic.dur' (h : Pic w F D B M Dm V C s) {i : Nat} (hi : i < s.bs.length) (d : Option (List Nat)) (hd : ∀ t, d = some t → t.length = 256 ∧ ∀ y ∈ t, y < 256) (l : List Value) (hl : l = durV ⟨d, []⟩) :
    Pic (w.setRow B ((s.bs.flatMap durV).toArray.toList.take (i * 257) ++ l ++ (s.bs.flatMap durV).toArray.toList.drop (i * 257 + l.length)).toArray) F D B M Dm V C (s.setB i ⟨d, (s.at i).vs⟩) ∧
    Chg [B] w (w.setRow B ((s.bs.flatMap durV).toArray.toList.take (i * 257) ++ l ++ (s.bs.flatMap durV).toArray.toList.drop (i * 257 + l.length)).toArray) := by
  have hc : Chg [B] w (w.setRow B ((s.bs.flatMap durV).toArray.toList.take (i * 257) ++ l ++ (s.bs.flatMap durV).toArray.toList.drop (i * 257 + l.length)).toArray) :=
    ⟨rfl, rfl, rfl, by rw [setRow_size]; exact Nat.le_refl _, fun k _ hk => setRow_other w B k _ (by simpa using hk)⟩
  refine ⟨h.dur hi d hd hc ?_, hc⟩
  rw [setRow_heap w B _ _ TD _ h.hB, hl]
  have e : (durV ⟨d, []⟩).length = 257 := durV_len hd
  rw [e]
/-- A durable text is stored. -/
theorem store_dur {ops : Array Oper} {rest : List Oper} {o : Oper} {a : Act} {Q : Exit → Act → World → Prop} (h : Pic w F D B M Dm V C s) {i : Nat} (hi : i < s.bs.length) (d : Option (List Nat)) (hd : ∀ t, d = some t → t.length = 256 ∧ ∀ y ∈ t, y < 256) (hgd : o.guard = none) (x y : Operand) (ho : o.op = .store TD x y)
    (hx : a.eval x = .pointer (some ⟨B, i * 257, none⟩)) (hy : a.eval y = .agg (durV ⟨d, []⟩).toArray)
    (hK : ∀ w', Pic w' F D B M Dm V C (s.setB i ⟨d, (s.at i).vs⟩) → Chg [B] w w' → wpList Tryz.prog ops Q rest (a.put o.dst undef) w') : wpList Tryz.prog ops Q (o :: rest) a w := by
  have hl : (durV ⟨d, []⟩).length = 257 := durV_len hd
  have fin := h.dur' hi d hd _ rfl
  exact store_wide hgd TD x y ho (durV ⟨d, []⟩) (by rw [hl]; exact sizeD) B (i * 257) hx hy TD _ h.hB (row_fit h hi _ hl) (durV_one _) (hK _ fin.1 fin.2)
set_option maxRecDepth 100000 in
set_option maxHeartbeats 2000000 in
theorem take_pic (h : Pic w F D B M Dm V C s) (i : Nat) (hi : i < s.bs.length) (hv : (s.at i).vs ≠ []) (c : Int) (hc1 : -9223372036854775808 ≤ c) (hc2 : c ≤ 9223372036854775807) :
    Calls Tryz.prog 93 #[.pointer (some ⟨B, i * 257, none⟩), .slice (some ⟨V i, 0, none⟩) (s.at i).vs.length (C i), .int .i64 c] w fun e w' => e = .returned (.tuple #[]) ∧ Pic w' F D B M Dm V C (s.setB i ⟨((s.at i).crash c).dur, (s.at i).vs⟩) ∧ Chg [B] w w' := by
  have HP : Hid (Pic w F D B M Dm V C s) := h
  have HV : Hid ((s.at i).vs ≠ []) := hv
  have hmax : (s.at i).vs.length ≤ maxLen := by obtain ⟨cur, _, r1, r2, _⟩ := h.rowBlock hi hv; omega
  unfold maxLen at hmax
  clear h hv
  by_cases h0 : c = 0
  · subst h0
    have e : s.setB i ⟨((s.at i).crash 0).dur, (s.at i).vs⟩ = s := setB_self hi
    rw [e]
    go_enter Tryz.func93, Tryz.ntmps93
    go_wp2
    refine bodyPost_ret (results_none rfl _ _ _) rfl ?_
    exact ⟨rfl, HP.out, Chg.refl _ _⟩
  · have hne : (c == 0) = false := by simpa using h0
    by_cases h1 : 0 < c ∧ c ≤ (s.at i).vs.length
    · have e : ((s.at i).crash c).dur = some ((s.at i).vs.getD (c.toNat - 1) []) := by
        unfold DBlock.crash
        rw [if_neg h0, if_pos h1]
      obtain ⟨l, hl⟩ : ∃ l, (s.at i).vs[c.toNat - 1]? = some l := ⟨(s.at i).vs[c.toNat - 1]'(by omega), List.getElem?_eq_getElem _⟩
      have e2 : (s.at i).vs.getD (c.toNat - 1) [] = l := by rw [List.getD_eq_getElem?_getD, hl]; rfl
      rw [e, e2]
      have hm : l ∈ (s.at i).vs := List.mem_of_getElem? hl
      have h256 : (verV l).length = 256 := HP.out.vers hi l hm
      have hlok := HP.out.ok.vs _ (at_mem hi) l hm
      have HC : Hid (∀ j, j < (verV l).length → w.cell? ⟨V i, (c.toNat - 1) * 256 + j, none⟩ = (verV l)[j]?) := HP.out.verCell hi HV.out hl
      have HL : Hid (l.length = 256 ∧ ∀ y ∈ l, y < 256) := hlok
      clear e e2 hl hm hlok
      obtain ⟨m, hm⟩ : ∃ m, (s.at i).vs.length = m := ⟨_, rfl⟩
      rw [hm] at h1 hmax ⊢
      clear hm
      have hpos : 0 < c := h1.1
      have hle : c ≤ (m : Int) := h1.2
      clear h1 h0
      go_enter Tryz.func93, Tryz.ntmps93
      go_wp2_with (first
        | (refine load_wide rfl TB _ rfl _ Tryz.underlying129 rfl (verV l) (by rw [h256]; exact sizeB) (V i) ((c.toNat - 1) * 256) rfl HC.out ?_)
        | (refine build_text rfl _ rfl _ rfl (verV l ++ [Value.bool false]) ?_ ?_; (exact fun w => run_buildD w _ h256))
        | (refine store_dur HP.out hi (some l) (fun t ht => by cases ht; exact HL.out) rfl _ _ rfl rfl rfl ?_; intro w2 hp2 hc2))
      refine bodyPost_end (results_none rfl _ _ _) rfl ⟨rfl, hp2, hc2⟩
    · have e : ((s.at i).crash c).dur = none := by
        unfold DBlock.crash
        rw [if_neg h0, if_neg h1]
      rw [e]
      clear e
      obtain ⟨m, hm⟩ : ∃ m, (s.at i).vs.length = m := ⟨_, rfl⟩
      rw [hm] at h1 hmax ⊢
      clear hm
      by_cases h2 : c < 0
      · go_enter Tryz.func93, Tryz.ntmps93
        go_wp2_with (first
          | (refine build_bad rfl rfl (z256 ++ [Value.bool true]) ?_ ?_; (exact fun w => run_buildBad w))
          | (refine store_dur HP.out hi none (fun t ht => by cases ht) rfl _ _ rfl rfl rfl ?_; intro w2 hp2 hc2))
        refine bodyPost_ret (results_none rfl _ _ _) rfl ⟨rfl, hp2, hc2⟩
      · have h3 : (m : Int) < c := by omega
        go_enter Tryz.func93, Tryz.ntmps93
        go_wp2_with (first
          | (refine build_bad rfl rfl (z256 ++ [Value.bool true]) ?_ ?_; (exact fun w => run_buildBad w))
          | (refine store_dur HP.out hi none (fun t ht => by cases ht) rfl _ _ rfl rfl rfl ?_; intro w2 hp2 hc2))
        refine bodyPost_ret (results_none rfl _ _ _) rfl ⟨rfl, hp2, hc2⟩
end Go.Proofs.YtikomnbhmmjfnaaGreat

/- How the versions of all dirty blocks end, one after another: plain mathematics. -/
namespace Go.Proofs.YtikomnbhmmjfnaaGreat
open Go.RowKit

/-- The first m dirty blocks have ended; f tells the number that is chosen. -/
def settleM (f : Nat → Nat → Int) : List DBlock → Nat → Nat → List DBlock
  | [], _, _ => []
  | x :: xs, k, m => if x.vs = [] then x :: settleM f xs k m else match m with
    | 0 => x :: xs
    | m + 1 => x.crash (f k x.vs.length) :: settleM f xs (k + 1) m
theorem settle_clean (f : Nat → Nat → Int) {x : DBlock} (h : x.vs = []) (xs : List DBlock) (k m : Nat) : settleM f (x :: xs) k m = x :: settleM f xs k m := by rw [settleM.eq_def]; simp only; rw [if_pos h]
theorem settle_zero (f : Nat → Nat → Int) {x : DBlock} (h : x.vs ≠ []) (xs : List DBlock) (k : Nat) : settleM f (x :: xs) k 0 = x :: xs := by rw [settleM, if_neg h]
theorem settle_succ (f : Nat → Nat → Int) {x : DBlock} (h : x.vs ≠ []) (xs : List DBlock) (k m : Nat) : settleM f (x :: xs) k (m + 1) = x.crash (f k x.vs.length) :: settleM f xs (k + 1) m := by rw [settleM, if_neg h]
theorem settle_none (f : Nat → Nat → Int) : ∀ (bs : List DBlock) (k : Nat), settleM f bs k 0 = bs
  | [], _ => rfl
  | x :: xs, k => by
    by_cases h : x.vs = []
    · rw [settle_clean f h, settle_none f xs]
    · rw [settle_zero f h]
theorem dirt_clean {x : DBlock} (h : x.vs = []) (xs : List DBlock) (k : Nat) : dirt (x :: xs) k = dirt xs (k + 1) := by rw [dirt, if_pos h]
theorem dirt_dirty {x : DBlock} (h : x.vs ≠ []) (xs : List DBlock) (k : Nat) : dirt (x :: xs) k = k :: dirt xs (k + 1) := by rw [dirt, if_neg h]
theorem settle_step (f : Nat → Nat → Int) : ∀ (bs : List DBlock) (k off m i : Nat), (dirt bs off)[m]? = some i → ∃ j, i = off + j ∧ j < bs.length ∧ (bs.getD j b0).vs ≠ [] ∧ (settleM f bs k m).getD j b0 = bs.getD j b0 ∧ settleM f bs k (m + 1) = (settleM f bs k m).set j ((bs.getD j b0).crash (f (k + m) (bs.getD j b0).vs.length))
  | [], k, off, m, i, h => by simp [dirt] at h
  | x :: xs, k, off, m, i, h => by
    by_cases h0 : x.vs = []
    · rw [dirt_clean h0] at h
      obtain ⟨j, h1, h2, h3, h4, h5⟩ := settle_step f xs k (off + 1) m i h
      refine ⟨j + 1, by omega, by simp; omega, by simpa using h3, ?_, ?_⟩
      · rw [settle_clean f h0]; simpa using h4
      · rw [settle_clean f h0, settle_clean f h0, h5]; simp
    · rw [dirt_dirty h0] at h
      cases m with
      | zero =>
        simp at h
        refine ⟨0, by omega, by simp, by simpa using h0, ?_, ?_⟩
        · rw [settle_zero f h0]
        · rw [settle_succ f h0, settle_zero f h0, settle_none]; simp
      | succ m =>
        obtain ⟨j, h1, h2, h3, h4, h5⟩ := settle_step f xs (k + 1) (off + 1) m i (by simpa using h)
        refine ⟨j + 1, by omega, by simp; omega, by simpa using h3, ?_, ?_⟩
        · rw [settle_succ f h0]; simpa using h4
        · rw [settle_succ f h0, settle_succ f h0, h5]
          have e : k + 1 + m = k + (m + 1) := by omega
          rw [e]
          simp
theorem settle_len (f : Nat → Nat → Int) : ∀ (bs : List DBlock) (k m : Nat), (settleM f bs k m).length = bs.length
  | [], _, _ => rfl
  | x :: xs, k, m => by
    by_cases h : x.vs = []
    · rw [settle_clean f h, List.length_cons, settle_len f xs, List.length_cons]
    · cases m with
      | zero => rw [settle_zero f h]
      | succ m => rw [settle_succ f h, List.length_cons, settle_len f xs, List.length_cons]
/-- P303: all of a Sync. -/
theorem settle_sync : ∀ (bs : List DBlock) (k : Nat), settleM (fun _ n => (n : Int)) bs k (dirtyBs bs) = bs.map DBlock.sync
  | [], _ => rfl
  | x :: xs, k => by
    unfold dirtyBs
    by_cases h : x.vs = []
    · rw [if_pos h, Nat.zero_add, settle_clean _ h, settle_sync xs, List.map_cons]
      congr 1
      unfold DBlock.sync
      rw [if_pos h]
    · rw [if_neg h, Nat.add_comm, settle_succ _ h, settle_sync xs, List.map_cons]
      congr 1
      have hl : 0 < x.vs.length := List.length_pos_iff.2 h
      unfold DBlock.sync DBlock.crash
      rw [if_neg h, if_neg (by omega), if_pos (by omega), List.getLast?_eq_getElem?, Int.toNat_natCast, List.getD_eq_getElem?_getD, List.getElem?_eq_getElem (by omega)]
      rfl
/-- P305: all of a Crash. -/
theorem settle_crash (f : Nat → Nat → Int) : ∀ (bs : List DBlock) (k : Nat) (cs : List Int), (∀ j n, f (k + j) n = cs.getD j 0) → settleM f bs k (dirtyBs bs) = crashBs bs cs
  | [], _, _, _ => rfl
  | x :: xs, k, cs, hf => by
    unfold dirtyBs crashBs
    by_cases h : x.vs = []
    · rw [if_pos h, if_pos h, Nat.zero_add, settle_clean _ h, settle_crash f xs k cs hf]
    · rw [if_neg h, if_neg h, Nat.add_comm, settle_succ _ h]
      have h0 := hf 0 x.vs.length
      rw [Nat.add_zero] at h0
      rw [h0, settle_crash f xs (k + 1) cs.tail (fun j n => by
        rw [show k + 1 + j = k + (j + 1) by omega, hf]
        cases cs <;> simp)]
      congr 2
      cases cs <;> rfl
end Go.Proofs.YtikomnbhmmjfnaaGreat
