/- A disk in memory: its struct, its row of durable texts, its map of versions. No function of the program is named here. -/
import Derived.Test.YtoopnafdpenofaaWide2
import Derived.Lib.SlKeysI
import Derived.Maps.Ext
namespace Go.Proofs.Ytoopnafdpenofaa
open Go.RowKit

abbrev TK : TypeId := 39
def durV (x : DBlock) : List Value := match x.dur with
  | some t => t.map bv ++ [Value.bool false]
  | none => z256 ++ [Value.bool true]
def verV (l : List Nat) : List Value := l.map bv
/-- How a map's element is read: as it is. -/
def RV (v : Value) : Option (DataW Value × List MemPlace) := some (.held v, [])
def diskV (B M n : Nat) (off : Bool) (fuse : Int) : Array Value := #[.slice (some ⟨B, 0, none⟩) n n, .map (some M), .bool off, .int .i64 fuse]
/-- The key of block i. -/
def kI (i : Nat) : Lit := .int .i64 (i : Int)
def verS (V C : Nat → Nat) (s : DSt) (i : Nat) : Value := .slice (some ⟨V i, 0, none⟩) (s.at i).vs.length (C i)
structure Pic (w : World) (F : List Nat) (D B M : Nat) (Dm : DataW Value) (V C : Nat → Nat) (s : DSt) : Prop where
  n1 : 1 ≤ s.bs.length
  n2 : s.bs.length ≤ 4096
  ok : s.ok
  top : s.fuse ≤ 9223372036854775807
  hD : w.heap[D]? = some (.cells (diskV B M s.bs.length s.off s.fuse) TK (0, 0))
  hB : w.heap[B]? = some (.cells (s.bs.flatMap durV).toArray TD (0, 0))
  hM : w.ownsMap Try.prog 3 RV M (Maps.size Dm) Dm
  has : ∀ kl, Maps.has Dm kl = true ↔ ∃ i, i < s.bs.length ∧ kl = kI i ∧ (s.at i).vs ≠ []
  look : ∀ i, i < s.bs.length → (s.at i).vs ≠ [] → ∀ z, Dm.atKey (kI i) z = .held (verS V C s i)
  row : ∀ i, i < s.bs.length → (s.at i).vs ≠ [] → w.ownsRow 0 TB 256 (verS V C s i) (s.at i).vs.length ((s.at i).vs.flatMap verV)
  apart : ∀ i j, i < s.bs.length → j < s.bs.length → i ≠ j → (s.at i).vs ≠ [] → (s.at j).vs ≠ [] → V i ≠ V j
  mD : D ∈ F
  mB : B ∈ F
  mM : M ∈ F
  mV : ∀ i, i < s.bs.length → (s.at i).vs ≠ [] → V i ∈ F
  lt : ∀ g ∈ F, g < w.heap.size
def Dk (w : World) (F : List Nat) (D : Nat) (s : DSt) : Prop := ∃ B M Dm V C, Pic w F D B M Dm V C s

variable {w w' : World} {F : List Nat} {D B M : Nat} {Dm : DataW Value} {V C : Nat → Nat} {s : DSt}
theorem durV_len {x : DBlock} (h : ∀ t, x.dur = some t → t.length = 256 ∧ ∀ y ∈ t, y < 256) : (durV x).length = 257 := by
  unfold durV
  cases hx : x.dur with
  | none => simp [z256_len]
  | some t => simp [(h t hx).1]
theorem Pic.durs (h : Pic w F D B M Dm V C s) : ∀ x ∈ s.bs, (durV x).length = 257 := fun x hx => durV_len (h.ok.dur x hx)
theorem Pic.vers (h : Pic w F D B M Dm V C s) {i : Nat} (hi : i < s.bs.length) : ∀ l ∈ (s.at i).vs, (verV l).length = 256 := fun l hl => by
  unfold verV; rw [List.length_map]; exact (h.ok.vs _ (at_mem hi) l hl).1
theorem bv_one1 (x : Nat) : (bv x).oneCell' = true := rfl
theorem verV_one (l : List Nat) : ∀ v ∈ verV l, v.oneCell' = true := fun v hv => by
  obtain ⟨x, _, rfl⟩ := List.mem_map.1 hv; rfl
theorem z256_one : ∀ v ∈ z256, v.oneCell' = true := fun v hv => by rw [z256, List.mem_replicate] at hv; rw [hv.2]; rfl
theorem ownsMap_kept {n : Nat} (h : w.ownsMap Try.prog 3 RV M n Dm) (hk : w'.heap[M]? = w.heap[M]?) : w'.ownsMap Try.prog 3 RV M n Dm := by
  obtain ⟨es, clock, hb, r⟩ := h
  exact ⟨es, clock, hk.trans hb, r⟩
theorem ownsRow_kept {base e size : Nat} {g n cap : Nat} {xs : List Value} (h : w.ownsRow base e size (.slice (some ⟨g, 0, none⟩) n cap) n xs) (hk : w'.heap[g]? = w.heap[g]?) : w'.ownsRow base e size (.slice (some ⟨g, 0, none⟩) n cap) n xs := by
  refine ⟨h.1, ?_⟩
  rcases h.2 with ⟨h1, _⟩ | ⟨g', cap', cur, e1, r1, r2, r3⟩
  · cases h1
  · cases e1
    exact Or.inr ⟨g, cap, cur, rfl, r1, hk.trans r2, r3⟩
theorem Pic.keep (h : Pic w F D B M Dm V C s) (hk : ∀ g ∈ F, w'.heap[g]? = w.heap[g]?) (hs : w.heap.size ≤ w'.heap.size) : Pic w' F D B M Dm V C s :=
  ⟨h.n1, h.n2, h.ok, h.top, (hk D h.mD).trans h.hD, (hk B h.mB).trans h.hB, ownsMap_kept h.hM (hk M h.mM), h.has, h.look, fun i hi hv => ownsRow_kept (h.row i hi hv) (hk _ (h.mV i hi hv)), h.apart, h.mD, h.mB, h.mM, h.mV, fun g hg => Nat.lt_of_lt_of_le (h.lt g hg) hs⟩
theorem Dk.keep (h : Dk w F D s) (hk : ∀ g ∈ F, w'.heap[g]? = w.heap[g]?) (hs : w.heap.size ≤ w'.heap.size) : Dk w' F D s := by
  obtain ⟨B, M, Dm, V, C, h⟩ := h
  exact ⟨B, M, Dm, V, C, h.keep hk hs⟩
theorem Dk.lt (h : Dk w F D s) : ∀ g ∈ F, g < w.heap.size := by
  obtain ⟨B, M, Dm, V, C, h⟩ := h
  exact h.lt
theorem Dk.ok (h : Dk w F D s) : s.ok := by
  obtain ⟨B, M, Dm, V, C, h⟩ := h
  exact h.ok
theorem Dk.below (h : Dk w F D s) (hb : Below w.heap.size w w') : Dk w' F D s := h.keep (fun g hg => hb.block g (h.lt g hg)) hb.size
theorem Pic.below (h : Pic w F D B M Dm V C s) (hb : Below w.heap.size w w') : Pic w' F D B M Dm V C s := h.keep (fun g hg => hb.block g (h.lt g hg)) hb.size
theorem Pic.ltD (h : Pic w F D B M Dm V C s) : D < w.heap.size := h.lt D h.mD
theorem Pic.cell (h : Pic w F D B M Dm V C s) (i : Nat) : w.cell? ⟨D, i, none⟩ = (diskV B M s.bs.length s.off s.fuse)[i]? := cell_of_row _ _ _ _ _ _ h.hD
theorem Pic.free (h : Pic w F D B M Dm V C s) (i : Nat) : w.frozen? ⟨D, i, none⟩ = false := by simp [World.frozen?, h.hD]
/-- All four cells of the struct. -/
theorem Pic.cells (h : Pic w F D B M Dm V C s) : w.cell? ⟨D, 0, none⟩ = some (.slice (some ⟨B, 0, none⟩) s.bs.length s.bs.length) ∧ w.cell? ⟨D, 1, none⟩ = some (.map (some M)) ∧ w.cell? ⟨D, 2, none⟩ = some (.bool s.off) ∧ w.cell? ⟨D, 3, none⟩ = some (.int .i64 s.fuse) :=
  ⟨h.cell 0, h.cell 1, h.cell 2, h.cell 3⟩
theorem Pic.neDB (h : Pic w F D B M Dm V C s) : D ≠ B := fun e => by
  have h1 := h.hD
  rw [e, h.hB] at h1
  injection h1 with h1
  injection h1 with h1 h2
  exact absurd h2 (by decide)
theorem Pic.neM (h : Pic w F D B M Dm V C s) : D ≠ M ∧ B ≠ M := by
  obtain ⟨es, clock, hb, _⟩ := h.hM
  refine ⟨fun e => ?_, fun e => ?_⟩
  · have h1 := h.hD; rw [e, hb] at h1; cases h1
  · have h1 := h.hB; rw [e, hb] at h1; cases h1
theorem Pic.rowBlock (h : Pic w F D B M Dm V C s) {i : Nat} (hi : i < s.bs.length) (hv : (s.at i).vs ≠ []) : ∃ cur, w.heap[V i]? = some (.cells cur TB (0, 0)) ∧ (s.at i).vs.length ≤ C i ∧ C i ≤ maxLen ∧ cur.size = C i * 256 ∧ cur.toList.take ((s.at i).vs.length * 256) = (s.at i).vs.flatMap verV := by
  rcases (h.row i hi hv).2 with ⟨h1, _⟩ | ⟨g', cap', cur, e1, r1, r2, r3⟩
  · cases h1
  · cases e1
    exact ⟨cur, r2, r3⟩
theorem Pic.neV (h : Pic w F D B M Dm V C s) {i : Nat} (hi : i < s.bs.length) (hv : (s.at i).vs ≠ []) : V i ≠ D ∧ V i ≠ B ∧ V i ≠ M := by
  obtain ⟨cur, hc, _⟩ := h.rowBlock hi hv
  refine ⟨fun e => ?_, fun e => ?_, fun e => ?_⟩
  · rw [e, h.hD] at hc; injection hc with hc; injection hc with h1 h2; exact absurd h2 (by decide)
  · rw [e, h.hB] at hc; injection hc with hc; injection hc with h1 h2; exact absurd h2 (by decide)
  · obtain ⟨es, clock, hb, _⟩ := h.hM
    rw [e, hb] at hc; cases hc
theorem keyI : Maps.Keyed Try.prog 3 := Maps.int_keyed Try.underlying3
theorem keyOf_i {i : Nat} (hi : i < 9223372036854775808) : keyOf Try.prog 3 (.int .i64 (i : Int)) = some (kI i) := Maps.keyOf_int_mk Try.underlying3 (by have h1 : IntKind.i64.min = -9223372036854775808 := rfl; have h2 : IntKind.i64.max = 9223372036854775807 := rfl; simp [Lit.wf, h1, h2]; omega)
theorem isKey_i (i : Nat) : WideAt.IsKeyLit (kI i) := trivial
theorem kI_inj {i j : Nat} (h : kI i = kI j) : i = j := by unfold kI at h; injection h with _ h; omega
/-- What is looked up at a block. -/
def verN (V C : Nat → Nat) (s : DSt) (i : Nat) : Value := if (s.at i).vs = [] then .slice none 0 0 else verS V C s i
theorem Pic.lookup (h : Pic w F D B M Dm V C s) {i : Nat} (hi : i < s.bs.length) : (Instr.lookup 37 (.map (some M)) (.int .i64 (i : Int)) false).run Try.prog w = .ok (verN V C s i) w := by
  have hn := h.n2
  obtain ⟨v, ps, hr, hv⟩ := h.hM.lookup (t := 37) (e := 78) keyI Try.underlying37 (Try.zeroValue78 w) (zd := .held (.slice none 0 0)) (zp := []) rfl (keyOf_i (i := i) (by omega))
  rw [hr]
  simp only [RV, Option.some.injEq, Prod.mk.injEq] at hv
  unfold verN
  by_cases h0 : (s.at i).vs = []
  · rw [if_pos h0]
    have h1 : Maps.has Dm (kI i) = false := by
      rw [Bool.eq_false_iff]
      intro h2
      obtain ⟨j, _, e, h3⟩ := (h.has _).1 h2
      exact h3 (by rw [← kI_inj e]; exact h0)
    have h2 := hv.1
    rw [Maps.atKey_of_not_has h1] at h2
    rw [DataW.held.inj h2]
  · rw [if_neg h0]
    have h2 := hv.1
    rw [h.look i hi h0] at h2
    rw [DataW.held.inj h2]
end Go.Proofs.Ytoopnafdpenofaa

/- What becomes of a disk in memory: a durable text more, a version more, a key less; which blocks are dirty. No function of the program is named here. -/
namespace Go.Proofs.Ytoopnafdpenofaa
open Go.RowKit
variable {w w' : World} {F : List Nat} {D B M : Nat} {Dm : DataW Value} {V C : Nat → Nat} {s : DSt}

/-- A tighter bound on the entries. -/
theorem ownsMap_tight {n : Nat} (h : w.ownsMap Try.prog 3 RV M n Dm) : w.ownsMap Try.prog 3 RV M (Maps.size Dm) Dm := by
  obtain ⟨es, clock, hb, Ft, hs, hD⟩ := h
  refine ⟨es, clock, hb, Ft, ?_, hD⟩
  rw [hD]
  simp [Maps.size, length_sorted]
/-- The numbers of the dirty blocks, rising. -/
def dirt : List DBlock → Nat → List Nat
  | [], _ => []
  | x :: xs, k => if x.vs = [] then dirt xs (k + 1) else k :: dirt xs (k + 1)
theorem dirt_len : ∀ (bs : List DBlock) (k : Nat), (dirt bs k).length = dirtyBs bs
  | [], _ => rfl
  | x :: xs, k => by
    unfold dirt dirtyBs
    split
    · rw [dirt_len xs]; omega
    · rw [List.length_cons, dirt_len xs]; omega
theorem dirt_ge : ∀ (bs : List DBlock) (k i : Nat), i ∈ dirt bs k → k ≤ i
  | [], _, _, h => by cases h
  | x :: xs, k, i, h => by
    unfold dirt at h
    split at h
    · have := dirt_ge xs (k + 1) i h; omega
    · rcases List.mem_cons.1 h with h | h
      · omega
      · have := dirt_ge xs (k + 1) i h; omega
theorem dirt_sorted : ∀ (bs : List DBlock) (k : Nat), (dirt bs k).Pairwise (· < ·)
  | [], _ => List.Pairwise.nil
  | x :: xs, k => by
    unfold dirt
    split
    · exact dirt_sorted xs (k + 1)
    · exact List.pairwise_cons.2 ⟨fun i hi => by have := dirt_ge xs (k + 1) i hi; omega, dirt_sorted xs (k + 1)⟩
theorem dirt_mem : ∀ (bs : List DBlock) (k i : Nat), i ∈ dirt bs k ↔ ∃ j, j < bs.length ∧ i = k + j ∧ (bs.getD j b0).vs ≠ []
  | [], k, i => by simp [dirt]
  | x :: xs, k, i => by
    have ih := dirt_mem xs (k + 1) i
    unfold dirt
    constructor
    · intro h
      split at h
      · obtain ⟨j, h1, h2, h3⟩ := ih.1 h
        exact ⟨j + 1, by simp; omega, by omega, by simpa using h3⟩
      · rename_i h0
        rcases List.mem_cons.1 h with h | h
        · exact ⟨0, by simp, by omega, by simpa using h0⟩
        · obtain ⟨j, h1, h2, h3⟩ := ih.1 h
          exact ⟨j + 1, by simp; omega, by omega, by simpa using h3⟩
    · rintro ⟨j, h1, h2, h3⟩
      cases j with
      | zero =>
        have h0 : x.vs ≠ [] := by simpa using h3
        rw [if_neg h0]
        exact List.mem_cons.2 (Or.inl (by omega))
      | succ j =>
        have h4 : i ∈ dirt xs (k + 1) := ih.2 ⟨j, by simp at h1; omega, by omega, by simpa using h3⟩
        split
        · exact h4
        · exact List.mem_cons.2 (Or.inr h4)
theorem dirt_at (s : DSt) (i : Nat) : i ∈ dirt s.bs 0 ↔ i < s.bs.length ∧ (s.at i).vs ≠ [] := by
  rw [dirt_mem]
  constructor
  · rintro ⟨j, h1, h2, h3⟩
    obtain rfl : i = j := by omega
    exact ⟨h1, h3⟩
  · rintro ⟨h1, h2⟩
    exact ⟨i, h1, by omega, h2⟩
/-- The keys of the map. -/
theorem Pic.keys (h : Pic w F D B M Dm V C s) : ((dirt s.bs 0).map (fun i : Nat => (i : Int))).Perm (intKeys Dm) := by
  obtain ⟨es, hD, hpw, _⟩ := h.hM.entries keyI
  obtain ⟨es', hD', hko⟩ := h.hM.keysOf
  obtain rfl : es = es' := by rw [hD] at hD'; simpa using hD'
  have hh := h.has
  subst hD
  refine perm_intKeys hpw (fun p hp => by obtain ⟨v, hv⟩ := hko p hp; obtain ⟨x, _, hx, _⟩ := Maps.keyOf_i64 Try.underlying3 hv; exact ⟨x, hx⟩) ?_ ?_
  · exact List.pairwise_map.2 ((dirt_sorted s.bs 0).imp (fun {a b} hab e => by omega))
  · intro x
    rw [hh, List.mem_map]
    constructor
    · rintro ⟨i, hi, rfl⟩
      exact ⟨i, ((dirt_at s i).1 hi).1, rfl, ((dirt_at s i).1 hi).2⟩
    · rintro ⟨i, h1, h2, h3⟩
      refine ⟨i, (dirt_at s i).2 ⟨h1, h3⟩, ?_⟩
      unfold kI at h2
      injection h2 with _ h2
      exact h2.symm
theorem Pic.size (h : Pic w F D B M Dm V C s) : Maps.size Dm = dirtyD s := by
  have h1 := h.keys.length_eq
  rw [List.length_map, dirt_len] at h1
  obtain ⟨es, rfl, _⟩ := h.hM.entries keyI
  rw [dirtyD, h1]
  simp [Maps.size, intKeys]
theorem dirtyBs_le : ∀ bs : List DBlock, dirtyBs bs ≤ bs.length
  | [] => Nat.le_refl _
  | x :: xs => by have := dirtyBs_le xs; unfold dirtyBs; split <;> simp <;> omega
theorem setB_len (s : DSt) (i : Nat) (x : DBlock) : (s.setB i x).bs.length = s.bs.length := by simp [DSt.setB]
theorem mem_setB {s : DSt} {i : Nat} {x y : DBlock} (h : y ∈ (s.setB i x).bs) : y = x ∨ y ∈ s.bs := mem_set h
theorem setB_ok {s : DSt} (h : s.ok) {i : Nat} {x : DBlock} (h1 : ∀ t, x.dur = some t → t.length = 256 ∧ ∀ y ∈ t, y < 256) (h2 : ∀ t ∈ x.vs, t.length = 256 ∧ ∀ y ∈ t, y < 256) : (s.setB i x).ok :=
  ⟨fun y hy => (mem_setB hy).elim (fun e => by rw [e]; exact h1) (h.dur y), fun y hy => (mem_setB hy).elim (fun e => by rw [e]; exact h2) (h.vs y), h.fuse⟩
/-- Another durable text of block i. -/
theorem Pic.dur (h : Pic w F D B M Dm V C s) {i : Nat} (hi : i < s.bs.length) (d : Option (List Nat)) (hd : ∀ t, d = some t → t.length = 256 ∧ ∀ y ∈ t, y < 256) (hb : Chg [B] w w')
    (hB : w'.heap[B]? = some (.cells ((s.bs.flatMap durV).take (i * 257) ++ durV ⟨d, []⟩ ++ (s.bs.flatMap durV).drop (i * 257 + 257)).toArray TD (0, 0))) : Pic w' F D B M Dm V C (s.setB i ⟨d, (s.at i).vs⟩) := by
  have hk : ∀ g ∈ F, g ≠ B → w'.heap[g]? = w.heap[g]? := fun g hg hne => hb.block g (h.lt g hg) (by simpa using hne)
  have hvs : ∀ j, ((s.setB i ⟨d, (s.at i).vs⟩).at j).vs = (s.at j).vs := fun j => by rw [setB_at _ _ _ _ hi]; split; rename_i e; rw [e]; rfl
  have hS : ∀ j, verS V C (s.setB i ⟨d, (s.at i).vs⟩) j = verS V C s j := fun j => by unfold verS; rw [hvs]
  refine ⟨by rw [setB_len]; exact h.n1, by rw [setB_len]; exact h.n2, setB_ok h.ok hd (h.ok.vs (s.at i) (at_mem hi)), h.top, ?_, ?_, ownsMap_kept h.hM (hk M h.mM (fun e => h.neM.2 e.symm)), ?_, ?_, ?_, ?_, h.mD, h.mB, h.mM, ?_, fun g hg => Nat.lt_of_lt_of_le (h.lt g hg) hb.size⟩
  · rw [setB_len]; exact (hk D h.mD h.neDB).trans h.hD
  · rw [hB]
    unfold DSt.setB
    rw [flat_set durV 257 s.bs h.durs i _ hi, List.append_assoc]
    rfl
  · intro kl
    rw [h.has kl, setB_len]
    simp only [hvs]
  · intro j hj hv z
    rw [setB_len] at hj
    rw [hvs] at hv
    rw [hS]
    exact h.look j hj hv z
  · intro j hj hv
    rw [setB_len] at hj
    rw [hvs] at hv ⊢
    rw [hS]
    exact ownsRow_kept (h.row j hj hv) (hk _ (h.mV j hj hv) (h.neV hj hv).2.1)
  · intro a b ha hb2 hab hva hvb
    rw [setB_len] at ha hb2
    rw [hvs] at hva hvb
    exact h.apart a b ha hb2 hab hva hvb
  · intro j hj hv
    rw [setB_len] at hj
    rw [hvs] at hv
    exact h.mV j hj hv
/-- The versions of block i are gone. -/
theorem Pic.del (h : Pic w F D B M Dm V C s) {i : Nat} (hi : i < s.bs.length) (hb : Chg [M] w w') {n : Nat} (hM : w'.ownsMap Try.prog 3 RV M n (Dm.del (kI i))) : Pic w' F D B M (Dm.del (kI i)) V C (s.setB i ⟨(s.at i).dur, []⟩) := by
  have hk : ∀ g ∈ F, g ≠ M → w'.heap[g]? = w.heap[g]? := fun g hg hne => hb.block g (h.lt g hg) (by simpa using hne)
  have hat : ∀ j, (s.setB i ⟨(s.at i).dur, []⟩).at j = if j = i then ⟨(s.at i).dur, []⟩ else s.at j := fun j => setB_at _ _ _ _ hi
  have hvs : ∀ j, ((s.setB i ⟨(s.at i).dur, []⟩).at j).vs ≠ [] → j ≠ i ∧ (s.at j).vs ≠ [] ∧ (s.setB i ⟨(s.at i).dur, []⟩).at j = s.at j := fun j hj => by
    rw [hat] at hj
    split at hj
    · exact absurd rfl hj
    · rename_i e
      exact ⟨e, hj, by rw [hat, if_neg e]⟩
  refine ⟨by rw [setB_len]; exact h.n1, by rw [setB_len]; exact h.n2, setB_ok h.ok (h.ok.dur (s.at i) (at_mem hi)) (fun t ht => by cases ht), h.top, ?_, ?_, ownsMap_tight hM, ?_, ?_, ?_, ?_, h.mD, h.mB, h.mM, ?_, fun g hg => Nat.lt_of_lt_of_le (h.lt g hg) hb.size⟩
  · rw [setB_len]; exact (hk D h.mD h.neM.1).trans h.hD
  · rw [hk B h.mB h.neM.2, h.hB]
    unfold DSt.setB
    rw [flat_set durV 257 s.bs h.durs i _ hi]
    congr 3
    have e : durV ⟨(s.at i).dur, []⟩ = durV (s.at i) := rfl
    have e2 := flat_set durV 257 s.bs h.durs i (s.at i) hi
    rw [e, ← e2]
    congr 1
    unfold DSt.at
    rw [List.getD_eq_getElem?_getD, List.getElem?_eq_getElem hi]
    simp
  · intro kl
    by_cases e : kl = kI i
    · subst e
      rw [Maps.has_del_same]
      constructor
      · intro h0; cases h0
      · rintro ⟨j, h1, h2, h3⟩
        exact absurd (kI_inj h2).symm (hvs j h3).1
    · rw [Maps.has_del_other e, h.has kl, setB_len]
      constructor
      · rintro ⟨j, h1, h2, h3⟩
        refine ⟨j, h1, h2, ?_⟩
        rw [hat, if_neg (fun e2 => e (by rw [h2, e2]))]
        exact h3
      · rintro ⟨j, h1, h2, h3⟩
        exact ⟨j, h1, h2, (hvs j h3).2.1⟩
  · intro j hj hv z
    rw [setB_len] at hj
    obtain ⟨h1, h2, h3⟩ := hvs j hv
    rw [Maps.atKey_del_other (fun e => h1 (kI_inj e)), h.look j hj h2]
    unfold verS
    rw [h3]
  · intro j hj hv
    rw [setB_len] at hj
    obtain ⟨h1, h2, h3⟩ := hvs j hv
    have h4 := ownsRow_kept (h.row j hj h2) (hk _ (h.mV j hj h2) (h.neV hj h2).2.2)
    unfold verS
    rw [h3]
    exact h4
  · intro a b ha hb2 hab hva hvb
    rw [setB_len] at ha hb2
    exact h.apart a b ha hb2 hab (hvs a hva).2.1 (hvs b hvb).2.1
  · intro j hj hv
    rw [setB_len] at hj
    exact h.mV j hj (hvs j hv).2.1
end Go.Proofs.Ytoopnafdpenofaa
