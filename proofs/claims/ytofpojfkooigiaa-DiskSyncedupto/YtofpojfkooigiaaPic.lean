/- A disk in memory: its struct, its row of durable texts, its map of versions. No function of the program is named here. -/
import Derived.Test.YtofpojfkooigiaaWide2
import Derived.Lib.SlKeysI
import Derived.Maps.Ext
namespace Go.Proofs.Ytofpojfkooigiaa
open Go.RowKit

abbrev TK : TypeId := 47
def durV (x : DBlock) : List Value := match x.dur with
  | some t => t.map bv ++ [Value.bool false]
  | none => z256 ++ [Value.bool true]
def verV (l : List Nat) : List Value := l.map bv
/-- How a map's element is read: as it is. -/
def RV (v : Value) : Option (DataW Value × List MemPlace) := some (.held v, [])
def diskV (B M n : Nat) (off : Bool) (fuse : Int) : Array Value := #[.slice (some ⟨B, 0, none⟩) n n, .map (some M), .bool off, .int .i64 fuse]
/-- The key of block i. -/
def kI (i : Nat) : Lit := .int .i64 (i : Int)
def verS (V C : Nat → Nat) (s : DSt) (i : Nat) : Value := .slice (some ⟨V i, 0, none⟩) (s.at i).vs.length (C i)
structure Pic (w : World) (F : List Nat) (D B M : Nat) (Dm : DataW Value) (V C : Nat → Nat) (s : DSt) : Prop where
  n1 : 1 ≤ s.bs.length
  n2 : s.bs.length ≤ 4096
  ok : s.ok
  top : s.fuse ≤ 9223372036854775807
  hD : w.heap[D]? = some (.cells (diskV B M s.bs.length s.off s.fuse) TK (0, 0))
  hB : w.heap[B]? = some (.cells (s.bs.flatMap durV).toArray TD (0, 0))
  hM : w.ownsMap Try.prog 3 RV M (Maps.size Dm) Dm
  has : ∀ kl, Maps.has Dm kl = true ↔ ∃ i, i < s.bs.length ∧ kl = kI i ∧ (s.at i).vs ≠ []
  look : ∀ i, i < s.bs.length → (s.at i).vs ≠ [] → ∀ z, Dm.atKey (kI i) z = .held (verS V C s i)
  row : ∀ i, i < s.bs.length → (s.at i).vs ≠ [] → w.ownsRow 0 TB 256 (verS V C s i) (s.at i).vs.length ((s.at i).vs.flatMap verV)
  apart : ∀ i j, i < s.bs.length → j < s.bs.length → i ≠ j → (s.at i).vs ≠ [] → (s.at j).vs ≠ [] → V i ≠ V j
  mD : D ∈ F
  mB : B ∈ F
  mM : M ∈ F
  mV : ∀ i, i < s.bs.length → (s.at i).vs ≠ [] → V i ∈ F
  lt : ∀ g ∈ F, g < w.heap.size
def Dk (w : World) (F : List Nat) (D : Nat) (s : DSt) : Prop := ∃ B M Dm V C, Pic w F D B M Dm V C s

variable {w w' : World} {F : List Nat} {D B M : Nat} {Dm : DataW Value} {V C : Nat → Nat} {s : DSt}
theorem durV_len {x : DBlock} (h : ∀ t, x.dur = some t → t.length = 256 ∧ ∀ y ∈ t, y < 256) : (durV x).length = 257 := by
  unfold durV
  cases hx : x.dur with
  | none => simp [z256_len]
  | some t => simp [(h t hx).1]
theorem Pic.durs (h : Pic w F D B M Dm V C s) : ∀ x ∈ s.bs, (durV x).length = 257 := fun x hx => durV_len (h.ok.dur x hx)
theorem Pic.vers (h : Pic w F D B M Dm V C s) {i : Nat} (hi : i < s.bs.length) : ∀ l ∈ (s.at i).vs, (verV l).length = 256 := fun l hl => by
  unfold verV; rw [List.length_map]; exact (h.ok.vs _ (at_mem hi) l hl).1
theorem bv_one1 (x : Nat) : (bv x).oneCell' = true := rfl
theorem verV_one (l : List Nat) : ∀ v ∈ verV l, v.oneCell' = true := fun v hv => by
  obtain ⟨x, _, rfl⟩ := List.mem_map.1 hv; rfl
theorem z256_one : ∀ v ∈ z256, v.oneCell' = true := fun v hv => by rw [z256, List.mem_replicate] at hv; rw [hv.2]; rfl
theorem ownsMap_kept {n : Nat} (h : w.ownsMap Try.prog 3 RV M n Dm) (hk : w'.heap[M]? = w.heap[M]?) : w'.ownsMap Try.prog 3 RV M n Dm := by
  obtain ⟨es, clock, hb, r⟩ := h
  exact ⟨es, clock, hk.trans hb, r⟩
theorem ownsRow_kept {base e size : Nat} {g n cap : Nat} {xs : List Value} (h : w.ownsRow base e size (.slice (some ⟨g, 0, none⟩) n cap) n xs) (hk : w'.heap[g]? = w.heap[g]?) : w'.ownsRow base e size (.slice (some ⟨g, 0, none⟩) n cap) n xs := by
  refine ⟨h.1, ?_⟩
  rcases h.2 with ⟨h1, _⟩ | ⟨g', cap', cur, e1, r1, r2, r3⟩
  · cases h1
  · cases e1
    exact Or.inr ⟨g, cap, cur, rfl, r1, hk.trans r2, r3⟩
theorem Pic.keep (h : Pic w F D B M Dm V C s) (hk : ∀ g ∈ F, w'.heap[g]? = w.heap[g]?) (hs : w.heap.size ≤ w'.heap.size) : Pic w' F D B M Dm V C s :=
  ⟨h.n1, h.n2, h.ok, h.top, (hk D h.mD).trans h.hD, (hk B h.mB).trans h.hB, ownsMap_kept h.hM (hk M h.mM), h.has, h.look, fun i hi hv => ownsRow_kept (h.row i hi hv) (hk _ (h.mV i hi hv)), h.apart, h.mD, h.mB, h.mM, h.mV, fun g hg => Nat.lt_of_lt_of_le (h.lt g hg) hs⟩
theorem Dk.keep (h : Dk w F D s) (hk : ∀ g ∈ F, w'.heap[g]? = w.heap[g]?) (hs : w.heap.size ≤ w'.heap.size) : Dk w' F D s := by
  obtain ⟨B, M, Dm, V, C, h⟩ := h
  exact ⟨B, M, Dm, V, C, h.keep hk hs⟩
theorem Dk.lt (h : Dk w F D s) : ∀ g ∈ F, g < w.heap.size := by
  obtain ⟨B, M, Dm, V, C, h⟩ := h
  exact h.lt
theorem Dk.ok (h : Dk w F D s) : s.ok := by
  obtain ⟨B, M, Dm, V, C, h⟩ := h
  exact h.ok
theorem Dk.below (h : Dk w F D s) (hb : Below w.heap.size w w') : Dk w' F D s := h.keep (fun g hg => hb.block g (h.lt g hg)) hb.size
theorem Pic.below (h : Pic w F D B M Dm V C s) (hb : Below w.heap.size w w') : Pic w' F D B M Dm V C s := h.keep (fun g hg => hb.block g (h.lt g hg)) hb.size
theorem Pic.ltD (h : Pic w F D B M Dm V C s) : D < w.heap.size := h.lt D h.mD
theorem Pic.cell (h : Pic w F D B M Dm V C s) (i : Nat) : w.cell? ⟨D, i, none⟩ = (diskV B M s.bs.length s.off s.fuse)[i]? := cell_of_row _ _ _ _ _ _ h.hD
theorem Pic.free (h : Pic w F D B M Dm V C s) (i : Nat) : w.frozen? ⟨D, i, none⟩ = false := by simp [World.frozen?, h.hD]
/-- All four cells of the struct. -/
theorem Pic.cells (h : Pic w F D B M Dm V C s) : w.cell? ⟨D, 0, none⟩ = some (.slice (some ⟨B, 0, none⟩) s.bs.length s.bs.length) ∧ w.cell? ⟨D, 1, none⟩ = some (.map (some M)) ∧ w.cell? ⟨D, 2, none⟩ = some (.bool s.off) ∧ w.cell? ⟨D, 3, none⟩ = some (.int .i64 s.fuse) :=
  ⟨h.cell 0, h.cell 1, h.cell 2, h.cell 3⟩
theorem Pic.neDB (h : Pic w F D B M Dm V C s) : D ≠ B := fun e => by
  have h1 := h.hD
  rw [e, h.hB] at h1
  injection h1 with h1
  injection h1 with h1 h2
  exact absurd h2 (by decide)
theorem Pic.neM (h : Pic w F D B M Dm V C s) : D ≠ M ∧ B ≠ M := by
  obtain ⟨es, clock, hb, _⟩ := h.hM
  refine ⟨fun e => ?_, fun e => ?_⟩
  · have h1 := h.hD; rw [e, hb] at h1; cases h1
  · have h1 := h.hB; rw [e, hb] at h1; cases h1
theorem Pic.rowBlock (h : Pic w F D B M Dm V C s) {i : Nat} (hi : i < s.bs.length) (hv : (s.at i).vs ≠ []) : ∃ cur, w.heap[V i]? = some (.cells cur TB (0, 0)) ∧ (s.at i).vs.length ≤ C i ∧ C i ≤ maxLen ∧ cur.size = C i * 256 ∧ cur.toList.take ((s.at i).vs.length * 256) = (s.at i).vs.flatMap verV := by
  rcases (h.row i hi hv).2 with ⟨h1, _⟩ | ⟨g', cap', cur, e1, r1, r2, r3⟩
  · cases h1
  · cases e1
    exact ⟨cur, r2, r3⟩
theorem Pic.neV (h : Pic w F D B M Dm V C s) {i : Nat} (hi : i < s.bs.length) (hv : (s.at i).vs ≠ []) : V i ≠ D ∧ V i ≠ B ∧ V i ≠ M := by
  obtain ⟨cur, hc, _⟩ := h.rowBlock hi hv
  refine ⟨fun e => ?_, fun e => ?_, fun e => ?_⟩
  · rw [e, h.hD] at hc; injection hc with hc; injection hc with h1 h2; exact absurd h2 (by decide)
  · rw [e, h.hB] at hc; injection hc with hc; injection hc with h1 h2; exact absurd h2 (by decide)
  · obtain ⟨es, clock, hb, _⟩ := h.hM
    rw [e, hb] at hc; cases hc
theorem keyI : Maps.Keyed Try.prog 3 := Maps.int_keyed Try.underlying3
theorem keyOf_i {i : Nat} (hi : i < 9223372036854775808) : keyOf Try.prog 3 (.int .i64 (i : Int)) = some (kI i) := Maps.keyOf_int_mk Try.underlying3 (by have h1 : IntKind.i64.min = -9223372036854775808 := rfl; have h2 : IntKind.i64.max = 9223372036854775807 := rfl; simp [Lit.wf, h1, h2]; omega)
theorem isKey_i (i : Nat) : WideAt.IsKeyLit (kI i) := trivial
theorem kI_inj {i j : Nat} (h : kI i = kI j) : i = j := by unfold kI at h; injection h with _ h; omega
/-- What is looked up at a block. -/
def verN (V C : Nat → Nat) (s : DSt) (i : Nat) : Value := if (s.at i).vs = [] then .slice none 0 0 else verS V C s i
theorem Pic.lookup (h : Pic w F D B M Dm V C s) {i : Nat} (hi : i < s.bs.length) : (Instr.lookup 45 (.map (some M)) (.int .i64 (i : Int)) false).run Try.prog w = .ok (verN V C s i) w := by
  have hn := h.n2
  obtain ⟨v, ps, hr, hv⟩ := h.hM.lookup (t := 45) (e := 76) keyI Try.underlying45 (Try.zeroValue76 w) (zd := .held (.slice none 0 0)) (zp := []) rfl (keyOf_i (i := i) (by omega))
  rw [hr]
  simp only [RV, Option.some.injEq, Prod.mk.injEq] at hv
  unfold verN
  by_cases h0 : (s.at i).vs = []
  · rw [if_pos h0]
    have h1 : Maps.has Dm (kI i) = false := by
      rw [Bool.eq_false_iff]
      intro h2
      obtain ⟨j, _, e, h3⟩ := (h.has _).1 h2
      exact h3 (by rw [← kI_inj e]; exact h0)
    have h2 := hv.1
    rw [Maps.atKey_of_not_has h1] at h2
    rw [DataW.held.inj h2]
  · rw [if_neg h0]
    have h2 := hv.1
    rw [h.look i hi h0] at h2
    rw [DataW.held.inj h2]
end Go.Proofs.Ytofpojfkooigiaa
