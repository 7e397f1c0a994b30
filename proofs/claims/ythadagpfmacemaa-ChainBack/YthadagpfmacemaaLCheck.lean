/- Numbers that came in as a slice; slices.Index and Contains of them; Quorum and Check of package loglet. -/
import Derived.Test.YthadagpfmacemaaFoot
namespace Go.Proofs.Ythadagpfmacemaa
open Go.RowKit
variable {w w' : World} {l : List Int} {ad : Option Addr} {m c : Nat}

/-- The numbers l lie as a slice that came in. -/
structure Ints (w : World) (l : List Int) (ad : Option Addr) (m c : Nat) : Prop where
  len : l.length = m
  cap : m ≤ c
  room : c ≤ maxLen
  row : m = 0 ∨ ∃ b off, ad = some ⟨b, off, none⟩ ∧ b < w.heap.size ∧ ∀ i, i < m → w.cell? ⟨b, off + i, none⟩ = some (.int .i64 (l.getD i 0))
  rng : ∀ x ∈ l, -9223372036854775808 ≤ x ∧ x ≤ 9223372036854775807
theorem Ints.later (h : Ints w l ad m c) (hb : Below w.heap.size w w') : Ints w' l ad m c := by
  refine ⟨h.len, h.cap, h.room, ?_, h.rng⟩
  rcases h.row with h0 | ⟨b, off, e, hs, hc⟩
  · exact Or.inl h0
  · exact Or.inr ⟨b, off, e, Nat.lt_of_lt_of_le hs hb.size, fun i hi => (hb.cell (p := ⟨b, off + i, none⟩) hs).trans (hc i hi)⟩
theorem getD_take_int (l : List Int) (j i : Nat) (h : i < j) : (l.take j).getD i 0 = l.getD i 0 := by
  rw [List.getD_eq_getElem?_getD, List.getD_eq_getElem?_getD, List.getElem?_take, if_pos h]
theorem getD_mem_int (l : List Int) (j : Nat) (h : j < l.length) : l.getD j 0 ∈ l := by
  rw [List.getD_eq_getElem?_getD, List.getElem?_eq_getElem h]
  exact List.getElem_mem h
theorem take_snoc_int (l : List Int) (j : Nat) (h : j < l.length) : l.take (j + 1) = l.take j ++ [l.getD j 0] := by
  rw [List.take_succ_eq_append_getElem h, List.getD_eq_getElem?_getD, List.getElem?_eq_getElem h]
  rfl
theorem Ints.ahead (h : Ints w l ad m c) (j : Nat) (hj : j ≤ m) : Ints w (l.take j) ad j c := by
  have hl := h.len
  refine ⟨by rw [List.length_take]; omega, Nat.le_trans hj h.cap, h.room, ?_, fun x hx => h.rng x (List.mem_of_mem_take hx)⟩
  rcases h.row with h0 | ⟨b, off, e, hs, hc⟩
  · exact Or.inl (by omega)
  · exact Or.inr ⟨b, off, e, hs, fun i hi => by rw [getD_take_int l j i hi]; exact hc i (by omega)⟩
set_option maxHeartbeats 1000000 in
theorem index_any (h : Ints w l ad m c) (x : Int) : Calls Try.prog 70 #[.slice ad m c, .int .i64 x] w fun e w' => (∃ q : Int, e = .returned (.int .i64 q) ∧ -1 ≤ q ∧ q ≤ 9223372036854775807 ∧ (0 ≤ q ↔ x ∈ l)) ∧ w' = w := by
  have H : Hid (Ints w l ad m c) := h
  have hm : m ≤ 9223372036854775807 := by have := h.cap; have := h.room; unfold maxLen at this; omega
  clear h
  go_enter Try.func70, Try.ntmps70
  go_wp2_with fail
  go_loopw [8] (fun i wr => ∃ j : Nat, j ≤ m ∧ i = .int .i64 j ∧ Hid (x ∉ l.take j) ∧ wr = w) (fun i _ => m - (intOf i).toNat)
  case atStart => exact ⟨0, by omega, rfl, (show Hid (x ∉ l.take 0) by simp [Hid]), rfl⟩
  case round =>
    obtain ⟨j, hj, rfl, HT, rfl⟩ := hrel
    by_cases hlt : j < m
    · obtain ⟨b, off, rfl, hs, hc⟩ : ∃ b off, ad = some ⟨b, off, none⟩ ∧ b < wr.heap.size ∧ ∀ i, i < m → wr.cell? ⟨b, off + i, none⟩ = some (.int .i64 (l.getD i 0)) := H.out.row.resolve_left (by omega)
      have r0 := hc j hlt
      have HS : Hid (l.take (j + 1) = l.take j ++ [l.getD j 0]) := take_snoc_int l j (by rw [H.out.len]; exact hlt)
      have HM : Hid (l.getD j 0 ∈ l) := getD_mem_int l j (by rw [H.out.len]; exact hlt)
      clear hc hs
      generalize l.getD j 0 = y at *
      by_cases hxy : x = y
      · subst hxy
        go_wp2_with fail
        go_ret
        exact ⟨⟨_, rfl, by omega, by omega, by constructor <;> intro _; exact HM.out; omega⟩, rfl⟩
      · have hq : (x == y) = false := by simpa using hxy
        go_wp2_with fail
        refine ⟨⟨j + 1, by omega, by go_num, (show Hid (x ∉ l.take (j + 1)) by rw [HS.out]; simp only [Hid, List.mem_append, List.mem_singleton]; rintro (a | a); exact HT.out a; exact hxy a), by first | rfl | trivial⟩, by simp [intOf]; omega⟩
    · obtain rfl : j = m := by omega
      go_wp2_with fail
      go_ret
      refine ⟨⟨_, rfl, by omega, by omega, ?_⟩, rfl⟩
      have h2 := HT.out
      rw [List.take_of_length_le (by rw [H.out.len]; exact Nat.le_refl _)] at h2
      constructor
      · intro a; omega
      · intro a; exact absurd a h2
theorem contains_any (h : Ints w l ad m c) (x : Int) : Calls Try.prog 64 #[.slice ad m c, .int .i64 x] w fun e w' => e = .returned (.bool (decide (x ∈ l))) ∧ w' = w := by
  have HC := index_any h x
  clear h
  go_enter Try.func64, Try.ntmps64
  go_wp2_with (go_at_call 70; refine HC.mono ?_; rintro e w1 ⟨⟨q, rfl, q1, q2, q3⟩, rfl⟩)
  go_ret
  have e1 : decide (0 ≤ q) = decide (x ∈ l) := by by_cases hx : x ∈ l <;> simp [hx, q3]
  rw [← e1]
  exact ⟨by first | rfl | simp, rfl⟩

/-- The numbers ahead of place j are numbers of n nodes, each once. -/
def goodN (n : Int) (l : List Int) (j : Nat) : Prop := ∀ i, i < j → 0 ≤ l.getD i 0 ∧ l.getD i 0 < n ∧ l.getD i 0 ∉ l.take i
instance (n : Int) (l : List Int) (j : Nat) : Decidable (goodN n l j) := by unfold goodN; infer_instance
/-- Check's answer. -/
def checkL (id : Int) (l : List Int) (n : Int) : Int := if 0 ≤ id ∧ id < 281474976710656 ∧ 1 ≤ l.length ∧ l.length ≤ 9 ∧ goodN n l l.length then 0 else 1
theorem checkL_id {id n : Int} (h : id < 0 ∨ 281474976710656 ≤ id) : checkL id l n = 1 := by unfold checkL; rw [if_neg]; omega
theorem checkL_len {id n : Int} (h : l.length = 0 ∨ 9 < l.length) : checkL id l n = 1 := by unfold checkL; rw [if_neg]; omega
theorem checkL_not {id n : Int} {j : Nat} (hj : j < l.length) (h : l.getD j 0 < 0 ∨ n ≤ l.getD j 0 ∨ l.getD j 0 ∈ l.take j) : checkL id l n = 1 := by
  unfold checkL
  rw [if_neg]
  rintro ⟨-, -, -, -, hg⟩
  obtain ⟨a, b, d⟩ := hg j hj
  rcases h with h | h | h
  · omega
  · omega
  · exact d h
theorem checkL_ok {id n : Int} (h1 : 0 ≤ id) (h2 : id < 281474976710656) (h3 : 1 ≤ l.length) (h4 : l.length ≤ 9) (h : goodN n l l.length) : checkL id l n = 0 := by
  unfold checkL; rw [if_pos ⟨h1, h2, h3, h4, h⟩]
theorem goodN.more {n : Int} {j : Nat} (h : goodN n l j) (h1 : 0 ≤ l.getD j 0) (h2 : l.getD j 0 < n) (h3 : l.getD j 0 ∉ l.take j) : goodN n l (j + 1) := by
  intro i hi
  by_cases e : i = j
  · subst e; exact ⟨h1, h2, h3⟩
  · exact h i (by omega)

set_option maxHeartbeats 1000000 in
theorem check_any (h : Ints w l ad m c) (id n : Int) : Calls Try.prog 52 #[.agg #[.int .i64 id, .slice ad m c], .int .i64 n] w fun e w' => e = .returned (.int .i64 (checkL id l n)) ∧ Below w.heap.size w w' := by
  have b0 : Below w.heap.size w (w.alloc (.cells #[.int .i64 id, .slice ad m c] 54)) := (Below.refl _ _).alloc (Nat.le_refl _) _
  have H : Hid (Ints w l ad m c) := h
  have hl := h.len
  have hm : m ≤ 9223372036854775807 := by have := h.cap; have := h.room; unfold maxLen at this; omega
  have hmc := h.cap
  clear h
  by_cases a1 : id < 0
  · rw [checkL_id (Or.inl a1)]
    go_enter Try.func52, Try.ntmps52
    go_wp2_with fail
    go_ret
    exact ⟨rfl, b0⟩
  have d1 : decide (id < 0) = false := by simpa using a1
  by_cases a2 : 281474976710656 ≤ id
  · rw [checkL_id (Or.inr a2)]
    go_enter Try.func52, Try.ntmps52
    go_wp2_with fail
    go_ret
    exact ⟨rfl, b0⟩
  have d2 : decide (281474976710656 ≤ id) = false := by simpa using a2
  by_cases a3 : m = 0
  · rw [checkL_len (Or.inl (by omega))]
    subst a3
    go_enter Try.func52, Try.ntmps52
    go_wp2_with fail
    go_ret
    exact ⟨rfl, b0⟩
  have d3 : ((m : Int) == 0) = false := by simp; omega
  by_cases a4 : 9 < m
  · rw [checkL_len (Or.inr (by omega))]
    go_enter Try.func52, Try.ntmps52
    go_wp2_with fail
    go_ret
    exact ⟨rfl, b0⟩
  have d4 : decide ((9 : Int) < (m : Int)) = false := by simp; omega
  obtain ⟨b, off, rfl, hs, hc⟩ : ∃ b off, ad = some ⟨b, off, none⟩ ∧ b < w.heap.size ∧ ∀ i, i < m → w.cell? ⟨b, off + i, none⟩ = some (.int .i64 (l.getD i 0)) := H.out.row.resolve_left a3
  have HC : Hid (∀ i, i < m → (w.alloc (.cells #[.int .i64 id, .slice (some ⟨b, off, none⟩) m c] 54)).cell? ⟨b, off + i, none⟩ = some (.int .i64 (l.getD i 0))) := fun i hi => (b0.cell (p := ⟨b, off + i, none⟩) hs).trans (hc i hi)
  have HI := H.out.later b0
  have HJ : Hid (Ints (w.alloc (.cells #[.int .i64 id, .slice (some ⟨b, off, none⟩) m c] 54)) l (some ⟨b, off, none⟩) m c) := HI
  clear hc hs HI
  go_enter Try.func52, Try.ntmps52
  go_wp2_with fail
  go_loopw [30] (fun i wr => ∃ j : Nat, j ≤ m ∧ i = .int .i64 j ∧ Hid (goodN n l j) ∧ wr = w.alloc (.cells #[.int .i64 id, .slice (some ⟨b, off, none⟩) m c] 54)) (fun i _ => m - (intOf i).toNat)
  case atStart => exact ⟨0, by omega, rfl, (show Hid (goodN n l 0) from fun i hi => absurd hi (Nat.not_lt_zero _)), rfl⟩
  case round =>
    obtain ⟨j, hj, rfl, HT, rfl⟩ := hrel
    by_cases hlt : j < m
    · have r0 := HC.out j hlt
      have HN : Hid (∀ id n, l.getD j 0 < 0 ∨ n ≤ l.getD j 0 ∨ l.getD j 0 ∈ l.take j → checkL id l n = 1) := fun id n => checkL_not (by rw [hl]; exact hlt)
      have HO : Hid (0 ≤ l.getD j 0 → l.getD j 0 < n → l.getD j 0 ∉ l.take j → goodN n l (j + 1)) := HT.out.more
      have HK := contains_any (HJ.out.ahead j hj) (l.getD j 0)
      generalize l.getD j 0 = y at *
      by_cases p1 : y < 0
      · go_wp2_with fail
        go_ret
        rw [HN.out id n (Or.inl p1)]
        exact ⟨rfl, b0⟩
      have e1 : decide (y < 0) = false := by simpa using p1
      by_cases p2 : n ≤ y
      · go_wp2_with fail
        go_ret
        rw [HN.out id n (Or.inr (Or.inl p2))]
        exact ⟨rfl, b0⟩
      have e2 : decide (n ≤ y) = false := by simpa using p2
      by_cases p3 : y ∈ l.take j
      · rw [decide_eq_true p3] at HK
        go_wp2_with (go_at_call 64; refine HK.mono ?_; rintro e w1 ⟨rfl, rfl⟩)
        go_ret
        rw [HN.out id n (Or.inr (Or.inr p3))]
        exact ⟨rfl, b0⟩
      · rw [decide_eq_false p3] at HK
        have HG : Hid (goodN n l (j + 1)) := HO.out (by omega) (by omega) p3
        go_wp2_with (go_at_call 64; refine HK.mono ?_; rintro e w1 ⟨rfl, rfl⟩)
        refine ⟨⟨j + 1, by omega, by go_num, HG, by first | rfl | trivial⟩, by simp [intOf]; omega⟩
    · obtain rfl : j = m := by omega
      go_wp2_with fail
      go_ret
      rw [checkL_ok (by omega) (by omega) (by omega) (by omega) (by rw [hl]; exact HT.out)]
      exact ⟨rfl, b0⟩
end Go.Proofs.Ythadagpfmacemaa
