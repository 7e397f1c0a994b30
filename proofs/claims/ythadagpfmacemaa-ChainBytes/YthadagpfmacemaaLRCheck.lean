/- Check of package ref07. -/
import Derived.Test.YthadagpfmacemaaCTrim
import Derived.BigQuiet
import Derived.Deep.WholeRow
namespace Go.Proofs.Ythadagpfmacemaa
open Go.RowKit
variable {w w' : World} {l : List Int} {ad : Option Addr} {m c : Nat}
theorem below_drewL {N : Nat} {w0 w : World} (h : Below N w0 w) : ∀ n, Below N w0 (w.drewN n)
  | 0 => h
  | n + 1 => (below_drewL h n).drew
theorem mem_take_of (l : List Int) (k j : Nat) (h : k < j) (hj : j < l.length) (e : l.getD k 0 = l.getD j 0) : l.getD j 0 ∈ l.take j := by
  rw [← e, ← getD_take_int l j k h]
  exact getD_mem_int _ _ (by rw [List.length_take]; omega)
theorem notMem_more (l : List Int) (k j : Nat) (hk : k < l.length) (h : l.getD j 0 ∉ l.take k) (e : l.getD k 0 ≠ l.getD j 0) : l.getD j 0 ∉ l.take (k + 1) := by
  rw [take_snoc_int l k hk]
  simp only [List.mem_append, List.mem_singleton]
  rintro (a | a)
  · exact h a
  · exact e a.symm
set_option maxHeartbeats 1000000 in
theorem refcheck_any (h : Ints w l ad m c) (id n : Int) : Calls Try.prog 40 #[.agg #[.int .i64 id, .slice ad m c], .int .i64 n] w fun e w' => e = .returned (.int .i64 (checkL id l n)) ∧ Below w.heap.size w w' := by
  have b0 : Below w.heap.size w (w.alloc (.cells #[.int .i64 id, .slice ad m c] 49)) := (Below.refl _ _).alloc (Nat.le_refl _) _
  have H : Hid (Ints w l ad m c) := h
  have hl := h.len
  have hm : m ≤ 9223372036854775807 := by have := h.cap; have := h.room; unfold maxLen at this; omega
  have hmc := h.cap
  clear h
  by_cases a1 : id < 0
  · rw [checkL_id (Or.inl a1)]
    go_enter Try.func40, Try.ntmps40
    go_wp2_with fail
    go_ret
    exact ⟨rfl, b0⟩
  have d1 : decide (id < 0) = false := by simpa using a1
  by_cases a2 : 281474976710656 ≤ id
  · rw [checkL_id (Or.inr a2)]
    go_enter Try.func40, Try.ntmps40
    go_wp2_with fail
    go_ret
    exact ⟨rfl, b0⟩
  have d2 : decide (281474976710656 ≤ id) = false := by simpa using a2
  by_cases a3 : m = 0
  · rw [checkL_len (Or.inl (by omega))]
    subst a3
    go_enter Try.func40, Try.ntmps40
    go_wp2_with fail
    go_ret
    exact ⟨rfl, b0⟩
  have d3 : decide ((m : Int) < 1) = false := by simp; omega
  by_cases a4 : 9 < m
  · rw [checkL_len (Or.inr (by omega))]
    go_enter Try.func40, Try.ntmps40
    go_wp2_with fail
    go_ret
    exact ⟨rfl, b0⟩
  have d4 : decide ((9 : Int) < (m : Int)) = false := by simp; omega
  obtain ⟨b, off, rfl, hs, hc⟩ : ∃ b off, ad = some ⟨b, off, none⟩ ∧ b < w.heap.size ∧ ∀ i, i < m → w.cell? ⟨b, off + i, none⟩ = some (.int .i64 (l.getD i 0)) := H.out.row.resolve_left a3
  have HC : Hid (∀ W, Below (w.heap.size + 1) (w.alloc (.cells #[.int .i64 id, .slice (some ⟨b, off, none⟩) m c] 49)) W → (∀ i, i < m → W.cell? ⟨b, off + i, none⟩ = some (.int .i64 (l.getD i 0))) ∧ W.cell? ⟨w.heap.size, 0, none⟩ = some (.int .i64 id) ∧ W.cell? ⟨w.heap.size, 1, none⟩ = some (.slice (some ⟨b, off, none⟩) m c)) := by
    intro W hW
    refine ⟨fun i hi => ?_, ?_, ?_⟩
    · rw [hW.cell (p := ⟨b, off + i, none⟩) (show b < w.heap.size + 1 by omega)]
      exact (b0.cell (p := ⟨b, off + i, none⟩) hs).trans (hc i hi)
    · rw [hW.cell (p := ⟨w.heap.size, 0, none⟩) (show w.heap.size < w.heap.size + 1 by omega)]
      exact cell_of_row _ _ _ _ _ _ (heap_alloc_last _ _)
    · rw [hW.cell (p := ⟨w.heap.size, 1, none⟩) (show w.heap.size < w.heap.size + 1 by omega)]
      exact cell_of_row _ _ _ _ _ _ (heap_alloc_last _ _)
  clear hc hs
  go_enter Try.func40, Try.ntmps40
  go_wp2_with fail
  go_loopw [5] (fun i wr => ∃ j : Nat, j ≤ m ∧ i = .int .i64 j ∧ Hid (goodN n l j) ∧ Hid (Below (w.heap.size + 1) (w.alloc (.cells #[.int .i64 id, .slice (some ⟨b, off, none⟩) m c] 49)) wr)) (fun i _ => m - (intOf i).toNat)
  case atStart => exact ⟨0, by omega, rfl, (show Hid (goodN n l 0) from fun i hi => absurd hi (Nat.not_lt_zero _)), (show Hid _ from Below.refl _ _)⟩
  case round =>
    obtain ⟨j, hj, rfl, HT, HB⟩ := hrel
    obtain ⟨HR, c0, c1⟩ := HC.out wr HB.out
    by_cases hlt : j < m
    · have r0 := HR j hlt
      have HN : Hid (∀ id n, l.getD j 0 < 0 ∨ n ≤ l.getD j 0 ∨ l.getD j 0 ∈ l.take j → checkL id l n = 1) := fun id n => checkL_not (by rw [hl]; exact hlt)
      have HO : Hid (0 ≤ l.getD j 0 → l.getD j 0 < n → l.getD j 0 ∉ l.take j → goodN n l (j + 1)) := HT.out.more
      have HM : Hid (∀ k, k < j → l.getD k 0 = l.getD j 0 → l.getD j 0 ∈ l.take j) := fun k hk => mem_take_of l k j hk (by omega)
      have HQ : Hid (∀ k, k < j → l.getD j 0 ∉ l.take k → l.getD k 0 ≠ l.getD j 0 → l.getD j 0 ∉ l.take (k + 1)) := fun k hk => notMem_more l k j (by omega)
      clear HR
      obtain ⟨y, hy⟩ : ∃ y, l.getD j 0 = y := ⟨_, rfl⟩
      have HY : Hid (l.getD j 0 = y) := hy
      rw [hy] at r0 HN HO HM HQ
      clear hy
      by_cases p1 : y < 0
      · go_wp2_with fail
        go_ret
        rw [HN.out id n (Or.inl p1)]
        exact ⟨rfl, b0.trans (HB.out.mono (by omega))⟩
      have e1 : decide (y < 0) = false := by simpa using p1
      by_cases p2 : n ≤ y
      · go_wp2_with fail
        go_ret
        rw [HN.out id n (Or.inr (Or.inl p2))]
        exact ⟨rfl, b0.trans (HB.out.mono (by omega))⟩
      have e2 : decide (n ≤ y) = false := by simpa using p2
      go_wp2_with fail
      go_loopw [6] (fun i wr => ∃ k : Nat, k ≤ j ∧ i = .int .i64 k ∧ Hid (y ∉ l.take k) ∧ Hid (Below (w.heap.size + 1) (w.alloc (.cells #[.int .i64 id, .slice (some ⟨b, off, none⟩) m c] 49)) wr)) (fun i _ => j - (intOf i).toNat)
      case atStart => exact ⟨0, by omega, rfl, (show Hid (y ∉ l.take 0) by simp [Hid]), HB⟩
      case round =>
        obtain ⟨k, hk, rfl, HU, HE⟩ := hrel
        obtain ⟨HR2, t0, t1⟩ := HC.out _ HE.out
        by_cases hkj : k < j
        · have s0 := HR2 k (by omega)
          have s1 := HR2 j hlt
          rw [HY.out] at s1
          have HM1 := HM.out k hkj
          have HQ1 : Hid (l.getD k 0 ≠ y → y ∉ l.take (k + 1)) := HQ.out k hkj HU.out
          have hkm : k < m := by omega
          clear HR2
          generalize l.getD k 0 = z at *
          by_cases hzy : z = y
          · subst hzy
            have HI : Hid (checkL id l n = 1) := HN.out id n (Or.inr (Or.inr (HM1 rfl)))
            clear HM1 HQ1
            go_wp2_with fail
            go_quiet (fail)
            all_goals go_wp2_with fail
            all_goals go_ret
            all_goals rw [HI.out]
            all_goals exact ⟨rfl, b0.trans ((below_drewL HE.out _).mono (by omega))⟩
          · have hq : (z == y) = false := by simpa using hzy
            have HZ : Hid (y ∉ l.take (k + 1)) := HQ1.out hzy
            clear HM1 HQ1
            go_wp2_with fail
            go_quiet (fail)
            all_goals go_wp2_with fail
            all_goals refine ⟨⟨k + 1, by omega, by go_num, HZ, (show Hid _ from below_drewL HE.out _)⟩, by simp [intOf]; omega⟩
        · obtain rfl : k = j := by omega
          have HG : Hid (goodN n l (k + 1)) := HO.out (by omega) (by omega) HU.out
          clear HR2
          go_wp2_with fail
          refine ⟨⟨k + 1, by omega, by go_num, HG, HE⟩, by simp [intOf]; omega⟩
    · obtain rfl : j = m := by omega
      clear HR
      go_wp2_with fail
      go_ret
      rw [checkL_ok (by omega) (by omega) (by omega) (by omega) (by rw [hl]; exact HT.out)]
      exact ⟨rfl, b0.trans (HB.out.mono (by omega))⟩
end Go.Proofs.Ythadagpfmacemaa
