/- slices.Delete at int: one element. -/
import Derived.Test.YtgbjlkaaniaaaaaDoorDelM
namespace Go.Proofs.YtgbjlkaaniaaaaaDoor
open Go.RowKit

set_option maxRecDepth 100000 in
set_option maxHeartbeats 4000000 in
theorem deleteI_at (w : World) (g o n cap i : Nat) (cur : Array Value) (xs : List Value) (hg : w.heap[g]? = some (.cells cur TI (0, 0))) (hn : n ≤ cap) (hm : cap ≤ maxLen) (hs : o + cap * 1 ≤ cur.size) (hx : ∀ j, j < n * 1 → cur[o + j]? = xs[j]?) (hl : xs.length = n * 1) (h1 : ∀ u ∈ xs, u.oneCell' = true) (hi : i < n) :
    Calls Tryd.prog 39 #[.slice (some ⟨g, o, none⟩) n cap, .int .i64 (i : Nat), .int .i64 ((i : Nat) + 1)] w fun e w' => e = .returned (.slice (some ⟨g, o, none⟩) (n - 1) cap) ∧ OffRow w' TI 1 (.slice (some ⟨g, o, none⟩) (n - 1) cap) (n - 1) (delV xs 1 i) ∧ w.grownBy w' (some g) := by
  obtain ⟨i0, hi0, hz0, hz1, hz2⟩ := info_parts Tryd.infoI
  have hm2 : cap ≤ 9223372036854775807 := by unfold maxLen at hm; omega
  obtain ⟨news, hnews⟩ : ∃ news, news = xs.drop ((i + 1) * 1) := ⟨_, rfl⟩
  obtain ⟨m, hm0⟩ : ∃ m, n = i + 1 + m := ⟨n - (i + 1), by omega⟩
  subst hm0
  have hlen : news.length = m * 1 := by rw [hnews, List.length_drop, hl]; omega
  obtain ⟨A, hA, hsrc⟩ : ∃ A : Addr, (if cap = i + 1 then some (⟨g, o, none⟩ : Addr) else some ⟨g, o + (i + 1), none⟩) = some A ∧ Hid (∀ t u, news[t]? = some u → w.drew.cell? (A.add t) = some u) := by
    by_cases h : cap = i + 1
    · refine ⟨⟨g, o, none⟩, by simp [h], fun t u hu => ?_⟩
      have h0 : news.length = 0 := by rw [hlen]; omega
      rw [List.length_eq_zero_iff.1 h0] at hu
      simp at hu
    · refine ⟨⟨g, o + (i + 1), none⟩, by simp [h], fun t u hu => ?_⟩
      have ht : t < m * 1 := by
        have := (List.getElem?_eq_some_iff.1 hu).1
        rwa [hlen] at this
      rw [hnews, List.getElem?_drop] at hu
      have e1 : w.cell? ⟨g, o + ((i + 1) * 1 + t), none⟩ = some u := by
        rw [cell_of_row _ _ _ _ _ _ hg, hx _ (by omega)]; exact hu
      rw [Addr.add_lit, show o + (i + 1) + t = o + ((i + 1) * 1 + t) by omega]
      exact e1
  have s2 : Hid (∀ u ∈ news, u.oneCell' = true) := fun u hu => by rw [hnews] at hu; exact h1 u (List.mem_of_mem_drop hu)
  obtain ⟨W1, hW1⟩ : ∃ W1, W1 = w.drew.setRow g (over cur (o + i * 1) news) := ⟨_, rfl⟩
  have hg1 : W1.heap[g]? = some (.cells (over cur (o + i * 1) news) TI (0, 0)) := by rw [hW1]; exact setRow_heap w.drew g cur _ TI _ hg
  have hcs : (over cur (o + i * 1) news).size = cur.size := over_size _ _ _ (by omega)
  obtain ⟨W2, hW2⟩ : ∃ W2, W2 = W1.setRow g (over (over cur (o + i * 1) news) (o + (i + m)) [.int .i64 0]) := ⟨_, rfl⟩
  have hcl : ∀ ty c, (Builtin.clear_ #[26] ty #[.slice (some ⟨g, o + (i + m), none⟩) (i + 1 + m - (i + m)) c]).run Tryd.prog W1 = .ok (.tuple #[]) W2 := fun ty c => by
    rw [show i + 1 + m - (i + m) = 1 by omega]
    have := run_clear_one (P := Tryd.prog) (w := W1) 26 ty i0 (.int .i64 0) Tryd.underlying26 hi0 hz0 (fun u hu => by simp [Value.cells] at hu; first | (subst hu; rfl) | (rcases hu with rfl | rfl <;> rfl)) g (o + (i + m)) c _ hg1 (by rw [hcs]; simp [Value.cells]; omega)
    rw [this, hW2]
    rfl
  have HW1 : Hid (W1 = w.drew.setRow g (over cur (o + i * 1) news)) := hW1
  have HW2 : Hid (W2 = W1.setRow g (over (over cur (o + i * 1) news) (o + (i + m)) [.int .i64 0])) := hW2
  have HG1 := hide hg1
  have HG : Hid (w.heap[g]? = some (.cells cur TI (0, 0))) := hg
  have HLEN := hide hlen
  have HX := hide hx
  have HL := hide hl
  have HN := hide hnews
  have hic : i ≤ cap := by omega
  have hi1 : (0 : Int) ≤ (i : Int) + 1 := by omega
  have hi2 : (i : Int) + 1 ≤ (i : Int) + 1 + (m : Int) := by omega
  have hjc : i + 1 ≤ cap := by omega
  have hic2 : i + m < cap := by omega
  have hfit : o + i * 1 + m * 1 ≤ cur.size := by omega
  clear hW1 hW2 hg1 hlen hx hl hg hnews h1 hcs
  go_enter Tryd.func39, Tryd.ntmps39
  go_wp2_with fail
  go_region_law (refine step_app_over rfl (.tmp 22) (.tmp 25) 26 rfl TI i0 1 Tryd.underlying26 hi0 hz1 g o i cap cur HG.out (by simp [Act.eval, Act.put]) A m (cap - (i + 1)) news (by simp [Act.eval, Act.put]) HLEN.out hsrc.out s2.out (by omega) (by rw [HLEN.out]; omega) ?_; rw [← HW1.out])
  go_wp2
  go_ret
  have e1 : i + 1 + m - 1 = i + m := by omega
  rw [e1]
  obtain ⟨d1, d2⟩ := del_late (i := i) (zc := [.int .i64 0]) hs hn HX.out HL.out hi rfl
  rw [e1, ← HN.out] at d1 d2
  rw [Nat.mul_one (i + m)] at d1 d2
  have hg2 : W2.heap[g]? = some (.cells (over (over cur (o + i * 1) news) (o + (i + m)) [.int .i64 0]) TI (0, 0)) := by rw [HW2.out]; exact setRow_heap W1 g _ _ TI _ HG1.out
  refine ⟨rfl, ⟨by rw [delV_len HL.out hi, e1], Or.inr ⟨g, o, cap, _, rfl, hg2, by omega, hm, by rw [d1]; exact hs, fun j hj => d2 j (by omega)⟩⟩, ?_⟩
  · rw [HW2.out, HW1.out]
    exact ⟨rfl, rfl, rfl, by simp [World.setRow], fun k hk hne => by
      have : k ≠ g := fun e => hne (by rw [e])
      rw [setRow_other _ g k _ this, setRow_other _ g k _ this]; rfl⟩
end Go.Proofs.YtgbjlkaaniaaaaaDoor
