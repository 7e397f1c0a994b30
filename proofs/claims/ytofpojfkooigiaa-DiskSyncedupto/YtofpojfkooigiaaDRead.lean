/- present, Read of package disk; slices.Clone of bytes. -/
import Derived.Test.YtofpojfkooigiaaDNew
namespace Go.Proofs.Ytofpojfkooigiaa
open Go.RowKit
variable {w : World} {F : List Nat} {D B M : Nat} {Dm : DataW Value} {V C : Nat → Nat} {s : DSt}

def nowV (x : DBlock) : List Value := if x.vs = [] then durV x else verV (x.vs.getLastD []) ++ [Value.bool false]
theorem Pic.durCell (h : Pic w F D B M Dm V C s) {i : Nat} (hi : i < s.bs.length) : ∀ j, j < (durV (s.at i)).length → w.cell? ⟨B, i * 257 + j, none⟩ = (durV (s.at i))[j]? := by
  intro j hj
  rw [h.durs _ (at_mem hi)] at hj
  rw [cell_of_row _ _ _ _ _ _ h.hB, List.getElem?_toArray]
  refine flat_get durV 257 s.bs h.durs i j (s.at i) ?_ hj
  unfold DSt.at
  rw [List.getD_eq_getElem?_getD, List.getElem?_eq_getElem hi]; rfl
theorem Pic.verCell (h : Pic w F D B M Dm V C s) {i : Nat} (hi : i < s.bs.length) (hv : (s.at i).vs ≠ []) {k : Nat} {l : List Nat} (hk : (s.at i).vs[k]? = some l) : ∀ j, j < (verV l).length → w.cell? ⟨V i, k * 256 + j, none⟩ = (verV l)[j]? := by
  intro j hj
  obtain ⟨cur, hc, -, -, -, ht⟩ := h.rowBlock hi hv
  have hm : l ∈ (s.at i).vs := List.mem_of_getElem? hk
  have hl := h.vers hi l hm
  rw [hl] at hj
  have hkl : k < (s.at i).vs.length := (List.getElem?_eq_some_iff.1 hk).1
  have h1 := flat_get verV 256 (s.at i).vs (h.vers hi) k j l hk hj
  rw [← ht, List.getElem?_take, if_pos (by omega)] at h1
  rw [cell_of_row _ _ _ _ _ _ hc, ← h1, Array.getElem?_toList]
theorem verD_one (l : List Nat) : ∀ v ∈ verV l ++ [Value.bool false], v.oneCell' = true := fun v hv => by
  rcases List.mem_append.1 hv with h | h
  · exact verV_one l v h
  · simp at h; rw [h]; rfl
theorem durV_one (x : DBlock) : ∀ v ∈ durV x, v.oneCell' = true := fun v hv => by
  unfold durV at hv
  split at hv
  · exact verD_one _ v hv
  · rcases List.mem_append.1 hv with h | h
    · exact z256_one v h
    · simp at h; rw [h]; rfl
set_option maxRecDepth 100000 in
set_option maxHeartbeats 2000000 in
theorem present_pic (h : Pic w F D B M Dm V C s) (i : Nat) (hi : i < s.bs.length) : Calls Try.prog 36 #[.pointer (some ⟨D, 0, none⟩), .int .i64 (i : Int)] w fun e w' => e = .returned (.agg (nowV (s.at i)).toArray) ∧ Below w.heap.size w w' := by
  obtain ⟨c0, c1, -, -⟩ := h.cells
  have hn := h.n2
  have hltD := h.ltD
  have hlook := (h.below ((Below.refl _ w).alloc (Nat.le_refl _) (.cells Try.zeroCells73 TD))).lookup hi
  have HP : Hid (Pic w F D B M Dm V C s) := h
  clear h
  unfold verN at hlook
  by_cases hv : (s.at i).vs = []
  · rw [if_pos hv] at hlook
    unfold nowV
    rw [if_pos hv]
    go_enter Try.func36, Try.ntmps36
    go_wp2_with (first
      | (refine load_wide rfl TD _ rfl _ Try.underlying73 rfl (durV (s.at i)) (by rw [HP.out.durs _ (at_mem hi)]; exact sizeD) B (i * 257) rfl ((HP.out.below ((Below.refl _ w).alloc (Nat.le_refl _) _)).durCell hi) ?_)
      | (refine store_new (w0 := w) rfl TD _ _ rfl (durV (s.at i)) (by rw [HP.out.durs _ (at_mem hi)]; exact sizeD) rfl rfl TD Try.zeroCells73 rfl (by rw [HP.out.durs _ (at_mem hi), zcD]; simp [z256_len]) (durV_one _) ?_))
    refine bodyPost_ret (results_cell_row Try.results36 _ _ w.heap.size TD _ (0, 0) _ rfl (heap_alloc_last _ _) Try.underlying73 rfl (by rw [List.size_toArray, HP.out.durs _ (at_mem hi)]; exact sizeD)) rfl ⟨rfl, (Below.refl _ w).alloc (Nat.le_refl _) _⟩
  · rw [if_neg hv] at hlook
    unfold nowV
    rw [if_neg hv]
    obtain ⟨l, hl⟩ : ∃ l, (s.at i).vs.getLast? = some l := by cases hq : (s.at i).vs.getLast? with
      | none => exact absurd (List.getLast?_eq_none_iff.1 hq) hv
      | some l => exact ⟨l, rfl⟩
    have hlD : (s.at i).vs.getLastD [] = l := by rw [List.getLastD_eq_getLast?, hl]; rfl
    rw [hlD]
    have hk : (s.at i).vs[(s.at i).vs.length - 1]? = some l := by rw [← List.getLast?_eq_getElem?]; exact hl
    have hpos : 0 < (s.at i).vs.length := List.length_pos_iff.2 hv
    have h256 : (verV l).length = 256 := HP.out.vers hi l (List.mem_of_getElem? hk)
    have hcell := (HP.out.below ((Below.refl _ w).alloc (Nat.le_refl _) (.cells Try.zeroCells73 TD))).verCell hi hv hk
    have HC : Hid (∀ j, j < (verV l).length → (w.alloc (.cells Try.zeroCells73 TD)).cell? ⟨V i, ((s.at i).vs.length - 1) * 256 + j, none⟩ = (verV l)[j]?) := hcell
    have hmax : (s.at i).vs.length ≤ maxLen := by obtain ⟨cur, _, r1, r2, _⟩ := HP.out.rowBlock hi hv; omega
    clear hcell
    unfold verS at hlook
    have HK : Hid ((s.at i).vs ≠ []) := hv
    clear hv hl hlD hk
    unfold maxLen at hmax
    generalize (s.at i).vs.length = m at *
    obtain ⟨k, rfl⟩ : ∃ k, m = k + 1 := ⟨m - 1, by omega⟩
    simp only [Nat.add_sub_cancel] at HC
    go_enter Try.func36, Try.ntmps36
    go_wp2_with (first
      | (refine load_wide rfl TB _ rfl _ Try.underlying71 rfl (verV l) (by rw [h256]; exact sizeB) (V i) (k * 256) rfl HC.out ?_)
      | (refine build_text rfl _ rfl _ rfl (verV l ++ [Value.bool false]) ?_ ?_; (exact fun w => run_buildD w _ h256))
      | (refine store_new (w0 := w) rfl TD _ _ rfl (verV l ++ [Value.bool false]) (by rw [List.length_append, h256]; exact sizeD) rfl rfl TD Try.zeroCells73 rfl (by rw [List.length_append, h256, zcD]; simp [z256_len]) (verD_one _) ?_))
    refine bodyPost_ret (results_cell_row Try.results36 _ _ w.heap.size TD _ (0, 0) _ rfl (heap_alloc_last _ _) Try.underlying73 rfl (by rw [List.size_toArray, List.length_append, h256]; exact sizeD)) rfl ⟨rfl, (Below.refl _ w).alloc (Nat.le_refl _) _⟩
end Go.Proofs.Ytofpojfkooigiaa
