/- The document's takes and in of an event of package txn (by genrtk16.py). -/
import Derived.Test.YtciifdmdkfickaaTEvS
import Derived.Laws.ResultCell
namespace Go.Proofs.Ytciifdmdkfickaa
open Go.RowKit
variable {w w' : World}

abbrev REv : TypeId := 23
theorem rin_any (n b : Int) (w : World) : Calls Try.prog 35 #[.int .i64 n, .int .i64 b] w fun r w' => r = .returned (.bool (decide (0 ≤ n) && decide (n < b))) ∧ w' = w := by
  by_cases h : 0 ≤ n
  · have hd : decide (0 ≤ n) = true := decide_eq_true h
    obtain ⟨q, hq⟩ : ∃ q, decide (n < b) = q := ⟨_, rfl⟩
    rw [hd, hq]
    go_enter Try.func35, Try.ntmps35
    go_wp2_with fail
    go_ret
    exact ⟨rfl, rfl⟩
  · have hd : decide (0 ≤ n) = false := decide_eq_false h
    rw [hd]
    go_enter Try.func35, Try.ntmps35
    go_wp2_with fail
    go_ret
    exact ⟨rfl, rfl⟩
set_option maxRecDepth 40000 in
set_option maxHeartbeats 2000000 in
theorem rtakes_any (x : Ev) (w : World) : Calls Try.prog 34 #[.agg (evA x)] w fun r w' => r = .returned (.agg (evA x.taken)) ∧ Below w.heap.size w w' := by
  obtain ⟨k, nm, a, b, c, d, e, q⟩ := x
  by_cases h1 : k = 1
  · subst h1
    have ht : evA (Ev.taken ⟨1, nm, a, b, c, d, e, q⟩) = #[.int .i64 1, .string (nmS nm), .int .i64 0, .int .i64 0, .int .i64 0, .int .i64 d, .int .i64 e, .bool false] := by simp [Ev.taken, evA, nmS]
    rw [ht]
    show Calls Try.prog 34 #[.agg #[.int .i64 1, .string (nmS nm), .int .i64 a, .int .i64 b, .int .i64 c, .int .i64 d, .int .i64 e, .bool q]] w _
    generalize nmS nm = t
    clear ht
    go_enter Try.func34, Try.ntmps34
    go_wp2_with fail
    refine bodyPost_ret (v := .agg #[.int .i64 1, .string t, .int .i64 0, .int .i64 0, .int .i64 0, .int .i64 d, .int .i64 e, .bool false]) (by simp [results, Try.results34, go_sem]) rfl ⟨rfl, ?_⟩
    exact ((((Below.refl _ w).alloc (Nat.le_refl _) _).alloc (by simp) _).alloc (by simp; omega) _)
  · have h1b : (k == 1) = false := by simpa using h1
    by_cases h2 : k = 2
    · subst h2
      have ht : evA (Ev.taken ⟨2, nm, a, b, c, d, e, q⟩) = #[.int .i64 2, .string ⟨#[]⟩, .int .i64 a, .int .i64 b, .int .i64 c, .int .i64 0, .int .i64 e, .bool false] := by simp [Ev.taken, evA, nmS]
      rw [ht]
      show Calls Try.prog 34 #[.agg #[.int .i64 2, .string (nmS nm), .int .i64 a, .int .i64 b, .int .i64 c, .int .i64 d, .int .i64 e, .bool q]] w _
      generalize nmS nm = t
      clear ht
      go_enter Try.func34, Try.ntmps34
      go_wp2_with fail
      refine bodyPost_ret (v := .agg #[.int .i64 2, .string ⟨#[]⟩, .int .i64 a, .int .i64 b, .int .i64 c, .int .i64 0, .int .i64 e, .bool false]) (by simp [results, Try.results34, go_sem]) rfl ⟨rfl, ?_⟩
      exact ((((Below.refl _ w).alloc (Nat.le_refl _) _).alloc (by simp) _).alloc (by simp; omega) _)
    · have h2b : (k == 2) = false := by simpa using h2
      by_cases h3 : k = 3
      · subst h3
        have ht : evA (Ev.taken ⟨3, nm, a, b, c, d, e, q⟩) = #[.int .i64 3, .string ⟨#[]⟩, .int .i64 a, .int .i64 b, .int .i64 0, .int .i64 0, .int .i64 0, .bool q] := by simp [Ev.taken, evA, nmS]
        rw [ht]
        show Calls Try.prog 34 #[.agg #[.int .i64 3, .string (nmS nm), .int .i64 a, .int .i64 b, .int .i64 c, .int .i64 d, .int .i64 e, .bool q]] w _
        generalize nmS nm = t
        clear ht
        go_enter Try.func34, Try.ntmps34
        go_wp2_with fail
        refine bodyPost_ret (v := .agg #[.int .i64 3, .string ⟨#[]⟩, .int .i64 a, .int .i64 b, .int .i64 0, .int .i64 0, .int .i64 0, .bool q]) (by simp [results, Try.results34, go_sem]) rfl ⟨rfl, ?_⟩
        exact ((((Below.refl _ w).alloc (Nat.le_refl _) _).alloc (by simp) _).alloc (by simp; omega) _)
      · have h3b : (k == 3) = false := by simpa using h3
        by_cases h4 : k = 4
        · subst h4
          have ht : evA (Ev.taken ⟨4, nm, a, b, c, d, e, q⟩) = #[.int .i64 4, .string ⟨#[]⟩, .int .i64 a, .int .i64 b, .int .i64 c, .int .i64 0, .int .i64 0, .bool false] := by simp [Ev.taken, evA, nmS]
          rw [ht]
          show Calls Try.prog 34 #[.agg #[.int .i64 4, .string (nmS nm), .int .i64 a, .int .i64 b, .int .i64 c, .int .i64 d, .int .i64 e, .bool q]] w _
          generalize nmS nm = t
          clear ht
          go_enter Try.func34, Try.ntmps34
          go_wp2_with fail
          refine bodyPost_ret (v := .agg #[.int .i64 4, .string ⟨#[]⟩, .int .i64 a, .int .i64 b, .int .i64 c, .int .i64 0, .int .i64 0, .bool false]) (by simp [results, Try.results34, go_sem]) rfl ⟨rfl, ?_⟩
          exact ((((Below.refl _ w).alloc (Nat.le_refl _) _).alloc (by simp) _).alloc (by simp; omega) _)
        · have h4b : (k == 4) = false := by simpa using h4
          by_cases h5 : k = 5
          · subst h5
            have ht : evA (Ev.taken ⟨5, nm, a, b, c, d, e, q⟩) = #[.int .i64 5, .string ⟨#[]⟩, .int .i64 0, .int .i64 0, .int .i64 0, .int .i64 0, .int .i64 e, .bool false] := by simp [Ev.taken, evA, nmS]
            rw [ht]
            show Calls Try.prog 34 #[.agg #[.int .i64 5, .string (nmS nm), .int .i64 a, .int .i64 b, .int .i64 c, .int .i64 d, .int .i64 e, .bool q]] w _
            generalize nmS nm = t
            clear ht
            go_enter Try.func34, Try.ntmps34
            go_wp2_with fail
            refine bodyPost_ret (v := .agg #[.int .i64 5, .string ⟨#[]⟩, .int .i64 0, .int .i64 0, .int .i64 0, .int .i64 0, .int .i64 e, .bool false]) (by simp [results, Try.results34, go_sem]) rfl ⟨rfl, ?_⟩
            exact ((((Below.refl _ w).alloc (Nat.le_refl _) _).alloc (by simp) _).alloc (by simp; omega) _)
          · have h5b : (k == 5) = false := by simpa using h5
            have ht : evA (Ev.taken ⟨k, nm, a, b, c, d, e, q⟩) = #[.int .i64 k, .string ⟨#[]⟩, .int .i64 0, .int .i64 0, .int .i64 0, .int .i64 0, .int .i64 0, .bool false] := by simp [Ev.taken, evA, nmS, h1, h2, h3, h4, h5]
            rw [ht]
            show Calls Try.prog 34 #[.agg #[.int .i64 k, .string (nmS nm), .int .i64 a, .int .i64 b, .int .i64 c, .int .i64 d, .int .i64 e, .bool q]] w _
            generalize nmS nm = t
            clear ht
            go_enter Try.func34, Try.ntmps34
            go_wp2_with fail
            refine bodyPost_ret (v := .agg #[.int .i64 k, .string ⟨#[]⟩, .int .i64 0, .int .i64 0, .int .i64 0, .int .i64 0, .int .i64 0, .bool false]) (by simp [results, Try.results34, go_sem]) rfl ⟨rfl, ?_⟩
            exact ((((Below.refl _ w).alloc (Nat.le_refl _) _).alloc (by simp) _).alloc (by simp; omega) _)
end Go.Proofs.Ytciifdmdkfickaa
