/- The document's takes and in of an event of package group (by genrtk15.py). -/
import Derived.Test.YtiiepmljcjbflaaGreatPGEv
import Derived.Laws.ResultCell
namespace Go.Proofs.YtiiepmljcjbflaaGreat
open Go.RowKit
variable {w w' : World}

abbrev REv : TypeId := 23
theorem rin_any (n b : Int) (w : World) : Calls Tryz.prog 58 #[.int .i64 n, .int .i64 b] w fun r w' => r = .returned (.bool (decide (0 ≤ n) && decide (n < b))) ∧ w' = w := by
  by_cases h : 0 ≤ n
  · have hd : decide (0 ≤ n) = true := decide_eq_true h
    obtain ⟨q, hq⟩ : ∃ q, decide (n < b) = q := ⟨_, rfl⟩
    rw [hd, hq]
    go_enter Tryz.func58, Tryz.ntmps58
    go_wp2_with fail
    go_ret
    exact ⟨rfl, rfl⟩
  · have hd : decide (0 ≤ n) = false := decide_eq_false h
    rw [hd]
    go_enter Tryz.func58, Tryz.ntmps58
    go_wp2_with fail
    go_ret
    exact ⟨rfl, rfl⟩
set_option maxRecDepth 40000 in
set_option maxHeartbeats 2000000 in
theorem rtakes_any (x : Ev) (w : World) : Calls Tryz.prog 57 #[.agg (evA x)] w fun r w' => r = .returned (.agg (evA x.taken)) ∧ Below w.heap.size w w' := by
  obtain ⟨k, nm, a, b, c, d, e, f, q⟩ := x
  by_cases h1 : k = 1
  · subst h1
    have ht : evA (Ev.taken ⟨1, nm, a, b, c, d, e, f, q⟩) = #[.int .i64 1, .string (nmS nm), .int .i64 0, .int .i64 0, .int .i64 0, .int .i64 0, .int .i64 0, .int .i64 f, .bool false] := by simp [Ev.taken, evA, nmS]
    rw [ht]
    show Calls Tryz.prog 57 #[.agg #[.int .i64 1, .string (nmS nm), .int .i64 a, .int .i64 b, .int .i64 c, .int .i64 d, .int .i64 e, .int .i64 f, .bool q]] w _
    generalize nmS nm = t
    clear ht
    go_enter Tryz.func57, Tryz.ntmps57
    go_wp2_with fail
    refine bodyPost_ret (v := .agg #[.int .i64 1, .string t, .int .i64 0, .int .i64 0, .int .i64 0, .int .i64 0, .int .i64 0, .int .i64 f, .bool false]) (by simp [results, Tryz.results57, go_sem]) rfl ⟨rfl, ?_⟩
    exact ((((Below.refl _ w).alloc (Nat.le_refl _) _).alloc (by simp) _).alloc (by simp; omega) _)
  · have h1b : (k == 1) = false := by simpa using h1
    by_cases h2 : k = 2
    · subst h2
      have ht : evA (Ev.taken ⟨2, nm, a, b, c, d, e, f, q⟩) = #[.int .i64 2, .string (nmS nm), .int .i64 0, .int .i64 0, .int .i64 0, .int .i64 0, .int .i64 0, .int .i64 f, .bool false] := by simp [Ev.taken, evA, nmS]
      rw [ht]
      show Calls Tryz.prog 57 #[.agg #[.int .i64 2, .string (nmS nm), .int .i64 a, .int .i64 b, .int .i64 c, .int .i64 d, .int .i64 e, .int .i64 f, .bool q]] w _
      generalize nmS nm = t
      clear ht
      go_enter Tryz.func57, Tryz.ntmps57
      go_wp2_with fail
      refine bodyPost_ret (v := .agg #[.int .i64 2, .string t, .int .i64 0, .int .i64 0, .int .i64 0, .int .i64 0, .int .i64 0, .int .i64 f, .bool false]) (by simp [results, Tryz.results57, go_sem]) rfl ⟨rfl, ?_⟩
      exact ((((Below.refl _ w).alloc (Nat.le_refl _) _).alloc (by simp) _).alloc (by simp; omega) _)
    · have h2b : (k == 2) = false := by simpa using h2
      by_cases h3 : k = 3
      · subst h3
        have ht : evA (Ev.taken ⟨3, nm, a, b, c, d, e, f, q⟩) = #[.int .i64 3, .string (nmS nm), .int .i64 a, .int .i64 0, .int .i64 0, .int .i64 0, .int .i64 0, .int .i64 f, .bool false] := by simp [Ev.taken, evA, nmS]
        rw [ht]
        show Calls Tryz.prog 57 #[.agg #[.int .i64 3, .string (nmS nm), .int .i64 a, .int .i64 b, .int .i64 c, .int .i64 d, .int .i64 e, .int .i64 f, .bool q]] w _
        generalize nmS nm = t
        clear ht
        go_enter Tryz.func57, Tryz.ntmps57
        go_wp2_with fail
        refine bodyPost_ret (v := .agg #[.int .i64 3, .string t, .int .i64 a, .int .i64 0, .int .i64 0, .int .i64 0, .int .i64 0, .int .i64 f, .bool false]) (by simp [results, Tryz.results57, go_sem]) rfl ⟨rfl, ?_⟩
        exact ((((Below.refl _ w).alloc (Nat.le_refl _) _).alloc (by simp) _).alloc (by simp; omega) _)
      · have h3b : (k == 3) = false := by simpa using h3
        by_cases h4 : k = 4
        · subst h4
          have ht : evA (Ev.taken ⟨4, nm, a, b, c, d, e, f, q⟩) = #[.int .i64 4, .string (nmS nm), .int .i64 a, .int .i64 b, .int .i64 c, .int .i64 0, .int .i64 0, .int .i64 0, .bool false] := by simp [Ev.taken, evA, nmS]
          rw [ht]
          show Calls Tryz.prog 57 #[.agg #[.int .i64 4, .string (nmS nm), .int .i64 a, .int .i64 b, .int .i64 c, .int .i64 d, .int .i64 e, .int .i64 f, .bool q]] w _
          generalize nmS nm = t
          clear ht
          go_enter Tryz.func57, Tryz.ntmps57
          go_wp2_with fail
          refine bodyPost_ret (v := .agg #[.int .i64 4, .string t, .int .i64 a, .int .i64 b, .int .i64 c, .int .i64 0, .int .i64 0, .int .i64 0, .bool false]) (by simp [results, Tryz.results57, go_sem]) rfl ⟨rfl, ?_⟩
          exact ((((Below.refl _ w).alloc (Nat.le_refl _) _).alloc (by simp) _).alloc (by simp; omega) _)
        · have h4b : (k == 4) = false := by simpa using h4
          by_cases h5 : k = 5
          · subst h5
            have ht : evA (Ev.taken ⟨5, nm, a, b, c, d, e, f, q⟩) = #[.int .i64 5, .string ⟨#[]⟩, .int .i64 0, .int .i64 0, .int .i64 0, .int .i64 0, .int .i64 0, .int .i64 f, .bool false] := by simp [Ev.taken, evA, nmS]
            rw [ht]
            show Calls Tryz.prog 57 #[.agg #[.int .i64 5, .string (nmS nm), .int .i64 a, .int .i64 b, .int .i64 c, .int .i64 d, .int .i64 e, .int .i64 f, .bool q]] w _
            generalize nmS nm = t
            clear ht
            go_enter Tryz.func57, Tryz.ntmps57
            go_wp2_with fail
            refine bodyPost_ret (v := .agg #[.int .i64 5, .string ⟨#[]⟩, .int .i64 0, .int .i64 0, .int .i64 0, .int .i64 0, .int .i64 0, .int .i64 f, .bool false]) (by simp [results, Tryz.results57, go_sem]) rfl ⟨rfl, ?_⟩
            exact ((((Below.refl _ w).alloc (Nat.le_refl _) _).alloc (by simp) _).alloc (by simp; omega) _)
          · have h5b : (k == 5) = false := by simpa using h5
            by_cases h6 : k = 6
            · subst h6
              have ht : evA (Ev.taken ⟨6, nm, a, b, c, d, e, f, q⟩) = #[.int .i64 6, .string (nmS nm), .int .i64 a, .int .i64 b, .int .i64 c, .int .i64 d, .int .i64 e, .int .i64 0, .bool false] := by simp [Ev.taken, evA, nmS]
              rw [ht]
              show Calls Tryz.prog 57 #[.agg #[.int .i64 6, .string (nmS nm), .int .i64 a, .int .i64 b, .int .i64 c, .int .i64 d, .int .i64 e, .int .i64 f, .bool q]] w _
              generalize nmS nm = t
              clear ht
              go_enter Tryz.func57, Tryz.ntmps57
              go_wp2_with fail
              refine bodyPost_ret (v := .agg #[.int .i64 6, .string t, .int .i64 a, .int .i64 b, .int .i64 c, .int .i64 d, .int .i64 e, .int .i64 0, .bool false]) (by simp [results, Tryz.results57, go_sem]) rfl ⟨rfl, ?_⟩
              exact ((((Below.refl _ w).alloc (Nat.le_refl _) _).alloc (by simp) _).alloc (by simp; omega) _)
            · have h6b : (k == 6) = false := by simpa using h6
              by_cases h7 : k = 7
              · subst h7
                have ht : evA (Ev.taken ⟨7, nm, a, b, c, d, e, f, q⟩) = #[.int .i64 7, .string ⟨#[]⟩, .int .i64 0, .int .i64 0, .int .i64 0, .int .i64 d, .int .i64 e, .int .i64 0, .bool q] := by simp [Ev.taken, evA, nmS]
                rw [ht]
                show Calls Tryz.prog 57 #[.agg #[.int .i64 7, .string (nmS nm), .int .i64 a, .int .i64 b, .int .i64 c, .int .i64 d, .int .i64 e, .int .i64 f, .bool q]] w _
                generalize nmS nm = t
                clear ht
                go_enter Tryz.func57, Tryz.ntmps57
                go_wp2_with fail
                refine bodyPost_ret (v := .agg #[.int .i64 7, .string ⟨#[]⟩, .int .i64 0, .int .i64 0, .int .i64 0, .int .i64 d, .int .i64 e, .int .i64 0, .bool q]) (by simp [results, Tryz.results57, go_sem]) rfl ⟨rfl, ?_⟩
                exact ((((Below.refl _ w).alloc (Nat.le_refl _) _).alloc (by simp) _).alloc (by simp; omega) _)
              · have h7b : (k == 7) = false := by simpa using h7
                have ht : evA (Ev.taken ⟨k, nm, a, b, c, d, e, f, q⟩) = #[.int .i64 k, .string ⟨#[]⟩, .int .i64 0, .int .i64 0, .int .i64 0, .int .i64 0, .int .i64 0, .int .i64 0, .bool false] := by simp [Ev.taken, evA, nmS, h1, h2, h3, h4, h5, h6, h7]
                rw [ht]
                show Calls Tryz.prog 57 #[.agg #[.int .i64 k, .string (nmS nm), .int .i64 a, .int .i64 b, .int .i64 c, .int .i64 d, .int .i64 e, .int .i64 f, .bool q]] w _
                generalize nmS nm = t
                clear ht
                go_enter Tryz.func57, Tryz.ntmps57
                go_wp2_with fail
                refine bodyPost_ret (v := .agg #[.int .i64 k, .string ⟨#[]⟩, .int .i64 0, .int .i64 0, .int .i64 0, .int .i64 0, .int .i64 0, .int .i64 0, .bool false]) (by simp [results, Tryz.results57, go_sem]) rfl ⟨rfl, ?_⟩
                exact ((((Below.refl _ w).alloc (Nat.le_refl _) _).alloc (by simp) _).alloc (by simp; omega) _)
end Go.Proofs.YtiiepmljcjbflaaGreat
