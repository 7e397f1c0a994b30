/- No book, and one that nobody made: TxnNil (by gennil16.py). -/
import Derived.Test.YtkheifdigjajeaaTNilF
import Derived.Test.YtkheifdigjajeaaTKnows
namespace Go.Proofs.Ytkheifdigjajeaa
open Go.RowKit
variable {w w' : World}

set_option maxRecDepth 100000 in
set_option maxHeartbeats 4000000 in
theorem nil_walk (x : Ev) (n : Int) (w : World) : Calls Try.prog 3 #[.agg (evA x), .int .i64 n] w fun r w' => r = .returned (.bool true) ∧ Below w.heap.size w w' := by
  have HOw := hid (own16_any x)
  have HDe : Hid (∀ W gv, NoB W gv → Calls Try.prog 8 #[.pointer gv, .agg (evA x)] W fun r w' => r = .returned (.tuple #[.bool false, .int .i64 1]) ∧ Below W.heap.size W w') := fun W gv h => Decide_nil h x
  have HAp : Hid (∀ W gv, NoB W gv → Calls Try.prog 13 #[.pointer gv, .agg (evA x)] W fun r w' => r = .returned (.int .i64 1) ∧ Below W.heap.size W w') := fun W gv h => Apply_nil h x
  have HFi : Hid (∀ W gv t, NoB W gv → Calls Try.prog 10 #[.pointer gv, .string t] W fun r w' => r = .returned (.tuple #[.int .i64 0, .int .i64 0, .bool false]) ∧ w' = W) := fun W gv t h => Find_nil h t
  have HSt : Hid (∀ W gv, NoB W gv → Calls Try.prog 11 #[.pointer gv, .int .i64 n] W fun r w' => r = .returned (.tuple #[.int .i64 0, .int .i64 0, .bool false]) ∧ w' = W) := fun W gv h => Status_nil h n
  have HPl : Hid (∀ W gv, NoB W gv → Calls Try.prog 14 #[.pointer gv, .int .i64 n] W fun r w' => r = .returned (.slice none 0 0) ∧ w' = W) := fun W gv h => Places_nil h n
  have HTo : Hid (∀ W gv, NoB W gv → Calls Try.prog 15 #[.pointer gv] W fun r w' => (∃ ad c, r = .returned (.slice ad 0 c)) ∧ Below W.heap.size W w') := fun W gv h => Todo_nil h
  have HKn := hid knows16
  obtain ⟨k, nm, a, b, cc, d, e, q⟩ := x
  obtain ⟨t, ht⟩ : ∃ t, nmS nm = t := ⟨_, rfl⟩
  dsimp only [evA] at HOw HDe HAp ⊢
  rw [ht] at HOw HDe HAp ⊢
  obtain ⟨W1, hW1⟩ : ∃ W1, w.alloc (.cells #[.int .i64 k, .string t, .int .i64 a, .int .i64 b, .int .i64 cc, .int .i64 d, .int .i64 e, .bool q] 23) = W1 := ⟨_, rfl⟩
  have b1 : Below w.heap.size w W1 := by rw [← hW1]; exact (Below.refl _ _).alloc (Nat.le_refl _) _
  have x1 : Blk W1 w.heap.size #[.int .i64 k, .string t, .int .i64 a, .int .i64 b, .int .i64 cc, .int .i64 d, .int .i64 e, .bool q] 23 := by rw [← hW1]; exact heap_alloc_new w _
  have HB1 := hid b1
  have HS : Hid (∀ W, Below W1.heap.size W1 W → W.cell? ⟨w.heap.size, 0, none⟩ = some (.int .i64 k) ∧ W.cell? ⟨w.heap.size, 1, none⟩ = some (.string t) ∧ W.cell? ⟨w.heap.size, 2, none⟩ = some (.int .i64 a) ∧ W.cell? ⟨w.heap.size, 3, none⟩ = some (.int .i64 b) ∧ W.cell? ⟨w.heap.size, 4, none⟩ = some (.int .i64 cc) ∧ W.cell? ⟨w.heap.size, 5, none⟩ = some (.int .i64 d) ∧ W.cell? ⟨w.heap.size, 6, none⟩ = some (.int .i64 e) ∧ W.cell? ⟨w.heap.size, 7, none⟩ = some (.bool q)) := fun W hW => ⟨(x1.later hW).cell 0, (x1.later hW).cell 1, (x1.later hW).cell 2, (x1.later hW).cell 3, (x1.later hW).cell 4, (x1.later hW).cell 5, (x1.later hW).cell 6, (x1.later hW).cell 7⟩
  clear b1 x1 ht
  go_enter Try.func3, Try.ntmps3
  go_wp2_with fail
  go_loopw [5, 6] (fun v i wr => ∃ (j : Nat) (gv : Option Addr), j ≤ 2 ∧ i = .int .i64 (j : Int) ∧ v = .pointer gv ∧ Hid (NoB wr gv) ∧ Hid (Below W1.heap.size W1 wr)) (fun _ i _ => 2 - (intOf i).toNat)
  case atStart => exact ⟨0, none, by omega, rfl, rfl, NoB.nil _, Below.refl _ _⟩
  case round =>
    obtain ⟨j, gv, hj, rfl, rfl, HNo, HB⟩ := hrel
    by_cases hlt : j < 2
    · obtain ⟨c0, c1, c2, c3, c4, c5, c6, c7⟩ := HS.out wr HB.out
      go_wp2_with (first
        | (go_at_call 9; (with_reducible_and_instances (refine (HOw.out wr).mono ?_)); rintro r w2 ⟨rfl, hb2⟩; have HN2 := hid (HNo.out.later hb2); have HB2 := hid (HB.out.trans (hb2.mono HB.out.size)); have HD2 := hid (HDe.out w2 gv HN2.out); clear hb2 c0 c1 c2 c3 c4 c5 c6 c7)
        | (go_at_call 8; (with_reducible_and_instances (refine HD2.out.mono ?_)); rintro r w3 ⟨rfl, hb3⟩; have HN3 := hid (HN2.out.later hb3); have HB3 := hid (HB2.out.trans (hb3.mono HB2.out.size)); obtain ⟨e0, e1, e2, e3, e4, e5, e6, e7⟩ := HS.out w3 HB3.out; have HF3 := hid (HFi.out w3 gv t HN3.out); have HS3 := hid (HSt.out w3 gv HN3.out); have HO3 := hid (HOw.out w3); clear hb3)
        | (go_at_call 10; (with_reducible_and_instances (refine HF3.out.mono ?_)); rintro r w9 ⟨rfl, hw9⟩; obtain rfl := hw9.symm)
        | (go_at_call 11; (with_reducible_and_instances (refine HS3.out.mono ?_)); rintro r w9 ⟨rfl, hw9⟩; obtain rfl := hw9.symm)
        | (go_at_call 12; (with_reducible_and_instances (refine (num16_any _ _).mono ?_)); rintro r w9 ⟨rfl, hw9⟩; obtain rfl := hw9.symm)
        | (go_at_call 9; (with_reducible_and_instances (refine HO3.out.mono ?_)); rintro r w4 ⟨rfl, hb4⟩; have HN4 := hid (HN3.out.later hb4); have HB4 := hid (HB3.out.trans (hb4.mono HB3.out.size)); have HA4 := hid (HAp.out w4 gv HN4.out); clear hb4 e0 e1 e2 e3 e4 e5 e6 e7)
        | (go_at_call 13; (with_reducible_and_instances (refine HA4.out.mono ?_)); rintro r w5 ⟨rfl, hb5⟩; have HN5 := hid (HN4.out.later hb5); have HB5 := hid (HB4.out.trans (hb5.mono HB4.out.size)); have HP5 := hid (HPl.out w5 gv HN5.out); have HT5 := hid (HTo.out w5 gv HN5.out); clear hb5)
        | (go_at_call 14; (with_reducible_and_instances (refine HP5.out.mono ?_)); rintro r w9 ⟨rfl, hw9⟩; obtain rfl := hw9.symm)
        | (go_at_call 15; (with_reducible_and_instances (refine HT5.out.mono ?_)); rintro r w6 ⟨⟨ta, tc, rfl⟩, hb6⟩; have HB6 := hid (HB5.out.trans (hb6.mono HB5.out.size)); have HN6 : Hid (NoB (w6.alloc (.cells #[.slice none 0 0, .map none] TBk)) (some ⟨w6.heap.size, 0, none⟩)) := NoB.of (Blk.new w6 _ _); have HB7 : Hid (Below W1.heap.size W1 (w6.alloc (.cells #[.slice none 0 0, .map none] TBk))) := HB6.out.alloc HB6.out.size _; clear hb6))
      exact ⟨⟨j + 1, _, by omega, by go_num, rfl, HN6, HB7⟩, by simp [intOf]; omega⟩
    · obtain rfl : j = 2 := by omega
      go_wp2_with (go_at_call 16; (with_reducible_and_instances (refine (HKn.out _).mono ?_)); rintro r w7 ⟨rfl, hb7⟩; have HB7 := hid (HB.out.trans (hb7.mono HB.out.size)); clear hb7)
      go_ret
      exact ⟨rfl, HB1.out.trans (HB7.out.mono HB1.out.size)⟩
end Go.Proofs.Ytkheifdigjajeaa
