/- No book, and one that nobody made: what its calls answer. -/
import Derived.Test.YtkheifdigjajeaaTFace
namespace Go.Proofs.Ytkheifdigjajeaa
open Go.RowKit
variable {w w' : World}

/-- Nobody made what gv points at. -/
def NoB (w : World) (gv : Option Addr) : Prop := ∀ W, Below w.heap.size w W → Calls Try.prog 19 #[.pointer gv] W fun e w' => e = .returned (.bool false) ∧ w' = W
theorem NoB.later {gv : Option Addr} (h : NoB w gv) (hb : Below w.heap.size w w') : NoB w' gv := fun W hW => h W (hb.trans (hW.mono hb.size))
theorem NoB.nil (w : World) : NoB w none := fun W _ => made_nil W
theorem NoB.of {g : Nat} (h : Blk w g #[.slice none 0 0, .map none] TBk) : NoB w (some ⟨g, 0, none⟩) := fun _ hW => made_not ((h.later hW).cell 1)
variable {gv : Option Addr}
set_option maxRecDepth 100000 in
theorem Decide_nil (h : NoB w gv) (x : Ev) : Calls Try.prog 8 #[.pointer gv, .agg (evA x)] w fun e w' => e = .returned (.tuple #[.bool false, .int .i64 1]) ∧ Below w.heap.size w w' := by
  obtain ⟨k, nm, a, b, cc, d, e, q⟩ := x
  show Calls Try.prog 8 #[.pointer gv, .agg #[.int .i64 k, .string (nmS nm), .int .i64 a, .int .i64 b, .int .i64 cc, .int .i64 d, .int .i64 e, .bool q]] w _
  generalize nmS nm = t
  obtain ⟨W1, hW1⟩ : ∃ W1, w.alloc (.cells #[.int .i64 k, .string t, .int .i64 a, .int .i64 b, .int .i64 cc, .int .i64 d, .int .i64 e, .bool q] TEv) = W1 := ⟨_, rfl⟩
  have b1 : Below w.heap.size w W1 := by rw [← hW1]; exact (Below.refl _ _).alloc (Nat.le_refl _) _
  have HB1 := hid b1
  have HM := hid (h W1 b1)
  clear h b1
  go_enter Try.func8, Try.ntmps8
  go_wp2_with (go_at_call 19; (with_reducible_and_instances (refine HM.out.mono ?_)); rintro r w9 ⟨rfl, hw9⟩; obtain rfl := hw9.symm)
  refine bodyPost_ret (results_tmp2 Try.results8 _ _ _) rfl ⟨rfl, HB1.out⟩
set_option maxRecDepth 100000 in
theorem Apply_nil (h : NoB w gv) (x : Ev) : Calls Try.prog 13 #[.pointer gv, .agg (evA x)] w fun e w' => e = .returned (.int .i64 1) ∧ Below w.heap.size w w' := by
  have HD : Hid (∀ W, Below w.heap.size w W → Calls Try.prog 8 #[.pointer gv, .agg (evA x)] W fun e w' => e = .returned (.tuple #[.bool false, .int .i64 1]) ∧ Below W.heap.size W w') := fun W hW => Decide_nil (h.later hW) x
  clear h
  obtain ⟨k, nm, a, b, cc, d, e, q⟩ := x
  dsimp only [evA] at HD ⊢
  obtain ⟨t, ht⟩ : ∃ t, nmS nm = t := ⟨_, rfl⟩
  rw [ht] at HD ⊢
  obtain ⟨W1, hW1⟩ : ∃ W1, w.alloc (.cells #[.int .i64 k, .string t, .int .i64 a, .int .i64 b, .int .i64 cc, .int .i64 d, .int .i64 e, .bool q] TEv) = W1 := ⟨_, rfl⟩
  have b1 : Below w.heap.size w W1 := by rw [← hW1]; exact (Below.refl _ _).alloc (Nat.le_refl _) _
  have x1 : Blk W1 w.heap.size #[.int .i64 k, .string t, .int .i64 a, .int .i64 b, .int .i64 cc, .int .i64 d, .int .i64 e, .bool q] TEv := by rw [← hW1]; exact heap_alloc_new w _
  have y0 : W1.cell? ⟨w.heap.size, 0, none⟩ = some (.int .i64 k) := x1.cell 0
  have y1 : W1.cell? ⟨w.heap.size, 1, none⟩ = some (.string t) := x1.cell 1
  have y2 : W1.cell? ⟨w.heap.size, 2, none⟩ = some (.int .i64 a) := x1.cell 2
  have y3 : W1.cell? ⟨w.heap.size, 3, none⟩ = some (.int .i64 b) := x1.cell 3
  have y4 : W1.cell? ⟨w.heap.size, 4, none⟩ = some (.int .i64 cc) := x1.cell 4
  have y5 : W1.cell? ⟨w.heap.size, 5, none⟩ = some (.int .i64 d) := x1.cell 5
  have y6 : W1.cell? ⟨w.heap.size, 6, none⟩ = some (.int .i64 e) := x1.cell 6
  have y7 : W1.cell? ⟨w.heap.size, 7, none⟩ = some (.bool q) := x1.cell 7
  have HB1 := hid b1
  clear x1 b1
  go_enter Try.func13, Try.ntmps13
  go_wp2_with (go_at_call 8; (with_reducible_and_instances (refine (HD.out _ HB1.out).mono ?_)); rintro r w2 ⟨rfl, hb2⟩; have HB2 := hid hb2; clear hb2)
  go_ret
  exact ⟨rfl, HB1.out.trans (HB2.out.mono HB1.out.size)⟩
set_option maxRecDepth 100000 in
theorem Find_nil (h : NoB w gv) (t : ByteArray) : Calls Try.prog 10 #[.pointer gv, .string t] w fun e w' => e = .returned (.tuple #[.int .i64 0, .int .i64 0, .bool false]) ∧ w' = w := by
  have HM := hid (h w (Below.refl _ _))
  clear h
  go_enter Try.func10, Try.ntmps10
  go_wp2_with (go_at_call 19; (with_reducible_and_instances (refine HM.out.mono ?_)); rintro r w9 ⟨rfl, hw9⟩; obtain rfl := hw9.symm)
  refine bodyPost_ret (results_tmp3 Try.results10 _ _ _) rfl ⟨rfl, rfl⟩
set_option maxRecDepth 100000 in
theorem at_nil (h : NoB w gv) (n : Int) : Calls Try.prog 22 #[.pointer gv, .int .i64 n] w fun e w' => e = .returned (.pointer none) ∧ w' = w := by
  have HM := hid (h w (Below.refl _ _))
  clear h
  go_enter Try.func22, Try.ntmps22
  go_wp2_with (go_at_call 19; (with_reducible_and_instances (refine HM.out.mono ?_)); rintro r w9 ⟨rfl, hw9⟩; obtain rfl := hw9.symm)
  go_ret
  exact ⟨rfl, rfl⟩
set_option maxRecDepth 100000 in
theorem Status_nil (h : NoB w gv) (n : Int) : Calls Try.prog 11 #[.pointer gv, .int .i64 n] w fun e w' => e = .returned (.tuple #[.int .i64 0, .int .i64 0, .bool false]) ∧ w' = w := by
  have HA := hid (at_nil h n)
  clear h
  go_enter Try.func11, Try.ntmps11
  go_wp2_with (go_at_call 22; (with_reducible_and_instances (refine HA.out.mono ?_)); rintro r w9 ⟨rfl, hw9⟩; obtain rfl := hw9.symm)
  refine bodyPost_ret (results_tmp3 Try.results11 _ _ _) rfl ⟨rfl, rfl⟩
set_option maxRecDepth 100000 in
theorem Places_nil (h : NoB w gv) (n : Int) : Calls Try.prog 14 #[.pointer gv, .int .i64 n] w fun e w' => e = .returned (.slice none 0 0) ∧ w' = w := by
  have HA := hid (at_nil h n)
  clear h
  go_enter Try.func14, Try.ntmps14
  go_wp2_with (go_at_call 22; (with_reducible_and_instances (refine HA.out.mono ?_)); rintro r w9 ⟨rfl, hw9⟩; obtain rfl := hw9.symm)
  go_ret
  exact ⟨rfl, rfl⟩
theorem todos_nil (h : NoB w gv) {W1 : World} (hb : Below w.heap.size w W1) : SeqM Try.prog 25 #[.pointer gv] #[] KpT (fun _ _ => True) (TdL []) 0 W1 := by
  intro q J Jx W hW _ _ _ _ h0
  have HM := hid (h W (hb.trans (hW.mono hb.size)))
  have H0 := hid h0
  clear h hW hb h0
  refine callsIn_of_wp Try.func25 rfl trivial ?_ rfl
  simp only [Try.ntmps25, List.size_toArray, List.length_cons, List.length_nil, Nat.reduceAdd, Nat.reduceSub, Array.replicate_succ, Array.replicate_zero, List.push_toArray, List.append_toArray, List.nil_append, List.cons_append]
  gi_wp2_with (refine ⟨trivial, ?_⟩; gi_at_call 19; refine (callsIn_wide.2 HM.out).mono ?_; rintro e w2 ⟨rfl, hw2⟩; obtain rfl := hw2.symm)
  refine bodyPost_ret (results_none rfl _ _ _) rfl ⟨⟨_, rfl⟩, .inl H0.out⟩
theorem Todo_nil (h : NoB w gv) : Calls Try.prog 15 #[.pointer gv] w fun e w' => (∃ ad c, e = .returned (.slice ad 0 c)) ∧ Below w.heap.size w w' := by
  refine (Todo_core (L := []) (K := fun _ => True) (by simp) (todos_nil h ((Below.refl _ w).alloc (Nat.le_refl _) _)) (fun _ _ => trivial)).mono ?_
  rintro e w' ⟨u, rfl, h1, h2⟩
  obtain ⟨ad, c, rfl, -⟩ := h1.form kTd_ok.tofit
  exact ⟨⟨ad, c, rfl⟩, h2⟩
end Go.Proofs.Ytkheifdigjajeaa
