/- The looks of package store: made, powerless, look, Tail, Free; fall. -/
import Derived.Test.YtikomnbhmmjfnaaGreatSPic
import Derived.Test.YtikomnbhmmjfnaaGreatDTake
namespace Go.Proofs.YtikomnbhmmjfnaaGreat
open Go.RowKit
variable {w w' : World} {FD G : List Nat} {S D X Y : Nat} {fx fy : Lit → Option Value} {A : Nat → Nat → Value} {s : SSt}

set_option maxRecDepth 100000 in
theorem SPic.lookY (h : SPic w FD G S D X Y fx fy A s) (i : Int) (h1 : -9223372036854775808 ≤ i) (h2 : i ≤ 9223372036854775807) : (Instr.lookup 53 (.map (some Y)) (.int .i64 i) false).run Tryz.prog w = .ok (logV (s.look i)) w := by
  have hk : keyOf Tryz.prog 3 (.int .i64 i) = some (.int .i64 i) := Maps.keyOf_int_mk Tryz.underlying3 (by have e1 : IntKind.i64.min = -9223372036854775808 := rfl; have e2 : IntKind.i64.max = 9223372036854775807 := rfl; simp [Lit.wf, e1, e2]; omega)
  rw [h.hY.look keyI Tryz.underlying53 (Tryz.zeroValue96 w) hk]
  congr 1
  unfold SSt.look
  by_cases h0 : 0 ≤ i
  · rw [if_pos h0]
    obtain ⟨n, rfl⟩ : ∃ n : Nat, i = n := ⟨i.toNat, by omega⟩
    have := h.getY n
    unfold kI at this
    rw [this]
    unfold SSt.log
    simp only [Int.toNat_natCast]
    cases s.logs n <;> rfl
  · rw [if_neg h0]
    cases hf : fy (.int .i64 i) with
    | none => rfl
    | some v =>
      obtain ⟨n, _, e⟩ := h.supY _ _ hf
      unfold kI at e
      injection e with _ e
      omega
set_option maxRecDepth 100000 in
set_option maxHeartbeats 1000000 in
theorem smade_pic (h : SPic w FD G S D X Y fx fy A s) : Calls Tryz.prog 47 #[.pointer (some ⟨S, 0, none⟩)] w fun e w' => e = .returned (.bool true) ∧ w' = w := by
  obtain ⟨c0, -⟩ := h.cells
  clear h
  go_enter Tryz.func47, Tryz.ntmps47
  go_wp2
  all_goals go_ret
  all_goals simp
set_option maxRecDepth 100000 in
set_option maxHeartbeats 1000000 in
theorem powerless_pic (h : SPic w FD G S D X Y fx fy A s) : Calls Tryz.prog 51 #[.pointer (some ⟨S, 0, none⟩)] w fun e w' => e = .returned (.bool s.down) ∧ w' = w := by
  obtain ⟨c0, -, -, -, -, c5⟩ := h.cells
  obtain ⟨B, M, Dm, V, C, hd⟩ := h.disk
  have hdn := down_pic hd
  unfold SSt.down
  generalize s.d.off = off at *
  generalize s.fallen = fallen at *
  clear h hd
  cases fallen
  · go_enter Tryz.func51, Tryz.ntmps51
    go_wp2_with (go_at_call 40; refine hdn.mono ?_; rintro e w' ⟨rfl, hw'⟩; obtain rfl := hw'.symm)
    all_goals go_ret
    all_goals simp
  · go_enter Tryz.func51, Tryz.ntmps51
    go_wp2
    all_goals go_ret
    all_goals simp
set_option maxRecDepth 100000 in
set_option maxHeartbeats 1000000 in
theorem look_pic (h : SPic w FD G S D X Y fx fy A s) (i : Int) (h1 : -9223372036854775808 ≤ i) (h2 : i ≤ 9223372036854775807) : Calls Tryz.prog 55 #[.pointer (some ⟨S, 0, none⟩), .int .i64 i] w fun e w' => e = .returned (logV (s.look i)) ∧ Below w.heap.size w w' := by
  obtain ⟨-, -, c2, -⟩ := h.cells
  have b1 : Below w.heap.size w (w.alloc (.cells #[.int .i64 0, .int .i64 0, .bool false] 96)) := (Below.refl _ w).alloc (Nat.le_refl _) _
  have h3 := h.below b1
  obtain ⟨-, -, c2', -⟩ := h3.cells
  have hm := smade_pic h3
  have hl := h3.lookY i h1 h2
  have hS := h.ltS
  unfold logV at *
  generalize s.look i = x at *
  clear h h3 b1
  go_enter Tryz.func55, Tryz.ntmps55
  go_wp2_with (go_at_call 47; refine hm.mono ?_; rintro e w' ⟨rfl, hw'⟩; obtain rfl := hw'.symm)
  refine bodyPost_ret (v := .agg #[.int .i64 (x.tail : Int), .int .i64 (x.trim : Int), .bool x.sealed]) (by simp [results, Tryz.results55, go_sem]) rfl ⟨rfl, ?_⟩
  exact (Below.refl _ w).alloc (Nat.le_refl _) _
set_option maxRecDepth 100000 in
set_option maxHeartbeats 1000000 in
theorem fld52 (a b c : Value) (W : World) : (Instr.field 96 (.agg #[a, b, c]) 0).run Tryz.prog W = .ok a W ∧ (Instr.field 96 (.agg #[a, b, c]) 1).run Tryz.prog W = .ok b W ∧ (Instr.field 96 (.agg #[a, b, c]) 2).run Tryz.prog W = .ok c W := by
  refine ⟨?_, ?_, ?_⟩ <;> simp [Instr.field, go_sem, asAgg]
set_option maxRecDepth 100000 in
set_option maxHeartbeats 1000000 in
theorem tail_pic (h : SPic w FD G S D X Y fx fy A s) (i : Int) (h1 : -9223372036854775808 ≤ i) (h2 : i ≤ 9223372036854775807) : Calls Tryz.prog 18 #[.pointer (some ⟨S, 0, none⟩), .int .i64 i] w fun e w' => e = .returned (.int .i64 ((s.look i).tail : Nat)) ∧ Below w.heap.size w w' := by
  have hl := look_pic h i h1 h2
  unfold logV at hl
  have hf := fun W => (fld52 (.int .i64 ((s.look i).tail : Int)) (.int .i64 ((s.look i).trim : Int)) (.bool (s.look i).sealed) W).1
  clear h
  go_enter Tryz.func18, Tryz.ntmps18
  go_wp2_with (go_at_call 55; refine hl.mono ?_; rintro e w' ⟨rfl, hb⟩)
  go_ret
  exact ⟨rfl, hb⟩
set_option maxRecDepth 100000 in
set_option maxHeartbeats 1000000 in
theorem fall_pic (h : SPic w FD G S D X Y fx fy A s) : Calls Tryz.prog 81 #[.pointer (some ⟨S, 0, none⟩)] w fun e w' => e = .returned (.int .i64 8) ∧ SPic w' FD G S D X Y fx fy A { s with fallen := true } ∧ Chg [S] w w' := by
  obtain ⟨-, -, -, -, -, c5⟩ := h.cells
  have f5 := h.free 5
  have hc : Chg [S] w (w.setCell ⟨S, 5, none⟩ (.bool true)) := (Chg.refl [S] w).set (Or.inl (by simp)) _ _
  have HP : Hid (SPic w FD G S D X Y fx fy A s) := h
  clear h
  go_enter Tryz.func81, Tryz.ntmps81
  go_wp2
  go_ret
  exact ⟨rfl, HP.out.setS hc (heap_setCell_same w S 5 _ TS _ HP.out.hS) rfl rfl ⟨HP.out.ok.slots, HP.out.ok.logs, HP.out.ok.num, HP.out.ok.fin⟩, hc⟩
end Go.Proofs.YtikomnbhmmjfnaaGreat
