/- Small contracts of package txn about events: isName, isTimeout, numbers. -/
import Derived.Test.YteogogmmnijagaaTEv
import Derived.WalkLawsBesides
import Derived.Laws.StructEq
namespace Go.Proofs.Yteogogmmnijagaa
open Go.RowKit
variable {w w' : World}

/-- An event's cells. -/
abbrev evA (x : Ev) : Array Value := #[.int .i64 x.kind, .string (nmS x.name), .int .i64 x.prod, .int .i64 x.ep, .int .i64 x.place, .int .i64 x.tmo, .int .i64 x.now, .bool x.yes]
abbrev TEv : TypeId := 30
theorem isName_any (s : Nm) (w : World) : Calls Try.prog 25 #[.string (nmS s)] w fun e w' => e = .returned (.bool (nameOk s)) ∧ w' = w := by
  have hz : (nmS s).size = s.length := by simp [nmS, ByteArray.size]
  have HV : Hid (nameOk s = (decide (1 ≤ s.length) && decide (s.length ≤ 64))) := hid rfl
  by_cases h : 1 ≤ s.length
  · have d1 : decide (1 ≤ s.length) = true := by simpa using h
    generalize nmS s = t at *
    generalize s.length = m at *
    subst hz
    go_enter Try.func25, Try.ntmps25
    go_wp2_with fail
    go_ret
    exact ⟨by rw [HV.out, d1]; simp; omega, rfl⟩
  · have d1 : decide (1 ≤ s.length) = false := by simpa using h
    generalize nmS s = t at *
    generalize s.length = m at *
    subst hz
    go_enter Try.func25, Try.ntmps25
    go_wp2_with fail
    go_ret
    exact ⟨by rw [HV.out, d1]; simp, rfl⟩
theorem isTimeout_any (n : Int) (w : World) : Calls Try.prog 26 #[.int .i64 n] w fun e w' => e = .returned (.bool (tmoOk n)) ∧ w' = w := by
  have HV : Hid (tmoOk n = (decide (1 ≤ n) && decide (n ≤ 3600))) := hid rfl
  by_cases h : 1 ≤ n
  · have d1 : decide (1 ≤ n) = true := by simpa using h
    go_enter Try.func26, Try.ntmps26
    go_wp2_with fail
    go_ret
    exact ⟨by rw [HV.out, d1]; simp, rfl⟩
  · have d1 : decide (1 ≤ n) = false := by simpa using h
    go_enter Try.func26, Try.ntmps26
    go_wp2_with fail
    go_ret
    exact ⟨by rw [HV.out, d1]; simp, rfl⟩
theorem numbers_any (x : Ev) (w : World) : Calls Try.prog 27 #[.agg (evA x)] w fun e w' => e = .returned (.agg #[.int .i64 x.prod, .int .i64 x.ep, .int .i64 x.place, .int .i64 x.tmo, .int .i64 x.now]) ∧ Below w.heap.size w w' := by
  obtain ⟨k, s, a, b, c, d, e, y⟩ := x
  show Calls Try.prog 27 #[.agg #[.int .i64 k, .string (nmS s), .int .i64 a, .int .i64 b, .int .i64 c, .int .i64 d, .int .i64 e, .bool y]] w fun r w' => r = .returned (.agg #[.int .i64 a, .int .i64 b, .int .i64 c, .int .i64 d, .int .i64 e]) ∧ Below w.heap.size w w'
  generalize nmS s = t
  go_enter Try.func27, Try.ntmps27
  go_wp2_with fail
  refine bodyPost_ret (v := .agg #[.int .i64 a, .int .i64 b, .int .i64 c, .int .i64 d, .int .i64 e]) (by simp [results, Try.results27, go_sem]) rfl ⟨rfl, ?_⟩
  exact ((Below.refl _ w).alloc (Nat.le_refl _) _).alloc (by simp) _
theorem nm_list (a : Nm) : (nmS a).toList = a := by unfold nmS; simp
set_option maxRecDepth 100000 in
theorem ev_fields : Try.prog.underlying TEv = some (.struct (Try.prog.fieldsOf TEv)) := by simp [Program.fieldsOf, Try.underlying30]
theorem ev_held : Try.prog.stoodInHeld TEv = false := by kernel_rfl
set_option maxRecDepth 100000 in
set_option maxHeartbeats 2000000 in
theorem ev_eql (x y : Ev) (W : World) : (binOp .eql TEv (.agg (evA x)) (.agg (evA y))).run Try.prog W = .ok (.bool (decide (x = y))) W := by
  obtain ⟨k, s, a, b, c, d, e, q⟩ := x
  obtain ⟨k', s', a', b', c', d', e', q'⟩ := y
  show (binOp .eql TEv (.agg #[.int .i64 k, .string (nmS s), .int .i64 a, .int .i64 b, .int .i64 c, .int .i64 d, .int .i64 e, .bool q]) (.agg #[.int .i64 k', .string (nmS s'), .int .i64 a', .int .i64 b', .int .i64 c', .int .i64 d', .int .i64 e', .bool q'])).run Try.prog W = _
  have hs : ((nmS s).toList == (nmS s').toList) = decide (s = s') := by rw [nm_list, nm_list]; by_cases h : s = s' <;> simp [h]
  generalize nmS s = t at *
  generalize nmS s' = t' at *
  rw [run_eql_struct, show (10000 : Nat) = 9999 + 1 from rfl, run_equalIn_struct _ _ _ _ _ ev_fields ev_held]
  simp only [Program.fieldsOf, Try.underlying30, Ev.mk.injEq]
  by_cases h1 : k = k'
  case neg => simp [Op.eqFields, go_sem, h1, Try.underlying3]
  by_cases h2 : s = s'
  case neg => simp [Op.eqFields, go_sem, h1, h2, hs, Try.underlying3, Try.underlying9]
  by_cases h3 : a = a'
  case neg => simp [Op.eqFields, go_sem, h1, h2, h3, hs, Try.underlying3, Try.underlying9]
  by_cases h4 : b = b'
  case neg => simp [Op.eqFields, go_sem, h1, h2, h3, h4, hs, Try.underlying3, Try.underlying9]
  by_cases h5 : c = c'
  case neg => simp [Op.eqFields, go_sem, h1, h2, h3, h4, h5, hs, Try.underlying3, Try.underlying9]
  by_cases h6 : d = d'
  case neg => simp [Op.eqFields, go_sem, h1, h2, h3, h4, h5, h6, hs, Try.underlying3, Try.underlying9]
  by_cases h7 : e = e'
  case neg => simp [Op.eqFields, go_sem, h1, h2, h3, h4, h5, h6, h7, hs, Try.underlying3, Try.underlying9]
  by_cases h9 : q = q'
  case neg => simp [Op.eqFields, go_sem, h1, h2, h3, h4, h5, h6, h7, h9, hs, Try.underlying3, Try.underlying9, Try.underlying4]
  simp [Op.eqFields, go_sem, h1, h2, h3, h4, h5, h6, h7, h9, hs, Try.underlying3, Try.underlying9, Try.underlying4]
end Go.Proofs.Yteogogmmnijagaa
