/- Two events of package group, held against each other. -/
import Derived.Test.YtipgociofjokeaaGreatPGEv
import Derived.Laws.StructEq
namespace Go.Proofs.YtipgociofjokeaaGreat
open Go.RowKit

theorem nm_list (a : Nm) : (nmS a).toList = a := by unfold nmS; simp
set_option maxRecDepth 100000 in
theorem ev_fields : Tryz.prog.underlying TEv = some (.struct (Tryz.prog.fieldsOf TEv)) := by simp [Program.fieldsOf, Tryz.underlying31]
theorem ev_held : Tryz.prog.stoodInHeld TEv = false := by kernel_rfl
set_option maxRecDepth 100000 in
set_option maxHeartbeats 2000000 in
theorem ev_eql (x y : Ev) (W : World) : (binOp .eql TEv (.agg (evA x)) (.agg (evA y))).run Tryz.prog W = .ok (.bool (decide (x = y))) W := by
  obtain ⟨k, s, a, b, c, d, e, f, q⟩ := x
  obtain ⟨k', s', a', b', c', d', e', f', q'⟩ := y
  show (binOp .eql TEv (.agg #[.int .i64 k, .string (nmS s), .int .i64 a, .int .i64 b, .int .i64 c, .int .i64 d, .int .i64 e, .int .i64 f, .bool q]) (.agg #[.int .i64 k', .string (nmS s'), .int .i64 a', .int .i64 b', .int .i64 c', .int .i64 d', .int .i64 e', .int .i64 f', .bool q'])).run Tryz.prog W = _
  have hs : ((nmS s).toList == (nmS s').toList) = decide (s = s') := by rw [nm_list, nm_list]; by_cases h : s = s' <;> simp [h]
  generalize nmS s = t at *
  generalize nmS s' = t' at *
  rw [run_eql_struct, show (10000 : Nat) = 9999 + 1 from rfl, run_equalIn_struct _ _ _ _ _ ev_fields ev_held]
  simp only [Program.fieldsOf, Tryz.underlying31, Ev.mk.injEq]
  by_cases h1 : k = k'
  case neg => simp [Op.eqFields, go_sem, h1, Tryz.underlying3]
  by_cases h2 : s = s'
  case neg => simp [Op.eqFields, go_sem, h1, h2, hs, Tryz.underlying3, Tryz.underlying9]
  by_cases h3 : a = a'
  case neg => simp [Op.eqFields, go_sem, h1, h2, h3, hs, Tryz.underlying3, Tryz.underlying9]
  by_cases h4 : b = b'
  case neg => simp [Op.eqFields, go_sem, h1, h2, h3, h4, hs, Tryz.underlying3, Tryz.underlying9]
  by_cases h5 : c = c'
  case neg => simp [Op.eqFields, go_sem, h1, h2, h3, h4, h5, hs, Tryz.underlying3, Tryz.underlying9]
  by_cases h6 : d = d'
  case neg => simp [Op.eqFields, go_sem, h1, h2, h3, h4, h5, h6, hs, Tryz.underlying3, Tryz.underlying9]
  by_cases h7 : e = e'
  case neg => simp [Op.eqFields, go_sem, h1, h2, h3, h4, h5, h6, h7, hs, Tryz.underlying3, Tryz.underlying9]
  by_cases h8 : f = f'
  case neg => simp [Op.eqFields, go_sem, h1, h2, h3, h4, h5, h6, h7, h8, hs, Tryz.underlying3, Tryz.underlying9]
  by_cases h9 : q = q'
  case neg => simp [Op.eqFields, go_sem, h1, h2, h3, h4, h5, h6, h7, h8, h9, hs, Tryz.underlying3, Tryz.underlying9, Tryz.underlying4]
  simp [Op.eqFields, go_sem, h1, h2, h3, h4, h5, h6, h7, h8, h9, hs, Tryz.underlying3, Tryz.underlying9, Tryz.underlying4]
end Go.Proofs.YtipgociofjokeaaGreat
