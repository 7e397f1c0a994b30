/- slices.Grow of nil bytes: a new row with room, and nothing in it. -/
import Derived.Test.YtikomnbhmmjfnaaGreatDiskN
import Derived.Test.YtikomnbhmmjfnaaGreatWide2
import Derived.Lib.AppendZerosOnto
namespace Go.Proofs.YtikomnbhmmjfnaaGreat
open Go.RowKit

theorem app_make {w : World} {ops : Array Oper} {rest : List Oper} {o : Oper} {a : Act} {Q : Exit → Act → World → Prop} (hgd : o.guard = none) (x y : Operand) (ho : o.op = .call { callee := .builtin .append, args := #[x, y], argTypes := #[28, 3] })
    (hx : a.eval x = .slice none 0 0) (n : Nat) (hy : a.eval y = .int .i64 (n : Int)) (h0 : 0 < n) (hn : n ≤ 1073741824)
    (hK : ∀ c w', n ≤ c → c ≤ maxLen → w'.ownsRow w.heap.size 5 1 (.slice (some ⟨w.heap.size, 0, none⟩) 0 c) 0 [] → Below w.heap.size w w' → wpList Tryz.prog ops Q rest (a.put o.dst (.slice (some ⟨w.heap.size, 0, none⟩) n c)) w') : wpList Tryz.prog ops Q (o :: rest) a w := by
  obtain ⟨i0, hi, hz0, hz1, hz2⟩ := info_parts Tryz.info5
  have hfit : Builtin.nextslicecap (0 + n) 0 * i0.bytes ≤ 281474976710656 := by rw [hz2]; exact growslice_fits (by omega) (by omega)
  have hrun := Lib.run_append_grow_zeros (P := Tryz.prog) w 28 3 o.type 5 i0 (.int .u8 0) .i64 .i64 Tryz.underlying28 Tryz.underlying3 hi hz0 none 0 0 [] (by simp [Builtin.firstCells]) n h0 (by rw [hz1]; omega) (by omega) (by omega) (by rw [hz2]; omega) hfit
  rw [Nat.zero_add] at hrun
  have hc := grownCap_ge w n 0 5
  have hcm := grownCap_le_maxLen w n 0 5 (by unfold maxLen; omega)
  generalize grownCap w n 0 5 = c at *
  refine wpList_plain hgd fun K hK' => ?_
  unfold Oper.wp
  simp only [execOp, ho, resolve, invoke, builtin]
  simp [hx, hy, hrun, Result.andThen]
  refine hK' _ _ (hK c _ hc hcm ?_ ?_)
  · refine ⟨by simp, Or.inr ⟨w.heap.size, c, _, rfl, Nat.le_refl _, heap_alloc_last _ _, by omega, hcm, ?_, by simp⟩⟩
    simp [Builtin.zeroCells, Value.cells]
    omega
  · exact ((Below.refl _ w).drew).alloc (Nat.le_refl _) _
set_option maxRecDepth 100000 in
set_option maxHeartbeats 1000000 in
theorem grow_any (n : Nat) (w : World) (hn : n ≤ 1073741824) : Calls Tryz.prog 130 #[.slice none 0 0, .int .i64 (n : Int)] w fun e w' => ∃ v, e = .returned v ∧ w'.ownsRow w.heap.size 5 1 v 0 [] ∧ Below w.heap.size w w' := by
  by_cases h0 : n = 0
  · subst h0
    go_enter Tryz.func130, Tryz.ntmps130
    go_wp2
    go_ret
    exact ⟨_, rfl, World.ownsRow_nil _ _ _ _, Below.refl _ _⟩
  · have h1 : 0 < n := by omega
    go_enter Tryz.func130, Tryz.ntmps130
    go_wp2_with (at_builtin; refine app_make rfl _ _ rfl rfl n rfl h1 hn ?_; intro c w1 hc hcm o1 b1)
    go_ret
    exact ⟨_, rfl, o1, b1⟩
end Go.Proofs.YtikomnbhmmjfnaaGreat
