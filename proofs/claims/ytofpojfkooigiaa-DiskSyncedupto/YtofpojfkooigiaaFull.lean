/- What Full of package law03 answers. -/
import Derived.Test.YtofpojfkooigiaaDiskN
import Derived.Test.YtofpojfkooigiaaFoot
import Derived.Deep.OwnRows
namespace Go.Proofs.Ytofpojfkooigiaa
open Go.RowKit

/-- 'make([]byte, n)': a new row of zeros. -/
theorem make_bytes (w : World) {ops : Array Oper} {rest : List Oper} {o : Oper} {a : Act} {Q : Exit → Act → World → Prop}
    (hg : o.guard = none) (l c : Operand) (hop : o.op = Op.makeSlice 32 l c) (n : Nat) (hl : a.eval l = .int .i64 (n : Int)) (hc : a.eval c = .int .i64 (n : Int)) (hn : n ≤ 281474976710656)
    (hK : ∀ w', w'.rowIs w.heap.size 5 n (fun _ => .int .u8 0) → Below w.heap.size w w' → wpList Try.prog ops Q rest (a.put o.dst (.slice (some ⟨w.heap.size, 0, none⟩) n n)) w') :
    wpList Try.prog ops Q (o :: rest) a w := by
  obtain ⟨i0, hi, hz0, hz1, hz2⟩ := info_parts Try.info5
  refine wpList_make_row w hg l c 32 hop 5 i0 (.int .u8 0) Try.underlying32 hi hz0 hz1 rfl .i64 .i64 n hl hc (by rw [hz2]; omega) (by omega) ?_
  exact hK _ (World.rowIs_made w _ n _) ((Below.refl _ _).alloc (Nat.le_refl _) _)
theorem own_row {w : World} {g N n : Nat} {l : List Nat} (hl : l.length = n) (hb : ∀ x ∈ l, x < 256) (h : w.rowIs g 5 n (fun j => .int .u8 (l.getD j 0 : Nat))) (hg : N ≤ g) (hn : n ≤ maxLen) : Own w N (.slice (some ⟨g, 0, none⟩) n n) l := by
  obtain ⟨c, hc, hs, he⟩ := h
  refine ⟨hb, by simp, Or.inr ⟨g, n, c, by rw [hl], hg, hc, by omega, hn, by omega, ?_⟩⟩
  apply List.ext_getElem?
  intro j
  by_cases hj : j < n
  · rw [List.getElem?_take, if_pos (by omega), Array.getElem?_toList, he j hj, List.getElem?_map, List.getElem?_eq_getElem (by omega)]
    simp [bv, List.getD_eq_getElem?_getD, List.getElem?_eq_getElem (show j < l.length by omega)]
  · rw [List.getElem?_take, if_neg (by omega), List.getElem?_eq_none (by simp; omega)]
theorem fullN_getD (c j : Nat) (h : j < 256) : (fullN c).getD j 0 = c := by
  rw [fullN, List.getD_eq_getElem?_getD, List.getElem?_replicate, if_pos h]; rfl
set_option maxRecDepth 100000 in
set_option maxHeartbeats 2000000 in
theorem full_any (c : Nat) (hc : c < 256) (w : World) :
    Calls Try.prog 22 #[.int .u8 c] w fun e w' => ∃ g, e = .returned (.slice (some ⟨g, 0, none⟩) 256 256) ∧ Own w' w.heap.size (.slice (some ⟨g, 0, none⟩) 256 256) (fullN c) ∧ Below w.heap.size w w' := by
  go_enter Try.func22, Try.ntmps22
  go_wp2_with (refine make_bytes _ rfl _ _ rfl 256 rfl rfl (by omega) ?_; intro w1 hrow hb; have HR : Hid (w1.rowIs w.heap.size 5 256 (fun _ => .int .u8 0)) := hrow; have HB : Hid (Below w.heap.size w w1) := hb; clear hrow hb)
  go_loopw [4] (fun i wr => ∃ j : Nat, j ≤ 256 ∧ i = .int .i64 j ∧ Hid (wr.rowIs w.heap.size 5 256 (fun k => if k < j then .int .u8 c else .int .u8 0)) ∧ Hid (Below w.heap.size w wr)) (fun i _ => 256 - (intOf i).toNat)
  case atStart => exact ⟨0, by omega, rfl, (show Hid _ from HR.out.congr (fun i _ => by simp)), HB⟩
  case round =>
    obtain ⟨j, hj, rfl, HR2, HB2⟩ := hrel
    clear HR HB
    by_cases hlt : j < 256
    · have hcell := HR2.out.cell hlt
      have hfr := HR2.out.frozen j
      go_wp2
      refine ⟨⟨j + 1, by omega, by go_num, (show Hid _ from (HR2.out.set j (.int .u8 c)).congr (fun i _ => ?_)), (show Hid _ from HB2.out.setCell (p := ⟨w.heap.size, j, none⟩) (Nat.le_refl _) _)⟩, by simp [intOf]; omega⟩
      by_cases e : i = j
      · subst e; simp
      · rw [if_neg e]
        by_cases e2 : i < j
        · rw [if_pos e2, if_pos (by omega)]
        · rw [if_neg e2, if_neg (by omega)]
    · obtain rfl : j = 256 := by omega
      go_wp2
      go_ret
      refine ⟨w.heap.size, rfl, own_row List.length_replicate (fullN_ok c hc).2 (HR2.out.congr (fun i hi => ?_)) (Nat.le_refl _) (by unfold maxLen; omega), HB2.out⟩
      rw [if_pos hi, fullN_getD c i hi]
end Go.Proofs.Ytofpojfkooigiaa
