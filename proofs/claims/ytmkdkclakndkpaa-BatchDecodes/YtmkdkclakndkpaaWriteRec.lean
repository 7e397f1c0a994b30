/- What the writer's methods record and head do. -/
import Derived.Test.YtmkdkclakndkpaaWriter
import Derived.Test.YtmkdkclakndkpaaPack
namespace Go.Proofs.Ytmkdkclakndkpaa
open Go.RowKit

/-- In w the block C is a Record in a box. -/
def RBox (w : World) (C : Nat) (r : Rec) : Prop := w.heap[C]? = some (.cells #[.string r.key, .string r.val, .bool r.dead] 51 (0, 0))
variable {w w' : World} {N B C : Nat} {r : Rec}
theorem RBox.c0 (h : RBox w C r) : w.cell? ⟨C, 0, none⟩ = some (.string r.key) := by rw [cell_of_row w C 0 _ _ _ h]; rfl
theorem RBox.c1 (h : RBox w C r) : w.cell? ⟨C, 1, none⟩ = some (.string r.val) := by rw [cell_of_row w C 1 _ _ _ h]; rfl
theorem RBox.c2 (h : RBox w C r) : w.cell? ⟨C, 2, none⟩ = some (.bool r.dead) := by rw [cell_of_row w C 2 _ _ _ h]; rfl
theorem Keep.rbox (h : Keep N w w') (hb : RBox w C r) : RBox w' C r := h.typed _ _ _ _ hb (by decide) (by decide)
theorem spell_dead (d : Bool) : spellN (if d then 1 else 0) 1 = [if d then 1 else 0] := by cases d <;> rfl
set_option maxHeartbeats 1000000 in
theorem record_any (r : Rec) (w : World) (N B : Nat) (v : Value) (L : List Nat) (h : Wr w N B v L) (h1 : r.key.size ≤ 1000) (h2 : r.val.size ≤ 4000) (hL : L.length ≤ 900000) :
    Calls Try.prog 28 #[.pointer (some ⟨B, 0, none⟩), .agg #[.string r.key, .string r.val, .bool r.dead]] w fun e w' => ∃ v', e = .returned (.tuple #[]) ∧ Wr w' N B v' (L ++ recBs r) ∧ Keep N w w' := by
  have bA : Below w.heap.size w (w.alloc (.cells #[.string r.key, .string r.val, .bool r.dead] 51)) := (Below.refl _ _).alloc (Nat.le_refl _) _
  have X0 : Hid (Wr (w.alloc (.cells #[.string r.key, .string r.val, .bool r.dead] 51)) N B v L) := h.later bA
  have B0 : Hid (Keep N w (w.alloc (.cells #[.string r.key, .string r.val, .bool r.dead] 51))) := Keep.of bA (Nat.le_trans h.le (Nat.le_of_lt h.lt))
  have R0 : Hid (RBox (w.alloc (.cells #[.string r.key, .string r.val, .bool r.dead] 51)) w.heap.size r) := heap_alloc_new w _
  have HE : Hid (L ++ spellN (if r.dead then 1 else 0) 1 ++ (spellN r.key.size 2 ++ sbytes r.key) ++ (spellN r.val.size 2 ++ sbytes r.val) = L ++ recBs r) := by
    show _ = _
    rw [spell_dead, recBs, List.append_assoc, List.append_assoc]
  have n1 : ((if r.dead then 1 else 0 : Nat)) < 2 ^ (8 * 1) := by cases r.dead <;> decide
  have l1 : (L ++ spellN (if r.dead then 1 else 0) 1).length = L.length + 1 := by rw [List.length_append, spellN_length]
  have l2 : (L ++ spellN (if r.dead then 1 else 0) 1 ++ (spellN r.key.size 2 ++ sbytes r.key)).length = L.length + 1 + (2 + r.key.size) := by rw [List.length_append, l1, List.length_append, spellN_length, sbytes_length]
  clear h bA
  obtain ⟨rk, rv, rd⟩ := r
  simp only at *
  cases rd
  all_goals
    simp only [Bool.false_eq_true, if_true, if_false] at HE n1 l1 l2
    go_enter Try.func28, Try.ntmps28
    go_wp2_with fail
    refine (wnumber_at _ _ _ 1 _ N B v L (by rfl) (by rfl) X0.out (by omega) (by omega) n1 (by omega)).mono ?_
    rintro x w1 ⟨v1, rfl, W1, K1⟩
    have X1 : Hid (Wr w1 N B v1 _) := W1
    have B1 : Hid (Keep N w w1) := B0.out.trans K1
    have R1 : Hid (RBox w1 w.heap.size ⟨rk, rv, _⟩) := K1.rbox R0.out
    have c0 := R1.out.c0
    clear W1 K1 X0 B0 R0
    go_wp2_with fail
    refine (text_wr rk _ N B v1 _ X1.out (by omega) (by omega)).mono ?_
    rintro x w2 ⟨v2, rfl, W2, K2⟩
    have X2 : Hid (Wr w2 N B v2 _) := W2
    have B2 : Hid (Keep N w w2) := B1.out.trans K2
    have R2 : Hid (RBox w2 w.heap.size ⟨rk, rv, _⟩) := K2.rbox R1.out
    have c1 := R2.out.c1
    clear W2 K2 X1 B1 R1 c0
    go_wp2_with fail
    refine (text_wr rv _ N B v2 _ X2.out (by omega) (by omega)).mono ?_
    rintro x w3 ⟨v3, rfl, W3, K3⟩
    rw [HE.out] at W3
    have X3 : Hid (Wr w3 N B v3 _) := W3
    have B3 : Hid (Keep N w w3) := B2.out.trans K3
    clear W3 K3 X2 B2 R2 c1
    go_wp2
    go_end0
    exact ⟨_, rfl, X3.out, B3.out⟩
end Go.Proofs.Ytmkdkclakndkpaa
