/- What the statements' helpers num and knows answer: the error's number; true. -/
import Derived.Test.YthfildanpcmfaabFrame
import Derived.Lib.SlBytesConst
namespace Go.Proofs.Ythfildanpcmfaab
open Go.RowKit Crcm

theorem num_any (n : Int) (w : World) : Calls Try.prog 9 #[.int .i64 n] w fun e w' => e = .returned (.int .i64 n) ∧ w' = w := by
  go_enter Try.func9, Try.ntmps9
  go_wp2
  go_ret
  exact ⟨rfl, rfl⟩

theorem put_known : putN 258 2 = (0, [2, 1]) := by decide +kernel
theorem frame_known : (frameN 7 []).1 = 0 ∧ (frameN 7 []).2.length = 9 ∧ (frameN 7 []).2.getD 0 0 = 7 := by decide +kernel

def digits : List Nat := [49, 50, 51, 52, 53, 54, 55, 56, 57]
theorem digits_row (w : World) : Row (w.alloc (.cells #[.int .u8 49, .int .u8 50, .int .u8 51, .int .u8 52, .int .u8 53, .int .u8 54, .int .u8 55, .int .u8 56, .int .u8 57] 5 (9, 10))) (some ⟨w.heap.size, 0, none⟩) digits := by
  refine ⟨by decide, Or.inr ⟨w.heap.size, 0, rfl, by simp, ?_⟩⟩
  intro i hi
  have hi' : i < 9 := hi
  rw [cell_of_row _ w.heap.size _ _ 5 (9, 10) (heap_alloc_new w _)]
  rcases (show i = 0 ∨ i = 1 ∨ i = 2 ∨ i = 3 ∨ i = 4 ∨ i = 5 ∨ i = 6 ∨ i = 7 ∨ i = 8 by omega) with rfl | rfl | rfl | rfl | rfl | rfl | rfl | rfl | rfl <;> rfl

set_option maxHeartbeats 1000000 in
theorem knows_any (w : World) : Calls Try.prog 10 #[] w fun e w' => e = .returned (.bool true) ∧ Below w.heap.size w w' := by
  go_enter Try.func10, Try.ntmps10
  go_wp2_with fail
  refine (put_any 258 2 _).mono ?_
  rintro e w1 ⟨v1, rfl, own1, b1⟩
  rw [put_known] at own1 ⊢
  obtain ⟨a1, c1, rfl, ok1, -⟩ := own1.slice 2 rfl
  have O1 : Hid (Part.ok w1 ⟨a1, 2, c1, [2, 1]⟩) := ok1
  clear ok1 own1
  go_wp2_with fail
  refine (frame_any 7 none 0 0 [] _ ⟨rfl, fun _ => ⟨rfl, rfl⟩, fun _ h => (by cases h), Or.inl rfl⟩ (by unfold maxLen; omega)).mono ?_
  rintro e w2 ⟨v2, rfl, own2, b2⟩
  obtain ⟨f1, f2, f3⟩ := frame_known
  rw [f1]
  obtain ⟨a2, c2, rfl, ok2, -⟩ := own2.slice 9 f2
  obtain ⟨b, off, rfl, -, hcell⟩ := ok2.cells (by omega)
  have hc0 := hcell 0 (by omega)
  rw [f3, Nat.add_zero] at hc0
  have hcv := conv_any (O1.out.later b2).2.2 2 c1 rfl
  have hs : bstr [2, 1] = ⟨#[2, 1]⟩ := rfl
  simp only [hs] at hcv
  have b12 : Below w.heap.size w w2 := b1.trans (b2.mono b1.size)
  clear hcell ok2 own2 f1 f2 f3 hs O1 b1 b2
  have hcs := fun (w : World) (C : Array Value) (n c : Nat) => Lib.run_convert_bytes_const (P := Try.prog) w 22 5 C n c Try.underlying22 Try.underlying5
  go_wp2_with (first | (go_at_call 9; refine (num_any _ _).mono ?_; rintro e w' ⟨rfl, rfl⟩) | (go_at_call 17; refine (crc_any _ 9 9 digits _ rfl (by unfold maxLen; omega) (digits_row _)).mono ?_; rintro e w3 ⟨rfl, b3⟩; rw [show crc digits = 3808858755 from crc_known]))
  go_ret
  exact ⟨rfl, b12.trans ((Below.alloc (Below.refl _ _) b12.size _).trans (b3.mono (by have := b12.size; simp; omega)))⟩
end Go.Proofs.Ythfildanpcmfaab
