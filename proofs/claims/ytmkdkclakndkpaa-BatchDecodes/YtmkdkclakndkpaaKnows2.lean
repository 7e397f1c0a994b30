/- What the statements' helper knows answers: true. -/
import Derived.Test.YtmkdkclakndkpaaEncode
import Derived.Test.YtmkdkclakndkpaaCopied
namespace Go.Proofs.Ytmkdkclakndkpaa
open Go.RowKit

def known : Bat := ⟨1, -1, 0, 0, false, [⟨⟨#[107]⟩, ⟨#[118]⟩, false⟩]⟩
theorem known_check : checkN known = 0 := by decide +kernel
theorem known_bytes : (writeN known).length = 25 ∧ (writeN known).getD 0 0 = 1 ∧ (writeN known).getD 24 0 = 118 := by decide +kernel
theorem known_encode : encodeN known = (0, writeN known) := by unfold encodeN; rw [if_pos known_check]
theorem known_not : checkN ⟨2, -1, 0, 0, false, []⟩ = 1 := by decide +kernel
theorem known_arg (w : World) : BArg (w.alloc (.cells #[.string ⟨#[107]⟩, .string ⟨#[118]⟩, .bool false] 51)) known (some ⟨w.heap.size, 0, none⟩) 1 1 := by
  refine ⟨rfl, fun e => (by cases e), by omega, by unfold maxLen; omega, Or.inr ⟨w.heap.size, 0, rfl, by simp, ?_⟩, ?_⟩
  · intro i hi
    have hi' : i < 1 := hi
    obtain rfl : i = 0 := by omega
    refine ⟨?_, ?_, ?_⟩
    all_goals rw [cell_of_row _ w.heap.size _ _ 51 (0, 0) (heap_alloc_new w _)]; rfl
  · intro r hr
    have e : r = ⟨⟨#[107]⟩, ⟨#[118]⟩, false⟩ := by simpa [known] using hr
    subst e
    exact ⟨by decide, by decide⟩
theorem nil_arg (w : World) (k p e s : Int) (t : Bool) : BArg w ⟨k, p, e, s, t, []⟩ none 0 0 := ⟨rfl, fun _ => ⟨rfl, rfl⟩, by omega, by unfold maxLen; omega, Or.inl rfl, fun r hr => (by cases hr)⟩
set_option maxHeartbeats 1000000 in
theorem knows2_any (w : World) : Calls Try.prog 16 #[] w fun e w' => e = .returned (.bool true) ∧ Below w.heap.size w w' := by
  have b0 : Below w.heap.size w (w.alloc (.cells #[.string ⟨#[107]⟩, .string ⟨#[118]⟩, .bool false] 51)) := (Below.refl _ _).alloc (Nat.le_refl _) _
  go_enter Try.func16, Try.ntmps16
  go_wp2_with fail
  refine (encode_any 1 (-1) 0 0 false known.recs _ _ _ _ (known_arg w)).mono ?_
  rintro e w1 ⟨v1, rfl, own1, b1⟩
  have b01 : Below w.heap.size w w1 := b0.trans (b1.mono b0.size)
  rw [show (⟨1, -1, 0, 0, false, known.recs⟩ : Bat) = known from rfl, known_encode] at own1 ⊢
  obtain ⟨f1, f2, f3⟩ := known_bytes
  obtain ⟨a1, c1, rfl, ok1, -⟩ := own1.slice 25 f1
  have O1 : Hid (Part.ok w1 ⟨a1, 25, c1, writeN known⟩) := ok1
  have F2 : Hid ((writeN known).getD 0 0 = 1) := f2
  have F3 : Hid ((writeN known).getD 24 0 = 118) := f3
  clear own1 ok1 f1 f2 f3 b0 b1
  go_wp2_with fail
  refine (check_any 2 (-1) 0 0 false [] none 0 0 _ (nil_arg _ _ _ _ _ _)).mono ?_
  rintro e w2 ⟨rfl, b2⟩
  rw [known_not]
  obtain ⟨b, off, rfl, -, hcell⟩ := (O1.out.later b2).cells (by omega)
  have hc0 := hcell 0 (by omega)
  have hc1 := hcell 24 (by omega)
  rw [F2.out, Nat.add_zero] at hc0
  rw [F3.out] at hc1
  have b02 : Below w.heap.size w w2 := b01.trans (b2.mono b01.size)
  clear hcell O1 F2 F3 b01 b2
  go_wp2_with (go_at_call 10; refine (num2_any _ _).mono ?_; rintro e w' ⟨rfl, hw'⟩; obtain rfl := hw'.symm)
  go_ret
  exact ⟨rfl, b02⟩
end Go.Proofs.Ytmkdkclakndkpaa
