/- The walk of the statement BatchChecks: it returns true at every input, and writes nothing that was there. -/
import Derived.Test.YtmkdkclakndkpaaKnows2
import Derived.Test.YtmkdkclakndkpaaSame
import Derived.Test.YtmkdkclakndkpaaRefCheck4
namespace Go.Proofs.Ytmkdkclakndkpaa
open Go.RowKit

/-- What the last line of BatchChecks reads. -/
theorem checks_S {W : World} {B C : Nat} {k p e s : Int} {t : Bool} {v v' : Value} (hx : BBox W B k p e s t v) (hy : BBox W C k p e s t v') :
    (W.cell? ⟨B, 0, none⟩ = some (.int .i64 k) ∧ W.cell? ⟨B, 1, none⟩ = some (.int .i64 p) ∧ W.cell? ⟨B, 2, none⟩ = some (.int .i64 e) ∧ W.cell? ⟨B, 3, none⟩ = some (.int .i64 s) ∧ W.cell? ⟨B, 4, none⟩ = some (.bool t) ∧ W.cell? ⟨B, 5, none⟩ = some v) ∧
    (W.cell? ⟨C, 0, none⟩ = some (.int .i64 k) ∧ W.cell? ⟨C, 1, none⟩ = some (.int .i64 p) ∧ W.cell? ⟨C, 2, none⟩ = some (.int .i64 e) ∧ W.cell? ⟨C, 3, none⟩ = some (.int .i64 s) ∧ W.cell? ⟨C, 4, none⟩ = some (.bool t) ∧ W.cell? ⟨C, 5, none⟩ = some v') :=
  ⟨⟨hx.c0, hx.c1, hx.c2, hx.c3, hx.c4, hx.c5⟩, ⟨hy.c0, hy.c1, hy.c2, hy.c3, hy.c4, hy.c5⟩⟩
set_option maxRecDepth 100000 in
set_option maxHeartbeats 4000000 in
theorem checks_walk (k p e s : Int) (t : Bool) (rs : List Rec) (ad : Option Addr) (len cap : Nat) (w : World) (h : BArg w ⟨k, p, e, s, t, rs⟩ ad len cap) (hm : len * 40 ≤ 140737488351232) :
    Calls Try.prog 3 #[.agg #[.int .i64 k, .int .i64 p, .int .i64 e, .int .i64 s, .bool t, .slice ad len cap]] w fun r w' => r = .returned (.bool true) ∧ Below w.heap.size w w' := by
  have b0 : Below w.heap.size w (w.alloc (.cells #[.int .i64 k, .int .i64 p, .int .i64 e, .int .i64 s, .bool t, .slice ad len cap] 24)) := (Below.refl _ _).alloc (Nat.le_refl _) _
  have X0 : Hid (BBox (w.alloc (.cells #[.int .i64 k, .int .i64 p, .int .i64 e, .int .i64 s, .bool t, .slice ad len cap] 24)) w.heap.size k p e s t (.slice ad len cap)) := BBox.new w k p e s t _
  have A0 : Hid (BArg w ⟨k, p, e, s, t, rs⟩ ad len cap) := h
  clear h
  go_enter Try.func3, Try.ntmps3
  go_wp2_with fail
  refine (copied_any k p e s t rs ad len cap _ (A0.out.later b0) hm).mono ?_
  rintro r w1 ⟨a1, c1, rfl, A1, b1⟩
  have b01 : Below w.heap.size w w1 := b0.trans (b1.mono b0.size)
  have b2 : Below w1.heap.size w1 (w1.alloc (.cells #[.int .i64 k, .int .i64 p, .int .i64 e, .int .i64 s, .bool t, .slice a1 len c1] 24)) := (Below.refl _ _).alloc (Nat.le_refl _) _
  have X2 : Hid (BBox (w1.alloc (.cells #[.int .i64 k, .int .i64 p, .int .i64 e, .int .i64 s, .bool t, .slice a1 len c1] 24)) w.heap.size k p e s t (.slice ad len cap)) := (X0.out.later b1).later b2
  have Y2 : Hid (BBox (w1.alloc (.cells #[.int .i64 k, .int .i64 p, .int .i64 e, .int .i64 s, .bool t, .slice a1 len c1] 24)) w1.heap.size k p e s t (.slice a1 len c1)) := BBox.new w1 k p e s t _
  have A2 : Hid (BArg (w1.alloc (.cells #[.int .i64 k, .int .i64 p, .int .i64 e, .int .i64 s, .bool t, .slice a1 len c1] 24)) ⟨k, p, e, s, t, rs⟩ a1 len c1) := A1.later b2
  have b02 : Hid (Below w.heap.size w (w1.alloc (.cells #[.int .i64 k, .int .i64 p, .int .i64 e, .int .i64 s, .bool t, .slice a1 len c1] 24))) := b01.trans (b2.mono b01.size)
  clear b0 b1 b01 b2 X0 A1
  go_wp2_with fail
  obtain ⟨c, hcc⟩ : ∃ c, checkN ⟨k, p, e, s, t, rs⟩ = c := ⟨_, rfl⟩
  obtain ⟨n, hnn⟩ : ∃ n : Int, (if (k == 2 || k == 3) = true then (1 : Int) else len) = n := ⟨_, rfl⟩
  have BD : Hid (Below (w1.alloc (.cells #[.int .i64 k, .int .i64 p, .int .i64 e, .int .i64 s, .bool t, .slice a1 len c1] 24)).heap.size (w1.alloc (.cells #[.int .i64 k, .int .i64 p, .int .i64 e, .int .i64 s, .bool t, .slice a1 len c1] 24)) (w1.alloc (.cells #[.int .i64 k, .int .i64 p, .int .i64 e, .int .i64 s, .bool t, .slice a1 len c1] 24)).drew) := (Below.refl _ _).drew
  have S1 : Hid (∀ W, Below (w1.alloc (.cells #[.int .i64 k, .int .i64 p, .int .i64 e, .int .i64 s, .bool t, .slice a1 len c1] 24)).heap.size (w1.alloc (.cells #[.int .i64 k, .int .i64 p, .int .i64 e, .int .i64 s, .bool t, .slice a1 len c1] 24)) W → _) := fun W hW => checks_S (X2.out.later hW) (Y2.out.later hW)
  go_region_held3 (fun w' => (w'.cell? ⟨w.heap.size, 0, none⟩ = some (.int .i64 k) ∧ w'.cell? ⟨w.heap.size, 1, none⟩ = some (.int .i64 p) ∧ w'.cell? ⟨w.heap.size, 2, none⟩ = some (.int .i64 e) ∧ w'.cell? ⟨w.heap.size, 3, none⟩ = some (.int .i64 s) ∧ w'.cell? ⟨w.heap.size, 4, none⟩ = some (.bool t) ∧ w'.cell? ⟨w.heap.size, 5, none⟩ = some (.slice ad len cap)) ∧ (w'.cell? ⟨w1.heap.size, 0, none⟩ = some (.int .i64 k) ∧ w'.cell? ⟨w1.heap.size, 1, none⟩ = some (.int .i64 p) ∧ w'.cell? ⟨w1.heap.size, 2, none⟩ = some (.int .i64 e) ∧ w'.cell? ⟨w1.heap.size, 3, none⟩ = some (.int .i64 s) ∧ w'.cell? ⟨w1.heap.size, 4, none⟩ = some (.bool t) ∧ w'.cell? ⟨w1.heap.size, 5, none⟩ = some (.slice a1 len c1)))
    (first | exact S1.out _ BD.out | exact S1.out _ B3.out | exact S1.out _ B4.out | exact S1.out _ B5.out | exact S1.out _ B6.out | exact S1.out _ B7.out | exact S1.out _ B8.out)
    (first | (go_at_call 11; refine (check_any k p e s t rs a1 len c1 _ (A2.out.later BD.out)).mono ?_; rintro r w3 ⟨rfl, b3⟩; rw [hcc]; have B3 : Hid (Below (w1.alloc (.cells #[.int .i64 k, .int .i64 p, .int .i64 e, .int .i64 s, .bool t, .slice a1 len c1] 24)).heap.size (w1.alloc (.cells #[.int .i64 k, .int .i64 p, .int .i64 e, .int .i64 s, .bool t, .slice a1 len c1] 24)) w3) := BD.out.trans (b3.mono BD.out.size); clear b3) | (go_at_call 10; refine (num2_any _ _).mono ?_; rintro r w' ⟨rfl, hw'⟩; obtain rfl := hw'.symm) | (go_at_call 12; refine (refCheck_any k p e s t rs ad len cap _ (A0.out.later (b02.out.trans (B3.out.mono b02.out.size)))).mono ?_; rintro r w4 ⟨rfl, b4⟩; rw [hcc]; have B4 : Hid (Below (w1.alloc (.cells #[.int .i64 k, .int .i64 p, .int .i64 e, .int .i64 s, .bool t, .slice a1 len c1] 24)).heap.size (w1.alloc (.cells #[.int .i64 k, .int .i64 p, .int .i64 e, .int .i64 s, .bool t, .slice a1 len c1] 24)) w4) := B3.out.trans (b4.mono B3.out.size); clear b4) | (go_at_call 13; refine (len_any k p e s t a1 len c1 _).mono ?_; rintro r w5 ⟨rfl, b5⟩; rw [hnn]; have B5 : Hid (Below (w1.alloc (.cells #[.int .i64 k, .int .i64 p, .int .i64 e, .int .i64 s, .bool t, .slice a1 len c1] 24)).heap.size (w1.alloc (.cells #[.int .i64 k, .int .i64 p, .int .i64 e, .int .i64 s, .bool t, .slice a1 len c1] 24)) w5) := B4.out.trans (b5.mono B4.out.size); clear b5) | (go_at_call 14; refine (refLen_any k p e s t ad len cap _).mono ?_; rintro r w6 ⟨rfl, b6⟩; rw [hnn]; have B6 : Hid (Below (w1.alloc (.cells #[.int .i64 k, .int .i64 p, .int .i64 e, .int .i64 s, .bool t, .slice a1 len c1] 24)).heap.size (w1.alloc (.cells #[.int .i64 k, .int .i64 p, .int .i64 e, .int .i64 s, .bool t, .slice a1 len c1] 24)) w6) := B5.out.trans (b6.mono B5.out.size); clear b6) | (go_at_call 15; refine (same_any k p e s k p e s t t rs rs a1 ad len c1 len cap _ (A2.out.later B6.out) (A0.out.later (b02.out.trans (B6.out.mono b02.out.size)))).mono ?_; rintro r w7 ⟨q, rfl, hq, b7⟩; obtain rfl : q = true := hq.2 rfl; have B7 : Hid (Below (w1.alloc (.cells #[.int .i64 k, .int .i64 p, .int .i64 e, .int .i64 s, .bool t, .slice a1 len c1] 24)).heap.size (w1.alloc (.cells #[.int .i64 k, .int .i64 p, .int .i64 e, .int .i64 s, .bool t, .slice a1 len c1] 24)) w7) := B6.out.trans (b7.mono B6.out.size); clear b7 hq) | (go_at_call 16; refine (knows2_any _).mono ?_; rintro r w8 ⟨rfl, b8⟩; have B8 : Hid (Below (w1.alloc (.cells #[.int .i64 k, .int .i64 p, .int .i64 e, .int .i64 s, .bool t, .slice a1 len c1] 24)).heap.size (w1.alloc (.cells #[.int .i64 k, .int .i64 p, .int .i64 e, .int .i64 s, .bool t, .slice a1 len c1] 24)) w8) := B7.out.trans (b8.mono B7.out.size); clear b8))
  go_wp2
  go_ret
  exact ⟨rfl, b02.out.trans (B8.out.mono b02.out.size)⟩
end Go.Proofs.Ytmkdkclakndkpaa
