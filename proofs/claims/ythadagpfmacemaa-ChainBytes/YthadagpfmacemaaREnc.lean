/- Encode of the document's package. -/
import Derived.Test.YthadagpfmacemaaRWrite
import Derived.Test.YthadagpfmacemaaCEnc
import Derived.Test.YthadagpfmacemaaRChk
namespace Go.Proofs.Ythadagpfmacemaa.Rf
open Go.RowKit
variable {w : World} {l : List Pt} {A : Nat → Sl} {ad : Option Addr} {m c : Nat}

set_option maxRecDepth 100000 in
set_option maxHeartbeats 2000000 in
theorem encode_any (h : CArg w l A ad m c) (o t n : Int) : Calls Try.prog 10 #[.agg #[.int .i64 o, .int .i64 t, .slice ad m c], .int .i64 n] w fun x w' =>
      ∃ ad' m' c', x = .returned (.tuple #[.slice ad' m' c', .int .i64 (encE o t l n)]) ∧ Hid (Own w' w.heap.size (.slice ad' m' c') (encB o t l n)) ∧ Below w.heap.size w w' := by
  have hl := h.len
  have HB : Hid (Below w.heap.size w (w.alloc (.cells #[.int .i64 o, .int .i64 t, .slice ad m c] 24))) := hid ((Below.refl _ _).alloc (Nat.le_refl _) _)
  have HK := hid (refChk_any (h.later HB.out) o t n)
  have HX : Hid (∀ X, Below (w.alloc (.cells #[.int .i64 o, .int .i64 t, .slice ad m c] 24)).heap.size (w.alloc (.cells #[.int .i64 o, .int .i64 t, .slice ad m c] 24)) X → (X.cell? ⟨w.heap.size, 0, none⟩ = some (.int .i64 o) ∧ X.cell? ⟨w.heap.size, 1, none⟩ = some (.int .i64 t) ∧ X.cell? ⟨w.heap.size, 2, none⟩ = some (.slice ad m c)) ∧ CArg X l A ad m c ∧ Below w.heap.size w X) := hid (fun X hX => by
    have q := (show Blk (w.alloc (.cells #[.int .i64 o, .int .i64 t, .slice ad m c] 24)) w.heap.size _ _ from heap_alloc_new w _).later hX
    exact ⟨⟨q.cell 0, q.cell 1, q.cell 2⟩, (h.later HB.out).later hX, HB.out.trans (hX.mono HB.out.size)⟩)
  clear h
  by_cases a1 : mayC o t l n
  case neg =>
    have HE := hid (encE_1 a1)
    have HEB : Hid (encB o t l n = []) := hid (by unfold encB; rw [HE.out, if_neg (by decide)])
    rw [mayN_no a1] at HK
    clear a1
    go_enter Try.func10, Try.ntmps10
    go_wp2_with (go_at_call 15; refine HK.out.mono ?_; rintro x w1 ⟨rfl, hb1⟩; have HB1 := hid (HX.out w1 hb1).2.2; clear hb1)
    refine bodyPost_ret (v := .tuple #[.slice none 0 0, .int .i64 1]) (by simp [results, Try.results10, go_sem]) rfl ⟨none, 0, 0, by rw [HE.out], hid (by rw [HEB.out]; exact Own.nil _ _), HB1.out⟩
  rw [mayN_ok a1] at HK
  by_cases a2 : n ≤ 256
  case neg =>
    have HE := hid (encE_6 a1 a2)
    have HEB : Hid (encB o t l n = []) := hid (by unfold encB; rw [HE.out, if_neg (by decide)])
    have d2 : decide (256 < n) = true := by simp; omega
    clear a1 a2
    go_enter Try.func10, Try.ntmps10
    go_wp2_with (go_at_call 15; refine HK.out.mono ?_; rintro x w1 ⟨rfl, hb1⟩; have HB1 := hid (HX.out w1 hb1).2.2; clear hb1)
    refine bodyPost_ret (v := .tuple #[.slice none 0 0, .int .i64 6]) (by simp [results, Try.results10, go_sem]) rfl ⟨none, 0, 0, by rw [HE.out], hid (by rw [HEB.out]; exact Own.nil _ _), HB1.out⟩
  have HE := hid (encE_0 a1 a2)
  have HEB : Hid (encB o t l n = tellN o t l) := hid (by unfold encB; rw [HE.out, if_pos rfl])
  have d2 : decide (256 < n) = false := by simp; omega
  have HT : Hid (∀ X, Below (w.alloc (.cells #[.int .i64 o, .int .i64 t, .slice ad m c] 24)).heap.size (w.alloc (.cells #[.int .i64 o, .int .i64 t, .slice ad m c] 24)) X → Calls Try.prog 33 #[.agg #[.int .i64 o, .int .i64 t, .slice ad m c]] X fun e w' => ∃ ad' m' c', e = .returned (.slice ad' m' c') ∧ Hid (Own w' w.heap.size (.slice ad' m' c') (tellN o t l) ∧ Below X.heap.size X w')) := hid (fun X hX => (write_any (HX.out X hX).2.1 (by have := a1.1; omega) (by have := a1.2.1.1; unfold isN at this; exact this) (by have := a1.2.1.2; omega) (fun i hi => may_fit a1 a2 i (by omega))).mono (fun e w' hh => by
    obtain ⟨v, rfl, ho⟩ := hh
    obtain ⟨ad', m', c', rfl⟩ := owns_slice' ho.out.1
    exact ⟨ad', m', c', rfl, hid ⟨Own.down ⟨tellN_lt o t l, ho.out.1⟩ (by have := (HX.out X hX).2.2.size; omega), ho.out.2⟩⟩))
  clear a1 a2
  go_enter Try.func10, Try.ntmps10
  go_wp2_with first
    | (go_at_call 15; refine HK.out.mono ?_; rintro x w1 ⟨rfl, hb1⟩; obtain ⟨⟨k0, k1, k2⟩, -, hbw⟩ := HX.out w1 hb1; have HB1 := hid hbw; have HT1 := hid (HT.out w1 hb1); clear hb1 hbw)
    | (go_at_call 33; refine HT1.out.mono ?_; rintro x w2 ⟨ad', m', c', rfl, hh⟩)
  refine bodyPost_ret (v := .tuple #[.slice ad' m' c', .int .i64 0]) (by simp [results, Try.results10, go_sem]) rfl ⟨ad', m', c', by rw [HE.out], hid (by rw [HEB.out]; exact hh.out.1), HB1.out.trans (hh.out.2.mono HB1.out.size)⟩
end Go.Proofs.Ythadagpfmacemaa.Rf
