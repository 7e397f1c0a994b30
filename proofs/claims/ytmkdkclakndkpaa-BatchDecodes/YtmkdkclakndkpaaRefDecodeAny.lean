/- What the document's own Decode (package ref) answers, whatever the bytes: P204. -/
import Derived.Test.YtmkdkclakndkpaaRefDecode
import Derived.Test.YtmkdkclakndkpaaRefDecodeY
namespace Go.Proofs.Ytmkdkclakndkpaa
open Go.RowKit

set_option maxRecDepth 100000 in
theorem refDecode_short (ad : Option Addr) (len cap : Nat) (l : List Nat) (w : World) (hp : Part.ok w ⟨ad, len, cap, l⟩) (h18 : len < 18) :
    Calls Try.prog 21 #[.slice ad len cap] w fun x w' => DecPost l w x w' := by
  have HZ : Hid (decodeN l = (bat0, 20)) := decodeN_err l (by rw [hp.1]; exact h18)
  have hl18 : decide ((len : Int) < 18) = true := by simp; omega
  have XQ : Hid (BBox (w.alloc (.cells #[.int .i64 0, .int .i64 0, .int .i64 0, .int .i64 0, .bool false, .slice none 0 0] 24)) w.heap.size 0 0 0 0 false (.slice none 0 0)) := BBox.new w 0 0 0 0 false _
  have XW : Hid (Below w.heap.size w (w.alloc (.cells #[.int .i64 0, .int .i64 0, .int .i64 0, .int .i64 0, .bool false, .slice none 0 0] 24))) := (Below.refl _ _).alloc (Nat.le_refl _) _
  have c0 := XQ.out.c0
  have c1 := XQ.out.c1
  have c2 := XQ.out.c2
  have c3 := XQ.out.c3
  have c4 := XQ.out.c4
  have c5 := XQ.out.c5
  have cf0 := XQ.out.free 0
  have cf1 := XQ.out.free 1
  have cf2 := XQ.out.free 2
  have cf3 := XQ.out.free 3
  have cf4 := XQ.out.free 4
  have cf5 := XQ.out.free 5
  clear hp
  go_enter Try.func21, Try.ntmps21
  go_wp2
  refine bodyPost_ret (ret_batch Try.results21 _ _ w.heap.size 0 0 0 0 false (.slice none 0 0) rfl ?_) rfl (decPost_zero HZ.out rfl ?_)
  · exact XQ.out
  · exact XW.out
theorem refDecode_any (ad : Option Addr) (len cap : Nat) (l : List Nat) (w : World) (hp : Part.ok w ⟨ad, len, cap, l⟩) (hlc : len ≤ cap) (hm : len ≤ 1000000000000000) :
    Calls Try.prog 21 #[.slice ad len cap] w fun x w' => DecPost l w x w' := by
  by_cases h : len < 18
  · exact refDecode_short ad len cap l w hp h
  · cases hb : (l.getD 1 0 % 2 == 1) with
    | false => exact refDecode_no ad len cap l w hp hlc hm (by omega) hb
    | true => exact refDecode_yes ad len cap l w hp hlc hm (by omega) hb
end Go.Proofs.Ytmkdkclakndkpaa
