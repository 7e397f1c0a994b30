/- The walk of the statement BatchBack: it returns true at every input, and writes nothing that was there. -/
import Derived.Test.YtmkdkclakndkpaaKnows2
import Derived.Test.YtmkdkclakndkpaaDecode
namespace Go.Proofs.Ytmkdkclakndkpaa
open Go.RowKit
theorem encN_err {b : Bat} (h : checkN b ≠ 0) : encodeN b = (checkN b, []) := by unfold encodeN; rw [if_neg h]
theorem encN_ok {b : Bat} (h : checkN b = 0) : encodeN b = (0, writeN b) := by unfold encodeN; rw [if_pos h]
set_option maxRecDepth 100000 in
set_option maxHeartbeats 4000000 in
theorem back2_walk (k p e s : Int) (t : Bool) (rs : List Rec) (ad : Option Addr) (len cap : Nat) (xd : Option Addr) (xlen xcap : Nat) (l : List Nat) (w : World) (h : BArg w ⟨k, p, e, s, t, rs⟩ ad len cap) (hm : len * 40 ≤ 140737488351232) (hx : Part.ok w ⟨xd, xlen, xcap, l⟩) (hxc : xlen ≤ xcap) (hxr : xcap ≤ 140737488351232) :
    Calls Try.prog 6 #[.agg #[.int .i64 k, .int .i64 p, .int .i64 e, .int .i64 s, .bool t, .slice ad len cap], .slice xd xlen xcap] w fun r w' => r = .returned (.bool true) ∧ Below w.heap.size w w' := by
  have b0 : Below w.heap.size w (w.alloc (.cells #[.int .i64 k, .int .i64 p, .int .i64 e, .int .i64 s, .bool t, .slice ad len cap] 24)) := (Below.refl _ _).alloc (Nat.le_refl _) _
  have X0 : Hid (BBox (w.alloc (.cells #[.int .i64 k, .int .i64 p, .int .i64 e, .int .i64 s, .bool t, .slice ad len cap] 24)) w.heap.size k p e s t (.slice ad len cap)) := BBox.new w k p e s t _
  have A0 : Hid (BArg w ⟨k, p, e, s, t, rs⟩ ad len cap) := h
  have HX : Hid (Part.ok w ⟨xd, xlen, xcap, l⟩) := hx
  have HLx : Hid (l.length = xlen) := hx.1
  clear h hx
  go_enter Try.func6, Try.ntmps6
  go_wp2_with fail
  refine (copied_any k p e s t rs ad len cap _ (A0.out.later b0) hm).mono ?_
  rintro r w1 ⟨a1, c1, rfl, A1, b1⟩
  have b01 : Below w.heap.size w w1 := b0.trans (b1.mono b0.size)
  have X1 : Hid (BBox w1 w.heap.size k p e s t (.slice ad len cap)) := X0.out.later b1
  have A1' : Hid (BArg w1 ⟨k, p, e, s, t, rs⟩ a1 len c1) := A1
  clear b0 b1 X0 A1
  go_wp2_with fail
  refine (encode_any k p e s t rs a1 len c1 _ A1'.out).mono ?_
  rintro r w2 ⟨v2, rfl, own2, b2⟩
  have b02 : Below w.heap.size w w2 := b01.trans (b2.mono b01.size)
  have X2 : Hid (BBox w2 w.heap.size k p e s t (.slice ad len cap)) := X1.out.later b2
  clear b01 b2 X1 A1'
  by_cases hc : checkN ⟨k, p, e, s, t, rs⟩ = 0
  · rw [encN_ok hc] at own2 ⊢
    simp only at own2
    have hsz : (writeN ⟨k, p, e, s, t, rs⟩).length ≤ 65536 := by rw [writeN_length]; exact (checkN_ok hc).2.2.2.2
    obtain ⟨n2, hn2⟩ : ∃ n, (writeN ⟨k, p, e, s, t, rs⟩).length = n := ⟨_, rfl⟩
    rw [hn2] at hsz
    obtain ⟨a2, c2, rfl, ok2, hc2, -⟩ := own2.slice n2 hn2
    have HD := decode_any a2 n2 c2 _ w2 ok2 hc2 (by omega)
    rw [decode_back _ hc] at HD
    simp only at HD
    clear own2 ok2 hn2
    go_wp2_with (first | (go_at_call 10; refine (num2_any _ _).mono ?_; rintro e w' ⟨rfl, hw'⟩; obtain rfl := hw'.symm) | (go_at_call 20; refine HD.mono ?_; rintro r w3 ⟨k3, p3, e3, s3, t3, rs3, a3, n3, c3, rfl, E3, A3, b3⟩; have b03 : Below w.heap.size w w3 := b02.trans (b3.mono b02.size); have ba4 : Below w3.heap.size w3 (w3.alloc (.cells #[.int .i64 k3, .int .i64 p3, .int .i64 e3, .int .i64 s3, .bool t3, .slice a3 n3 c3] 24)) := ((Below.refl _ _).alloc (Nat.le_refl _) _); have X4 : Hid (BBox (w3.alloc (.cells #[.int .i64 k3, .int .i64 p3, .int .i64 e3, .int .i64 s3, .bool t3, .slice a3 n3 c3] 24)) w.heap.size k p e s t (.slice ad len cap)) := (X2.out.later b3).later ba4; have Y4 : Hid (BBox (w3.alloc (.cells #[.int .i64 k3, .int .i64 p3, .int .i64 e3, .int .i64 s3, .bool t3, .slice a3 n3 c3] 24)) w3.heap.size k3 p3 e3 s3 t3 (.slice a3 n3 c3)) := BBox.new w3 _ _ _ _ _ _; have A4 : Hid (BArg (w3.alloc (.cells #[.int .i64 k3, .int .i64 p3, .int .i64 e3, .int .i64 s3, .bool t3, .slice a3 n3 c3] 24)) ⟨k3, p3, e3, s3, t3, rs3⟩ a3 n3 c3) := A3.later ba4; have b04 : Below w.heap.size w (w3.alloc (.cells #[.int .i64 k3, .int .i64 p3, .int .i64 e3, .int .i64 s3, .bool t3, .slice a3 n3 c3] 24)) := b03.trans (ba4.mono b03.size); have HE3 : Hid ((⟨k3, p3, e3, s3, t3, rs3⟩ : Bat) = ⟨k, p, e, s, t, rs⟩) := E3; have g0 := X4.out.c0; have g1 := X4.out.c1; have g2 := X4.out.c2; have g3 := X4.out.c3; have g4 := X4.out.c4; have g5 := X4.out.c5; have h0 := Y4.out.c0; have h1 := Y4.out.c1; have h2 := Y4.out.c2; have h3 := Y4.out.c3; have h4 := Y4.out.c4; have h5 := Y4.out.c5; clear E3 A3 b3 ba4 b03 HD) | (go_at_call 15; refine (same_any k3 p3 e3 s3 k p e s t3 t rs3 rs a3 ad n3 c3 len cap _ A4.out (A0.out.later b04)).mono ?_; rintro r w5 ⟨q5, rfl, hq5, b5⟩; obtain rfl : q5 = true := hq5.2 HE3.out; have bT : Below w.heap.size w w5 := b04.trans (b5.mono b04.size); clear hq5 b5 g0 g1 g2 g3 g4 g5 h0 h1 h2 h3 h4 h5; have ba5 : Below w5.heap.size w5 (w5.alloc (.cells #[] 5)) := ((Below.refl _ _).alloc (Nat.le_refl _) _); have bA5 : Below w.heap.size w (w5.alloc (.cells #[] 5)) := bT.trans (ba5.mono bT.size); have PA5 : Hid (Part.ok (w5.alloc (.cells #[] 5)) ⟨xd, xlen, xcap, l⟩) := HX.out.later bA5; have sA5 := bA5.size; have sT := bT.size; clear ba5 bT) | (at_builtin; refine app_any rfl _ _ rfl w.heap.size (.slice (some ⟨w5.heap.size, 0, none⟩) 0 0) 0 [] rfl (empty_own w5 w.heap.size sT) xd xlen xcap l rfl HLx.out PA5.out.2.1 PA5.out.2.2 (by omega) sA5 ?_; intro v5 w6a hown5 hg5; have b05 := bA5.grown hg5 sA5 (by intro k hk; simp [Value.ownBlock] at hk; omega); have O5 : Own w6a w.heap.size v5 l := ⟨PA5.out.2.2.1, by simp only [Nat.zero_add, List.nil_append] at hown5; rw [HLx.out]; exact hown5⟩; obtain ⟨a5, c5, rfl, ok5, hc5, hc6⟩ := O5.slice xlen HLx.out; have P5 : Hid (Part.ok w6a ⟨a5, xlen, c5, l⟩) := ok5; clear hown5 hg5 O5 ok5 PA5 sA5 bA5))
    refine (decode_any a5 xlen c5 l w6a P5.out hc5 (by omega)).mono ?_
    rintro r w6 ⟨k6, p6, e6, s6, t6, rs6, a6, n6, c6, rfl, E6, A6, b6⟩
    have b06 : Below w.heap.size w w6 := b05.trans (b6.mono b05.size)
    have ba7 : Below w6.heap.size w6 (w6.alloc (.cells #[.int .i64 k6, .int .i64 p6, .int .i64 e6, .int .i64 s6, .bool t6, .slice a6 n6 c6] 24)) := (Below.refl _ _).alloc (Nat.le_refl _) _
    have A7 : Hid (BArg (w6.alloc (.cells #[.int .i64 k6, .int .i64 p6, .int .i64 e6, .int .i64 s6, .bool t6, .slice a6 n6 c6] 24)) ⟨k6, p6, e6, s6, t6, rs6⟩ a6 n6 c6) := A6.later ba7
    have Y7 : Hid (BBox (w6.alloc (.cells #[.int .i64 k6, .int .i64 p6, .int .i64 e6, .int .i64 s6, .bool t6, .slice a6 n6 c6] 24)) w6.heap.size k6 p6 e6 s6 t6 (.slice a6 n6 c6)) := BBox.new w6 _ _ _ _ _ _
    have b07 : Below w.heap.size w (w6.alloc (.cells #[.int .i64 k6, .int .i64 p6, .int .i64 e6, .int .i64 s6, .bool t6, .slice a6 n6 c6] 24)) := b06.trans (ba7.mono b06.size)
    have d0 := Y7.out.c0
    have d1 := Y7.out.c1
    have d2 := Y7.out.c2
    have d3 := Y7.out.c3
    have d4 := Y7.out.c4
    have d5 := Y7.out.c5
    clear A6 b6 ba7 b05
    obtain ⟨db, de, hdd⟩ : ∃ db de, decodeN l = (db, de) := ⟨_, _, rfl⟩
    rw [hdd] at E6 ⊢
    simp only at E6 ⊢
    by_cases hde : de = 0
    · obtain ⟨w1c, w1w⟩ := decode_write hdd hde
      rw [← E6] at w1c w1w
      subst hde
      clear hdd E6
      have HEn := encode_ok k6 p6 e6 s6 t6 rs6 a6 n6 c6 (w6.alloc (.cells #[.int .i64 k6, .int .i64 p6, .int .i64 e6, .int .i64 s6, .bool t6, .slice a6 n6 c6] 24)) A7.out w1c
      rw [w1w] at HEn
      clear w1c w1w
      go_wp2_with (first | (go_at_call 10; refine (num2_any _ _).mono ?_; rintro e w' ⟨rfl, hw'⟩; obtain rfl := hw'.symm) | (go_at_call 17; refine HEn.mono ?_; rintro r w8 ⟨v8, rfl, own8, b8⟩; have b08 : Below w.heap.size w w8 := b07.trans (b8.mono b07.size); obtain ⟨a8, c8, rfl, ok8, -⟩ := own8.slice xlen HLx.out; have k1 := conv_any ok8.2.2 xlen c8 HLx.out; have k2 := conv_any (HX.out.later b08).2.2 xlen xcap HLx.out; simp only at k1 k2; clear own8 ok8 b8) | (go_at_call 16; refine (knows2_any _).mono ?_; rintro r w9 ⟨rfl, b9⟩))
      go_ret
      exact ⟨rfl, b08.trans (b9.mono b08.size)⟩
    · have hz := decode_zero hdd hde
      subst hz
      have hde2 : (de != 0) = true := by simpa using hde
      have HS := same_any k6 p6 e6 s6 0 0 0 0 t6 false rs6 [] a6 none n6 c6 0 0 (w6.alloc (.cells #[.int .i64 k6, .int .i64 p6, .int .i64 e6, .int .i64 s6, .bool t6, .slice a6 n6 c6] 24)) A7.out (nil_arg _ _ _ _ _ _)
      clear hdd
      go_wp2_with (first | (go_at_call 10; refine (num2_any _ _).mono ?_; rintro e w' ⟨rfl, hw'⟩; obtain rfl := hw'.symm) | (go_at_call 15; refine HS.mono ?_; rintro r w8 ⟨q8, rfl, hq8, b8⟩; obtain rfl : q8 = true := hq8.2 E6; have b08 : Below w.heap.size w w8 := b07.trans (b8.mono b07.size); clear b8 hq8) | (go_at_call 16; refine (knows2_any _).mono ?_; rintro r w9 ⟨rfl, b9⟩))
      go_ret
      exact ⟨rfl, b08.trans (b9.mono b08.size)⟩
  · rw [encN_err hc] at own2 ⊢
    have hc2 : (checkN ⟨k, p, e, s, t, rs⟩ != 0) = true := by simpa using hc
    simp only at own2
    obtain ⟨a2, c2, rfl, -⟩ := own2.slice 0 rfl
    clear own2
    generalize checkN ⟨k, p, e, s, t, rs⟩ = cc at *
    have ba5 : Below w2.heap.size w2 (w2.alloc (.cells #[] 5)) := ((Below.refl _ _).alloc (Nat.le_refl _) _)
    have bA5 : Below w.heap.size w (w2.alloc (.cells #[] 5)) := b02.trans (ba5.mono b02.size)
    have PA5 : Hid (Part.ok (w2.alloc (.cells #[] 5)) ⟨xd, xlen, xcap, l⟩) := HX.out.later bA5
    have sA5 := bA5.size
    have sT := b02.size
    clear ba5 b02
    go_wp2_with (first | (go_at_call 10; refine (num2_any _ _).mono ?_; rintro e w' ⟨rfl, hw'⟩; obtain rfl := hw'.symm) | (at_builtin; refine app_any rfl _ _ rfl w.heap.size (.slice (some ⟨w2.heap.size, 0, none⟩) 0 0) 0 [] rfl (empty_own w2 w.heap.size sT) xd xlen xcap l rfl HLx.out PA5.out.2.1 PA5.out.2.2 (by omega) sA5 ?_; intro v5 w6a hown5 hg5; have b05 := bA5.grown hg5 sA5 (by intro k hk; simp [Value.ownBlock] at hk; omega); have O5 : Own w6a w.heap.size v5 l := ⟨PA5.out.2.2.1, by simp only [Nat.zero_add, List.nil_append] at hown5; rw [HLx.out]; exact hown5⟩; obtain ⟨a5, c5, rfl, ok5, hc5, hc6⟩ := O5.slice xlen HLx.out; have P5 : Hid (Part.ok w6a ⟨a5, xlen, c5, l⟩) := ok5; clear hown5 hg5 O5 ok5 PA5 sA5 bA5))
    refine (decode_any a5 xlen c5 l w6a P5.out hc5 (by omega)).mono ?_
    rintro r w6 ⟨k6, p6, e6, s6, t6, rs6, a6, n6, c6, rfl, E6, A6, b6⟩
    have b06 : Below w.heap.size w w6 := b05.trans (b6.mono b05.size)
    have ba7 : Below w6.heap.size w6 (w6.alloc (.cells #[.int .i64 k6, .int .i64 p6, .int .i64 e6, .int .i64 s6, .bool t6, .slice a6 n6 c6] 24)) := (Below.refl _ _).alloc (Nat.le_refl _) _
    have A7 : Hid (BArg (w6.alloc (.cells #[.int .i64 k6, .int .i64 p6, .int .i64 e6, .int .i64 s6, .bool t6, .slice a6 n6 c6] 24)) ⟨k6, p6, e6, s6, t6, rs6⟩ a6 n6 c6) := A6.later ba7
    have Y7 : Hid (BBox (w6.alloc (.cells #[.int .i64 k6, .int .i64 p6, .int .i64 e6, .int .i64 s6, .bool t6, .slice a6 n6 c6] 24)) w6.heap.size k6 p6 e6 s6 t6 (.slice a6 n6 c6)) := BBox.new w6 _ _ _ _ _ _
    have b07 : Below w.heap.size w (w6.alloc (.cells #[.int .i64 k6, .int .i64 p6, .int .i64 e6, .int .i64 s6, .bool t6, .slice a6 n6 c6] 24)) := b06.trans (ba7.mono b06.size)
    have d0 := Y7.out.c0
    have d1 := Y7.out.c1
    have d2 := Y7.out.c2
    have d3 := Y7.out.c3
    have d4 := Y7.out.c4
    have d5 := Y7.out.c5
    clear A6 b6 ba7 b05
    obtain ⟨db, de, hdd⟩ : ∃ db de, decodeN l = (db, de) := ⟨_, _, rfl⟩
    rw [hdd] at E6 ⊢
    simp only at E6 ⊢
    by_cases hde : de = 0
    · obtain ⟨w1c, w1w⟩ := decode_write hdd hde
      rw [← E6] at w1c w1w
      subst hde
      clear hdd E6
      have HEn := encode_ok k6 p6 e6 s6 t6 rs6 a6 n6 c6 (w6.alloc (.cells #[.int .i64 k6, .int .i64 p6, .int .i64 e6, .int .i64 s6, .bool t6, .slice a6 n6 c6] 24)) A7.out w1c
      rw [w1w] at HEn
      clear w1c w1w
      go_wp2_with (first | (go_at_call 10; refine (num2_any _ _).mono ?_; rintro e w' ⟨rfl, hw'⟩; obtain rfl := hw'.symm) | (go_at_call 17; refine HEn.mono ?_; rintro r w8 ⟨v8, rfl, own8, b8⟩; have b08 : Below w.heap.size w w8 := b07.trans (b8.mono b07.size); obtain ⟨a8, c8, rfl, ok8, -⟩ := own8.slice xlen HLx.out; have k1 := conv_any ok8.2.2 xlen c8 HLx.out; have k2 := conv_any (HX.out.later b08).2.2 xlen xcap HLx.out; simp only at k1 k2; clear own8 ok8 b8) | (go_at_call 16; refine (knows2_any _).mono ?_; rintro r w9 ⟨rfl, b9⟩))
      go_ret
      exact ⟨rfl, b08.trans (b9.mono b08.size)⟩
    · have hz := decode_zero hdd hde
      subst hz
      have hde2 : (de != 0) = true := by simpa using hde
      have HS := same_any k6 p6 e6 s6 0 0 0 0 t6 false rs6 [] a6 none n6 c6 0 0 (w6.alloc (.cells #[.int .i64 k6, .int .i64 p6, .int .i64 e6, .int .i64 s6, .bool t6, .slice a6 n6 c6] 24)) A7.out (nil_arg _ _ _ _ _ _)
      clear hdd
      go_wp2_with (first | (go_at_call 10; refine (num2_any _ _).mono ?_; rintro e w' ⟨rfl, hw'⟩; obtain rfl := hw'.symm) | (go_at_call 15; refine HS.mono ?_; rintro r w8 ⟨q8, rfl, hq8, b8⟩; obtain rfl : q8 = true := hq8.2 E6; have b08 : Below w.heap.size w w8 := b07.trans (b8.mono b07.size); clear b8 hq8) | (go_at_call 16; refine (knows2_any _).mono ?_; rintro r w9 ⟨rfl, b9⟩))
      go_ret
      exact ⟨rfl, b08.trans (b9.mono b08.size)⟩
end Go.Proofs.Ytmkdkclakndkpaa
