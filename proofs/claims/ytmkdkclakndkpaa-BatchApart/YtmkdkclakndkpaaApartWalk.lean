/- The walk of the statement BatchApart: it returns true at every input, and writes nothing that was there. -/
import Derived.Test.YtmkdkclakndkpaaKnows2
import Derived.Test.YtmkdkclakndkpaaSame
namespace Go.Proofs.Ytmkdkclakndkpaa
open Go.RowKit

theorem bstr_inj {l m : List Nat} (hl : ∀ x ∈ l, x < 256) (hm : ∀ x ∈ m, x < 256) (h : bstr l = bstr m) : l = m := by
  rw [← sbytes_bstr l hl, ← sbytes_bstr m hm, h]
theorem bstr_beq {l m : List Nat} (hl : ∀ x ∈ l, x < 256) (hm : ∀ x ∈ m, x < 256) (q : Bool) (h : q = true ↔ l = m) : ((bstr l).toList == (bstr m).toList) = q := by
  rw [← beq_toListBytes, Bool.eq_iff_iff, bytes_beq, h]
  exact ⟨bstr_inj hl hm, fun e => by rw [e]⟩
theorem encodeN_err {b : Bat} (h : checkN b ≠ 0) : encodeN b = (checkN b, []) := by unfold encodeN; rw [if_neg h]
theorem encodeN_ok {b : Bat} (h : checkN b = 0) : encodeN b = (0, writeN b) := by unfold encodeN; rw [if_pos h]
theorem write_iff (a b : Bat) (ha : checkN a = 0) (hb : checkN b = 0) (q : Bool) (h : q = true ↔ a = b) : q = true ↔ writeN a = writeN b := by
  rw [h]
  exact ⟨fun e => by rw [e], write_inj a b ha hb⟩
theorem bool_of (P : Prop) : ∃ β : Bool, β = true ↔ P := by
  by_cases h : P
  · exact ⟨true, ⟨fun _ => h, fun _ => rfl⟩⟩
  · exact ⟨false, ⟨fun e => (by cases e), fun e => absurd e h⟩⟩
/-- What the last line of BatchApart reads. -/
def ApartS (B C : Nat) (k p e s k' p' e' s' : Int) (t t' : Bool) (v v' x y : Value) (tx ty : ByteArray) (w' : World) : Prop :=
  (w'.cell? ⟨B, 0, none⟩ = some (.int .i64 k) ∧ w'.cell? ⟨B, 1, none⟩ = some (.int .i64 p) ∧ w'.cell? ⟨B, 2, none⟩ = some (.int .i64 e) ∧ w'.cell? ⟨B, 3, none⟩ = some (.int .i64 s) ∧ w'.cell? ⟨B, 4, none⟩ = some (.bool t) ∧ w'.cell? ⟨B, 5, none⟩ = some v) ∧
  (w'.cell? ⟨C, 0, none⟩ = some (.int .i64 k') ∧ w'.cell? ⟨C, 1, none⟩ = some (.int .i64 p') ∧ w'.cell? ⟨C, 2, none⟩ = some (.int .i64 e') ∧ w'.cell? ⟨C, 3, none⟩ = some (.int .i64 s') ∧ w'.cell? ⟨C, 4, none⟩ = some (.bool t') ∧ w'.cell? ⟨C, 5, none⟩ = some v') ∧
  (convert 33 9 x).run Try.prog w' = .ok (.string tx) w' ∧ (convert 33 9 y).run Try.prog w' = .ok (.string ty) w'
theorem apart_S {W : World} {B C : Nat} {k p e s k' p' e' s' : Int} {t t' : Bool} {v v' : Value} {a a' : Option Addr} {n c n' c' : Nat} {l l' : List Nat}
    (hx : BBox W B k p e s t v) (hy : BBox W C k' p' e' s' t' v') (ho : Part.ok W ⟨a, n, c, l⟩) (hp : Part.ok W ⟨a', n', c', l'⟩) :
    ApartS B C k p e s k' p' e' s' t t' v v' (.slice a n c) (.slice a' n' c') (bstr l) (bstr l') W :=
  ⟨⟨hx.c0, hx.c1, hx.c2, hx.c3, hx.c4, hx.c5⟩, ⟨hy.c0, hy.c1, hy.c2, hy.c3, hy.c4, hy.c5⟩, conv_any ho.2.2 n c ho.1, conv_any hp.2.2 n' c' hp.1⟩
set_option maxRecDepth 100000 in
set_option maxHeartbeats 4000000 in
theorem apart_walk (k p e s k' p' e' s' : Int) (t t' : Bool) (rs ss : List Rec) (ad ad2 : Option Addr) (len cap len2 cap2 : Nat) (w : World) (h : BArg w ⟨k, p, e, s, t, rs⟩ ad len cap) (hm : len * 40 ≤ 140737488351232) (h2 : BArg w ⟨k', p', e', s', t', ss⟩ ad2 len2 cap2) (hm2 : len2 * 40 ≤ 140737488351232) :
    Calls Try.prog 8 #[.agg #[.int .i64 k, .int .i64 p, .int .i64 e, .int .i64 s, .bool t, .slice ad len cap], .agg #[.int .i64 k', .int .i64 p', .int .i64 e', .int .i64 s', .bool t', .slice ad2 len2 cap2]] w fun r w' => r = .returned (.bool true) ∧ Below w.heap.size w w' := by
  have b0 : Below w.heap.size w ((w.alloc (.cells #[.int .i64 k, .int .i64 p, .int .i64 e, .int .i64 s, .bool t, .slice ad len cap] 24)).alloc (.cells #[.int .i64 k', .int .i64 p', .int .i64 e', .int .i64 s', .bool t', .slice ad2 len2 cap2] 24)) := ((Below.refl _ _).alloc (Nat.le_refl _) _).alloc (by simp) _
  have X0 : Hid (BBox ((w.alloc (.cells #[.int .i64 k, .int .i64 p, .int .i64 e, .int .i64 s, .bool t, .slice ad len cap] 24)).alloc (.cells #[.int .i64 k', .int .i64 p', .int .i64 e', .int .i64 s', .bool t', .slice ad2 len2 cap2] 24)) w.heap.size k p e s t (.slice ad len cap)) := (BBox.new w k p e s t _).later ((Below.refl _ _).alloc (Nat.le_refl _) _)
  have Y0 : Hid (BBox ((w.alloc (.cells #[.int .i64 k, .int .i64 p, .int .i64 e, .int .i64 s, .bool t, .slice ad len cap] 24)).alloc (.cells #[.int .i64 k', .int .i64 p', .int .i64 e', .int .i64 s', .bool t', .slice ad2 len2 cap2] 24)) (w.heap.size + 1) k' p' e' s' t' (.slice ad2 len2 cap2)) := by
    have h := BBox.new (w.alloc (.cells #[.int .i64 k, .int .i64 p, .int .i64 e, .int .i64 s, .bool t, .slice ad len cap] 24)) k' p' e' s' t' (.slice ad2 len2 cap2)
    rw [show (w.alloc (.cells #[.int .i64 k, .int .i64 p, .int .i64 e, .int .i64 s, .bool t, .slice ad len cap] 24)).heap.size = w.heap.size + 1 by simp] at h
    exact h
  have HA : Hid (BArg w ⟨k, p, e, s, t, rs⟩ ad len cap) := h
  have HB : Hid (BArg w ⟨k', p', e', s', t', ss⟩ ad2 len2 cap2) := h2
  clear h h2
  go_enter Try.func8, Try.ntmps8
  go_wp2_with fail
  refine (copied_any k p e s t rs ad len cap _ (HA.out.later b0) hm).mono ?_
  rintro r w1 ⟨a1, c1, rfl, A1, b1⟩
  have b01 : Below w.heap.size w w1 := b0.trans (b1.mono b0.size)
  have X1 : Hid (BBox w1 w.heap.size k p e s t (.slice ad len cap)) := X0.out.later b1
  have Y1 : Hid (BBox w1 (w.heap.size + 1) k' p' e' s' t' (.slice ad2 len2 cap2)) := Y0.out.later b1
  have A1' : Hid (BArg w1 ⟨k, p, e, s, t, rs⟩ a1 len c1) := A1
  clear b0 b1 X0 Y0 A1
  go_wp2_with fail
  refine (encode_any k p e s t rs a1 len c1 _ A1'.out).mono ?_
  rintro r w2 ⟨v2, rfl, own2, b2⟩
  have b02 : Below w.heap.size w w2 := b01.trans (b2.mono b01.size)
  have X2 : Hid (BBox w2 w.heap.size k p e s t (.slice ad len cap)) := X1.out.later b2
  have Y2 : Hid (BBox w2 (w.heap.size + 1) k' p' e' s' t' (.slice ad2 len2 cap2)) := Y1.out.later b2
  obtain ⟨n2, hn2⟩ : ∃ n, (encodeN ⟨k, p, e, s, t, rs⟩).2.length = n := ⟨_, rfl⟩
  obtain ⟨a2, c2, rfl, ok2, -⟩ := own2.slice n2 hn2
  have O2 : Hid (Part.ok w2 ⟨a2, n2, c2, (encodeN ⟨k, p, e, s, t, rs⟩).2⟩) := ok2
  have z0 := Y2.out.c0
  have z1 := Y2.out.c1
  have z2 := Y2.out.c2
  have z3 := Y2.out.c3
  have z4 := Y2.out.c4
  have z5 := Y2.out.c5
  clear b01 b2 X1 Y1 A1' own2 ok2 hn2
  go_wp2_with fail
  refine (copied_any k' p' e' s' t' ss ad2 len2 cap2 _ (HB.out.later b02) hm2).mono ?_
  rintro r w3 ⟨a3, c3, rfl, A3, b3⟩
  have b03 : Below w.heap.size w w3 := b02.trans (b3.mono b02.size)
  have X3 : Hid (BBox w3 w.heap.size k p e s t (.slice ad len cap)) := X2.out.later b3
  have Y3 : Hid (BBox w3 (w.heap.size + 1) k' p' e' s' t' (.slice ad2 len2 cap2)) := Y2.out.later b3
  have O3 : Hid (Part.ok w3 ⟨a2, n2, c2, (encodeN ⟨k, p, e, s, t, rs⟩).2⟩) := O2.out.later b3
  have A3' : Hid (BArg w3 ⟨k', p', e', s', t', ss⟩ a3 len2 c3) := A3
  clear b02 b3 X2 Y2 A3 O2 z0 z1 z2 z3 z4 z5
  go_wp2_with fail
  refine (encode_any k' p' e' s' t' ss a3 len2 c3 _ A3'.out).mono ?_
  rintro r w4 ⟨v4, rfl, own4, b4⟩
  have b04 : Below w.heap.size w w4 := b03.trans (b4.mono b03.size)
  have X4 : Hid (BBox w4 w.heap.size k p e s t (.slice ad len cap)) := X3.out.later b4
  have Y4 : Hid (BBox w4 (w.heap.size + 1) k' p' e' s' t' (.slice ad2 len2 cap2)) := Y3.out.later b4
  have O4 : Hid (Part.ok w4 ⟨a2, n2, c2, (encodeN ⟨k, p, e, s, t, rs⟩).2⟩) := O3.out.later b4
  obtain ⟨n4, hn4⟩ : ∃ n, (encodeN ⟨k', p', e', s', t', ss⟩).2.length = n := ⟨_, rfl⟩
  obtain ⟨a4, c4, rfl, ok4, -⟩ := own4.slice n4 hn4
  have P4 : Hid (Part.ok w4 ⟨a4, n4, c4, (encodeN ⟨k', p', e', s', t', ss⟩).2⟩) := ok4
  clear b03 b4 X3 Y3 A3' O3 own4 ok4 hn4
  by_cases hc : checkN ⟨k, p, e, s, t, rs⟩ = 0
  · by_cases hd : checkN ⟨k', p', e', s', t', ss⟩ = 0
    · rw [encodeN_ok hc, encodeN_ok hd] at *
      obtain ⟨β, hβ⟩ : ∃ β : Bool, β = true ↔ (⟨k, p, e, s, t, rs⟩ : Bat) = ⟨k', p', e', s', t', ss⟩ := bool_of _
      have hE := bstr_beq (writeN_lt _ hc) (writeN_lt _ hd) β (write_iff _ _ hc hd β hβ)
      have HQ : Hid (∀ q : Bool, (q = true ↔ (⟨k, p, e, s, t, rs⟩ : Bat) = ⟨k', p', e', s', t', ss⟩) → q = β) := fun q hq => by rw [Bool.eq_iff_iff, hq, hβ]
      have S0 := apart_S X4.out Y4.out O4.out P4.out
      have S1 : Hid (∀ W, Below w4.heap.size w4 W → _) := fun W hW => apart_S (X4.out.later hW) (Y4.out.later hW) (O4.out.later hW) (P4.out.later hW)
      simp only at S0 S1
      generalize bstr (writeN ⟨k, p, e, s, t, rs⟩) = tx at *
      generalize bstr (writeN ⟨k', p', e', s', t', ss⟩) = ty at *
      have BD : Hid (Below w4.heap.size w4 w4.drew) := (Below.refl _ _).drew
      clear hβ
      unfold ApartS at S0 S1
      go_wp2_with (first | (go_at_call 10; refine (num2_any _ _).mono ?_; rintro e w' ⟨rfl, hw'⟩; obtain rfl := hw'.symm))
      go_region_held3 (fun w' => (w'.cell? ⟨w.heap.size, 0, none⟩ = some (.int .i64 k) ∧ w'.cell? ⟨w.heap.size, 1, none⟩ = some (.int .i64 p) ∧ w'.cell? ⟨w.heap.size, 2, none⟩ = some (.int .i64 e) ∧ w'.cell? ⟨w.heap.size, 3, none⟩ = some (.int .i64 s) ∧ w'.cell? ⟨w.heap.size, 4, none⟩ = some (.bool t) ∧ w'.cell? ⟨w.heap.size, 5, none⟩ = some (.slice ad len cap)) ∧ (w'.cell? ⟨w.heap.size + 1, 0, none⟩ = some (.int .i64 k') ∧ w'.cell? ⟨w.heap.size + 1, 1, none⟩ = some (.int .i64 p') ∧ w'.cell? ⟨w.heap.size + 1, 2, none⟩ = some (.int .i64 e') ∧ w'.cell? ⟨w.heap.size + 1, 3, none⟩ = some (.int .i64 s') ∧ w'.cell? ⟨w.heap.size + 1, 4, none⟩ = some (.bool t') ∧ w'.cell? ⟨w.heap.size + 1, 5, none⟩ = some (.slice ad2 len2 cap2)) ∧ (convert 33 9 (.slice a2 n2 c2)).run Try.prog w' = .ok (.string tx) w' ∧ (convert 33 9 (.slice a4 n4 c4)).run Try.prog w' = .ok (.string ty) w')
        (first | exact S1.out _ BD.out | exact S1.out _ B5.out | exact S1.out _ B6.out)
        (first
          | (go_at_call 15; refine (same_any k p e s k' p' e' s' t t' rs ss ad ad2 len cap len2 cap2 _ ((HA.out.later b04).later BD.out) ((HB.out.later b04).later BD.out)).mono ?_; rintro r w5 ⟨q, rfl, hq, b5⟩; obtain rfl := HQ.out q hq; have B5 : Hid (Below w4.heap.size w4 w5) := BD.out.trans (b5.mono BD.out.size); clear hq)
          | (go_at_call 16; refine (knows2_any _).mono ?_; rintro r w6 ⟨rfl, b6⟩; have B6 : Hid (Below w4.heap.size w4 w6) := B5.out.trans (b6.mono B5.out.size)))
      go_wp2
      go_ret
      exact ⟨rfl, b04.trans (B6.out.mono b04.size)⟩
    · rw [encodeN_ok hc, encodeN_err hd] at *
      have hd2 : (checkN ⟨k', p', e', s', t', ss⟩ != 0) = true := by simpa using hd
      generalize checkN ⟨k', p', e', s', t', ss⟩ = c at *
      go_wp2_with (first | (go_at_call 10; refine (num2_any _ _).mono ?_; rintro e w' ⟨rfl, hw'⟩; obtain rfl := hw'.symm) | (go_at_call 16; refine (knows2_any _).mono ?_; rintro r w5 ⟨rfl, b5⟩))
      go_ret
      exact ⟨rfl, b04.trans (b5.mono b04.size)⟩
  · rw [encodeN_err hc] at *
    have hc2 : (checkN ⟨k, p, e, s, t, rs⟩ != 0) = true := by simpa using hc
    generalize checkN ⟨k, p, e, s, t, rs⟩ = c at *
    go_wp2_with (first | (go_at_call 10; refine (num2_any _ _).mono ?_; rintro e w' ⟨rfl, hw'⟩; obtain rfl := hw'.symm) | (go_at_call 16; refine (knows2_any _).mono ?_; rintro r w5 ⟨rfl, b5⟩))
    go_ret
    exact ⟨rfl, b04.trans (b5.mono b04.size)⟩
end Go.Proofs.Ytmkdkclakndkpaa
