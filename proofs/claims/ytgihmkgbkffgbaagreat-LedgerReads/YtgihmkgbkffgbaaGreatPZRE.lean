/- What the document's own Encode (package ref) answers: P203. What is read of the document's own Decode: its mathematics, and its post. -/
import Derived.Test.YtgihmkgbkffgbaaGreatPZRW
import Derived.Test.YtgihmkgbkffgbaaGreatPZRget
import Derived.Test.YtgihmkgbkffgbaaGreatDecode
namespace Go.Proofs.YtgihmkgbkffgbaaGreat
open Go.RowKit

set_option maxHeartbeats 1000000 in
theorem refEncode_any (k p e s : Int) (t : Bool) (rs : List Rec) (ad : Option Addr) (len cap : Nat) (w : World) (h : BArg w ⟨k, p, e, s, t, rs⟩ ad len cap) :
    Calls Tryz.prog 34 #[.agg #[.int .i64 k, .int .i64 p, .int .i64 e, .int .i64 s, .bool t, .slice ad len cap]] w fun r w' => ∃ v, r = .returned (.tuple #[v, .int .i64 (encodeN ⟨k, p, e, s, t, rs⟩).1]) ∧ Own w' w.heap.size v (encodeN ⟨k, p, e, s, t, rs⟩).2 ∧ Below w.heap.size w w' := by
  have b0 : Below w.heap.size w (w.alloc (.cells #[.int .i64 k, .int .i64 p, .int .i64 e, .int .i64 s, .bool t, .slice ad len cap] 25)) := (Below.refl _ _).alloc (Nat.le_refl _) _
  have HA : Hid (BArg (w.alloc (.cells #[.int .i64 k, .int .i64 p, .int .i64 e, .int .i64 s, .bool t, .slice ad len cap] 25)) ⟨k, p, e, s, t, rs⟩ ad len cap) := h.later b0
  have X0 : Hid (BBox (w.alloc (.cells #[.int .i64 k, .int .i64 p, .int .i64 e, .int .i64 s, .bool t, .slice ad len cap] 25)) w.heap.size k p e s t (.slice ad len cap)) := BBox.new w k p e s t _
  clear h
  by_cases hc : checkN ⟨k, p, e, s, t, rs⟩ = 0
  · have hE : encodeN ⟨k, p, e, s, t, rs⟩ = (0, writeN ⟨k, p, e, s, t, rs⟩) := by unfold encodeN; rw [if_pos hc]
    rw [hE]
    clear hE
    obtain ⟨hk, -, -, he, -, hs, -, -, -, -⟩ := checkN_nums hc
    simp only at hk he hs
    obtain ⟨kn, rfl⟩ := Int.eq_ofNat_of_zero_le (show 0 ≤ k by omega)
    obtain ⟨en, rfl⟩ := Int.eq_ofNat_of_zero_le he
    obtain ⟨sn, rfl⟩ := Int.eq_ofNat_of_zero_le hs
    clear hk he hs
    have HC : Hid (checkN ⟨kn, p, en, sn, t, rs⟩ = 0) := hc
    clear hc
    go_enter Tryz.func34, Tryz.ntmps34
    go_wp2_with (first | (go_at_call 42; refine (refCheck_any kn p en sn t rs ad len cap _ HA.out).mono ?_; rintro r w1 ⟨rfl, b1⟩; rw [HC.out]; have A1 : Hid (BArg w1 ⟨kn, p, en, sn, t, rs⟩ ad len cap) := HA.out.later b1; have X1 : Hid (BBox w1 w.heap.size kn p en sn t (.slice ad len cap)) := X0.out.later b1; have b01 : Below w.heap.size w w1 := b0.trans (b1.mono b0.size); have Y1 := X1.out; have c0 := Y1.c0; have c1 := Y1.c1; have c2 := Y1.c2; have c3 := Y1.c3; have c4 := Y1.c4; have c5 := Y1.c5; clear Y1 b0 b1) | (go_at_call 43; refine (refWrite_any kn en sn p t rs ad len cap _ A1.out HC.out).mono ?_; rintro r w2 ⟨v2, rfl, own2, b2⟩; have O2 : Hid (Own w2 w.heap.size v2 (writeN ⟨kn, p, en, sn, t, rs⟩)) := own2.down b01.size; have b02 : Below w.heap.size w w2 := b01.trans (b2.mono b01.size); clear own2 b2))
    go_ret2
    exact ⟨_, rfl, O2.out, b02⟩
  · have hE : encodeN ⟨k, p, e, s, t, rs⟩ = (checkN ⟨k, p, e, s, t, rs⟩, []) := by unfold encodeN; rw [if_neg hc]
    rw [hE]
    clear hE
    generalize hcc : checkN ⟨k, p, e, s, t, rs⟩ = c at hc ⊢
    have hc2 : (c != 0) = true := by simpa using hc
    go_enter Tryz.func34, Tryz.ntmps34
    go_wp2_with (go_at_call 42; refine (refCheck_any k p e s t rs ad len cap _ HA.out).mono ?_; rintro r w1 ⟨rfl, b1⟩; rw [hcc]; clear hcc)
    go_ret2
    exact ⟨_, rfl, Own.nil _ _, b0.trans (b1.mono b0.size)⟩
end Go.Proofs.YtgihmkgbkffgbaaGreat
namespace Go.Proofs.YtgihmkgbkffgbaaGreat
open Go.RowKit

theorem flag8_two : ∀ n, n < 256 → (bits .and .u8 (n : Nat) 2 != 0) = (n / 2 % 2 == 1) := by decide +kernel
theorem flag8_one : ∀ n, n < 256 → (bits .and .u8 (n : Nat) 1 != 0) = (n % 2 == 1) := by decide +kernel
/-- What Decode answers. -/
def DecPost (l : List Nat) (w : World) (x : Ending) (w' : World) : Prop :=
  ∃ k p e s t rs a n c, x = .returned (.tuple #[.agg #[.int .i64 k, .int .i64 p, .int .i64 e, .int .i64 s, .bool t, .slice a n c], .int .i64 (decodeN l).2]) ∧ (⟨k, p, e, s, t, rs⟩ : Bat) = (decodeN l).1 ∧ BArg w' ⟨k, p, e, s, t, rs⟩ a n c ∧ Below w.heap.size w w'
theorem decPost_zero {l : List Nat} {w w' : World} {x : Ending} {c : Int} (h : decodeN l = (bat0, c)) (hx : x = .returned (.tuple #[.agg #[.int .i64 0, .int .i64 0, .int .i64 0, .int .i64 0, .bool false, .slice none 0 0], .int .i64 c])) (hb : Below w.heap.size w w') : DecPost l w x w' := by
  refine ⟨0, 0, 0, 0, false, [], none, 0, 0, ?_, ?_, ⟨rfl, fun _ => ⟨rfl, rfl⟩, by omega, by unfold maxLen; omega, Or.inl rfl, fun r hr => (by cases hr)⟩, hb⟩
  · rw [h]; exact hx
  · rw [h]; rfl
theorem decPost_ok {l : List Nat} {w w' : World} {x : Ending} {k p e s : Int} {t : Bool} {rs : List Rec} {a : Option Addr} {n c : Nat} (h : decodeN l = (⟨k, p, e, s, t, rs⟩, 0)) (hx : x = .returned (.tuple #[.agg #[.int .i64 k, .int .i64 p, .int .i64 e, .int .i64 s, .bool t, .slice a n c], .int .i64 0])) (hA : BArg w' ⟨k, p, e, s, t, rs⟩ a n c) (hb : Below w.heap.size w w') : DecPost l w x w' := by
  refine ⟨k, p, e, s, t, rs, a, n, c, ?_, ?_, hA, hb⟩
  · rw [h]; exact hx
  · rw [h]
theorem readN_none_le (l : List Nat) (p n m : Nat) (h : n ≤ m) (hn : readN l p n = none) : readN l p m = none := by
  have h2 := readN_none hn (m - n)
  rwa [show n + (m - n) = m by omega] at h2
theorem recAt_none_a {l : List Nat} {p : Nat} (h1 : ¬ p + 3 + lenAt l (p + 1) ≤ l.length) : recAt l p = none := by unfold recAt; rw [if_neg h1]
theorem recAt_none_b {l : List Nat} {p : Nat} (h2 : ¬ p + 3 + lenAt l (p + 1) + 2 + lenAt l (p + 3 + lenAt l (p + 1)) ≤ l.length) : recAt l p = none := by
  unfold recAt
  by_cases h1 : p + 3 + lenAt l (p + 1) ≤ l.length
  · rw [if_pos h1, if_neg h2]
  · rw [if_neg h1]
theorem int_zero (n : Nat) : ((n : Int) != 0) = (n != 0) := by
  rw [Bool.eq_iff_iff]; simp
theorem recAt_ok {l : List Nat} {p : Nat} (h1 : p + 3 + lenAt l (p + 1) ≤ l.length) {q1 : Nat} (hq1 : p + 3 + lenAt l (p + 1) = q1) (h2 : q1 + 2 + lenAt l q1 ≤ l.length) {q2 : Nat} (hq2 : q1 + 2 + lenAt l q1 = q2) :
    recAt l p = some (⟨bstr ((l.drop (p + 1 + 2)).take (lenAt l (p + 1))), bstr ((l.drop (q1 + 2)).take (lenAt l q1)), ((l.getD p 0 : Nat) : Int) != 0⟩, q2) := by
  subst hq1
  subst hq2
  unfold recAt; rw [if_pos h1, if_pos h2, int_zero]
theorem readN_bound {l : List Nat} {p n q : Nat} {rs : List Rec} (hp : p ≤ l.length) (h : readN l p n = some (rs, q)) : q ≤ l.length ∧ rs.length = n := by
  induction n generalizing rs q with
  | zero =>
    rw [readN] at h
    cases h
    exact ⟨hp, rfl⟩
  | succ n ih =>
    rw [readN] at h
    cases h1 : readN l p n with
    | none => rw [h1] at h; cases h
    | some x =>
      obtain ⟨ss, q1⟩ := x
      rw [h1] at h
      simp only at h
      cases h2 : recAt l q1 with
      | none => rw [h2] at h; cases h
      | some y =>
        obtain ⟨r, q2⟩ := y
        rw [h2] at h
        simp only [Option.some.injEq, Prod.mk.injEq] at h
        obtain ⟨rfl, rfl⟩ := h
        exact ⟨(recAt_append [] h2).2.1, by simp [(ih h1).2]⟩
theorem two_bats (w : World) (k p e s : Int) (t : Bool) (v : Value) (k' p' e' s' : Int) (t' : Bool) (v' : Value) :
    BBox (((w.alloc (.cells #[.int .i64 k, .int .i64 p, .int .i64 e, .int .i64 s, .bool t, v] 25)).alloc (.cells #[.int .i64 k', .int .i64 p', .int .i64 e', .int .i64 s', .bool t', v'] 25)).drew) w.heap.size k p e s t v ∧
    BBox (((w.alloc (.cells #[.int .i64 k, .int .i64 p, .int .i64 e, .int .i64 s, .bool t, v] 25)).alloc (.cells #[.int .i64 k', .int .i64 p', .int .i64 e', .int .i64 s', .bool t', v'] 25)).drew) (w.heap.size + 1) k' p' e' s' t' v' ∧
    Below w.heap.size w (((w.alloc (.cells #[.int .i64 k, .int .i64 p, .int .i64 e, .int .i64 s, .bool t, v] 25)).alloc (.cells #[.int .i64 k', .int .i64 p', .int .i64 e', .int .i64 s', .bool t', v'] 25)).drew) := by
  refine ⟨?_, ?_, ?_⟩
  · exact (BBox.new w k p e s t v).later (((Below.refl _ _).alloc (Nat.le_refl _) _).drew)
  · have h := BBox.new (w.alloc (.cells #[.int .i64 k, .int .i64 p, .int .i64 e, .int .i64 s, .bool t, v] 25)) k' p' e' s' t' v'
    have e1 : (w.alloc (.cells #[.int .i64 k, .int .i64 p, .int .i64 e, .int .i64 s, .bool t, v] 25)).heap.size = w.heap.size + 1 := by simp
    rw [e1] at h
    exact h
  · exact (((Below.refl _ _).alloc (Nat.le_refl _) _).alloc (by simp) _).drew
/-- One Record more. -/
theorem refapp_step {w wr w6 : World} {k p e s : Int} {t : Bool} {v v6 : Value} {rs : List Rec} {r : Rec} (hq : BBox wr w.heap.size 0 0 0 0 false (.slice none 0 0)) (hb : BBox wr (w.heap.size + 1) k p e s t v) (ho : OwnR wr w.heap.size v rs) (hw : Below w.heap.size w wr)
    (O6 : w6.ownsRow w.heap.size 88 3 v6 (rs.length + 1) (recsV (rs ++ [r]))) (hg : (wr.alloc (.cells #[.string r.key, .string r.val, .bool r.dead] 88)).grownBy w6 v.ownBlock) :
    OwnR w6 w.heap.size v6 (rs ++ [r]) ∧ BBox w6 w.heap.size 0 0 0 0 false (.slice none 0 0) ∧ BBox w6 (w.heap.size + 1) k p e s t v ∧ Below w.heap.size w w6 ∧ ∃ a n c, v6 = .slice a n c := by
  have ba : Below wr.heap.size wr (wr.alloc (.cells #[.string r.key, .string r.val, .bool r.dead] 88)) := (Below.refl _ _).alloc (Nat.le_refl _) _
  have OO : OwnR w6 w.heap.size v6 (rs ++ [r]) := by unfold OwnR; rw [List.length_append]; exact O6
  refine ⟨OO, (hq.later ba).grown hg (fun e => ownR_typed ho hq (by decide) e.symm), (hb.later ba).grown hg (fun e => ownR_typed ho hb (by decide) e.symm), ?_, ?_⟩
  · exact (hw.trans (ba.mono hw.size)).grown hg (by simp; have := hw.size; omega) (fun k hk => (ownR_lt ho k hk).1)
  · obtain ⟨a, c, h, -⟩ := OO.form
    exact ⟨a, _, c, h⟩
theorem recAt_sizes {l : List Nat} {p q : Nat} {r : Rec} (hl : ∀ x ∈ l, x < 256) (h : recAt l p = some (r, q)) : r.key.size ≤ l.length ∧ r.val.size ≤ l.length := by
  by_cases h1 : p + 3 + lenAt l (p + 1) ≤ l.length
  · by_cases h2 : p + 3 + lenAt l (p + 1) + 2 + lenAt l (p + 3 + lenAt l (p + 1)) ≤ l.length
    · rw [recAt_ok h1 rfl h2 rfl] at h
      have e := (Prod.mk.inj (Option.some.inj h)).1
      subst e
      simp only
      rw [bstr_size _ (drop_take_lt hl _ _), bstr_size _ (drop_take_lt hl _ _)]
      simp; omega
    · rw [recAt_none_b h2] at h; cases h
  · rw [recAt_none_a h1] at h; cases h
theorem readN_sizes {l : List Nat} (hl : ∀ x ∈ l, x < 256) {p n q : Nat} {rs : List Rec} (h : readN l p n = some (rs, q)) : ∀ r ∈ rs, r.key.size ≤ l.length ∧ r.val.size ≤ l.length := by
  induction n generalizing rs q with
  | zero =>
    rw [readN] at h
    cases h
    intro r hr; cases hr
  | succ n ih =>
    rw [readN] at h
    cases h1 : readN l p n with
    | none => rw [h1] at h; cases h
    | some x =>
      obtain ⟨ss, q1⟩ := x
      rw [h1] at h
      simp only at h
      cases h2 : recAt l q1 with
      | none => rw [h2] at h; cases h
      | some y =>
        obtain ⟨r, q2⟩ := y
        rw [h2] at h
        simp only [Option.some.injEq, Prod.mk.injEq] at h
        obtain ⟨rfl, rfl⟩ := h
        intro z hz
        rcases List.mem_append.1 hz with hz | hz
        · exact ih h1 z hz
        · simp at hz; subst hz; exact recAt_sizes hl h2
/-- What the last test of Decode reads: the batch's box, the bytes that came. -/
def DecS (B : Nat) (k p e s : Int) (t : Bool) (v x : Value) (tx : ByteArray) (w' : World) : Prop :=
  (w'.cell? ⟨B, 0, none⟩ = some (.int .i64 k) ∧ w'.cell? ⟨B, 1, none⟩ = some (.int .i64 p) ∧ w'.cell? ⟨B, 2, none⟩ = some (.int .i64 e) ∧ w'.cell? ⟨B, 3, none⟩ = some (.int .i64 s) ∧ w'.cell? ⟨B, 4, none⟩ = some (.bool t) ∧ w'.cell? ⟨B, 5, none⟩ = some v) ∧
  (convert 22 9 x).run Tryz.prog w' = .ok (.string tx) w'
theorem dec_S {W : World} {B : Nat} {k p e s : Int} {t : Bool} {v : Value} {a : Option Addr} {n c : Nat} {l : List Nat} (hx : BBox W B k p e s t v) (hp : Part.ok W ⟨a, n, c, l⟩) : DecS B k p e s t v (.slice a n c) (bstr l) W :=
  ⟨⟨hx.c0, hx.c1, hx.c2, hx.c3, hx.c4, hx.c5⟩, conv_any hp.2.2 n c hp.1⟩
end Go.Proofs.YtgihmkgbkffgbaaGreat
