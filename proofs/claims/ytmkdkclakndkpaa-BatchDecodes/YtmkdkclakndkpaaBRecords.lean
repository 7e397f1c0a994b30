/- What the method records of package batch's reader does. -/
import Derived.Test.YtmkdkclakndkpaaBRecord
namespace Go.Proofs.Ytmkdkclakndkpaa
open Go.RowKit

theorem one_box (w : World) : Blk (w.alloc (.cells #[.int .i64 0] 3)) w.heap.size #[.int .i64 0] 3 := heap_alloc_new _ _
/-- What has been read so far: a prefix of what is to be read. -/
theorem readN1_le (l : List Nat) (p n m : Nat) (h : n ≤ m) (hm : (readN1 l p m).isSome = true) : (readN1 l p n).isSome = true := by
  induction m with
  | zero =>
    obtain rfl : n = 0 := by omega
    exact hm
  | succ m ih =>
    by_cases e : n = m + 1
    · subst e; exact hm
    · apply ih (by omega)
      rw [readN1] at hm
      cases h1 : readN1 l p m with
      | none => rw [h1] at hm; cases hm
      | some x => rfl
theorem readN1_none_le (l : List Nat) (p n m : Nat) (h : n ≤ m) (hn : readN1 l p n = none) : readN1 l p m = none := by
  cases hm : readN1 l p m with
  | none => rfl
  | some x =>
    have h2 := readN1_le l p n m h (by rw [hm]; rfl)
    rw [hn] at h2; cases h2
theorem recAt1_bound {l : List Nat} {p q : Nat} {r : Rec} (h : recAt1 l p = some (r, q)) : q ≤ l.length := by
  by_cases h1 : p + 3 + lenAt l (p + 1) ≤ l.length
  · by_cases h2 : p + 3 + lenAt l (p + 1) + 2 + lenAt l (p + 3 + lenAt l (p + 1)) ≤ l.length
    · rw [recAt_some h1 h2] at h
      have e := (Prod.mk.inj (Option.some.inj h)).2
      omega
    · rw [recAt_none2 h2] at h; cases h
  · rw [recAt_none1 h1] at h; cases h
theorem readN1_bound {l : List Nat} {p n q : Nat} {rs : List Rec} (hp : p ≤ l.length) (h : readN1 l p n = some (rs, q)) : q ≤ l.length ∧ rs.length = n := by
  induction n generalizing rs q with
  | zero =>
    rw [readN1] at h
    cases h
    exact ⟨hp, rfl⟩
  | succ n ih =>
    rw [readN1] at h
    cases h1 : readN1 l p n with
    | none => rw [h1] at h; cases h
    | some x =>
      obtain ⟨ss, q1⟩ := x
      rw [h1] at h
      simp only at h
      cases h2 : recAt1 l q1 with
      | none => rw [h2] at h; cases h
      | some y =>
        obtain ⟨r, q2⟩ := y
        rw [h2] at h
        simp only [Option.some.injEq, Prod.mk.injEq] at h
        obtain ⟨rfl, rfl⟩ := h
        exact ⟨recAt1_bound h2, by simp [(ih h1).2]⟩
theorem told_lt (l : List Nat) (h : ∀ x ∈ l, x < 256) : toldRecs l < 65536 := by
  unfold toldRecs
  have h1 : ∀ x ∈ (l.drop 16).take 2, x < 256 := drop_take_lt h 16 2
  have h2 : ((l.drop 16).take 2).length ≤ 2 := by simp; omega
  generalize (l.drop 16).take 2 = m at *
  rcases m with _ | ⟨a, _ | ⟨b, _ | ⟨c, m⟩⟩⟩
  · simp [valN]
  · have := h1 a (by simp)
    simp [valN]; omega
  · have ha := h1 a (by simp)
    have hb := h1 b (by simp)
    simp [valN]; omega
  · simp at h2
set_option maxRecDepth 100000 in
set_option maxHeartbeats 2000000 in
theorem brecords_any (R : Nat) (P : Part) (fl k p e s : Int) (t : Bool) (w : World) (N : Nat) (hR : Blk w R (rdV P 16 fl k p e s t (.slice none 0 0)) 69) (hN : N ≤ R) (hp : P.ok w) (hPb : ∀ b off, P.ad = some ⟨b, off, none⟩ → b < N) (hlc : P.len ≤ P.cap) (hm : P.len ≤ 1000000000000000) (hq : 18 ≤ P.len) :
    Calls Try.prog 54 #[.pointer (some ⟨R, 0, none⟩)] w fun x w' => (readN1 P.l 18 (toldRecs P.l) = none ∧ x = .returned (.int .i64 20) ∧ Below N w w') ∨ ∃ rs q v', readN1 P.l 18 (toldRecs P.l) = some (rs, q) ∧ x = .returned (.int .i64 0) ∧ Blk w' R (rdV P (q : Nat) fl k p e s t v') 69 ∧ OwnR w' N v' rs ∧ Below N w w' := by
  obtain ⟨ad, len, cap, l⟩ := P
  simp only at hlc hm hq hPb
  have HLn : Hid (l.length = len) := hp.1
  have hlR := hR.lt
  have b0 : Below w.heap.size w (w.alloc (.cells #[.int .i64 0] 3)) := (Below.refl _ _).alloc (Nat.le_refl _) _
  have R0 : Hid (Blk (w.alloc (.cells #[.int .i64 0] 3)) R (rdV ⟨ad, len, cap, l⟩ ((16 : Nat) : Int) fl k p e s t (.slice none 0 0)) 69) := hR.later b0
  have C0 : Hid (Blk (w.alloc (.cells #[.int .i64 0] 3)) w.heap.size #[.int .i64 0] 3) := one_box w
  have P0 : Hid (Part.ok (w.alloc (.cells #[.int .i64 0] 3)) ⟨ad, len, cap, l⟩) := hp.later b0
  have B0 : Hid (Below N w (w.alloc (.cells #[.int .i64 0] 3))) := b0.mono (by omega)
  have HPb : Hid (∀ b off, ad = some ⟨b, off, none⟩ → b < N) := hPb
  have nR : w.heap.size ≠ R := by omega
  have ht : toldRecs l < 65536 := told_lt l hp.2.2.1
  have g1 := getN_ok l 16 2 (by omega) (by rw [HLn.out]; omega)
  have HC1 := bnumber_out R w.heap.size (rdV ⟨ad, len, cap, l⟩ ((16 : Nat) : Int) fl k p e s t (.slice none 0 0)) #[.int .i64 0] 3 ad len cap l 16 2 0 (w.alloc (.cells #[.int .i64 0] 3)) R0.out rfl rfl C0.out rfl nR P0.out hlc hm (by omega)
  rw [g1] at HC1
  have HT : Hid (valN ((l.drop 16).take 2) = toldRecs l) := rfl
  rw [HT.out] at HC1
  simp only at HC1
  obtain ⟨M, hM⟩ : ∃ M, toldRecs l = M := ⟨_, rfl⟩
  rw [hM] at HC1 ht ⊢
  have HP : Hid (Part.ok w ⟨ad, len, cap, l⟩) := hp
  clear hR hp hPb g1 hM HT
  go_enter Try.func54, Try.ntmps54
  go_wp2_with fail
  refine HC1.mono ?_
  rintro x w1 ⟨rfl, R1, C1, K1⟩
  have R1' : Hid (Blk w1 R (rdV ⟨ad, len, cap, l⟩ ((18 : Nat) : Int) fl k p e s t (.slice none 0 0)) 69) := R1
  have C1' : Hid (Blk w1 w.heap.size #[.int .i64 M] 3) := C1
  have B1 : Hid (Below N w w1) := B0.out.trans (K1.below (by intro k hk; simp at hk; omega) (by simp; omega))
  have y0 := C1'.out.cell 0
  simp at y0
  clear R1 C1 K1 HC1
  go_wp2_with fail
  clear y0 C1'
  go_loopw [12] (fun i wr => ∃ (j : Nat) (rs : List Rec) (q : Nat) (v : Value), j ≤ M ∧ i = .int .i64 j ∧ Hid (readN1 l 18 j = some (rs, q)) ∧ Hid (Blk wr R (rdV ⟨ad, len, cap, l⟩ (q : Int) fl k p e s t v) 69) ∧ Hid (OwnR wr N v rs) ∧ Hid (Below N w wr)) (fun i _ => M - (intOf i).toNat)
  case atStart => exact ⟨0, [], 18, .slice none 0 0, Nat.zero_le _, rfl, (show Hid _ from rfl), R1', (show Hid _ from World.ownsRow_nil _ _ _ _), B1⟩
  case round =>
    clear R1' B1
    obtain ⟨j, rs, q, v, hj, rfl, HD, HR, HO, HB⟩ := hrel
    have hbd := readN1_bound (by rw [HLn.out]; exact hq) HD.out
    rw [HLn.out] at hbd
    have PP : Hid (Part.ok wr ⟨ad, len, cap, l⟩) := Part.below HP.out HB.out HPb.out
    by_cases hlt : j < M
    · cases h2 : recAt1 l q with
      | none =>
        have HC := brecord_end R ⟨ad, len, cap, l⟩ q fl k p e s t v wr N HR.out hN PP.out HPb.out hlc hm hbd.1 h2
        have HX : Hid (readN1 l 18 M = none) := readN1_none_le l 18 (j + 1) M hlt (by rw [readN1, HD.out]; simp only [h2])
        go_wp2_with (go_at_call 59; refine HC.mono ?_; rintro x w2 ⟨rfl, b2⟩)
        go_ret
        exact Or.inl ⟨HX.out, rfl, HB.out.trans b2⟩
      | some y =>
        obtain ⟨r, q2⟩ := y
        have HC := brecord_ok R ⟨ad, len, cap, l⟩ q fl k p e s t v wr N HR.out hN PP.out HPb.out hlc hm hbd.1 rs HO.out (by omega) r q2 h2
        have HX : Hid (readN1 l 18 (j + 1) = some (rs ++ [r], q2)) := by
          show _ = _
          rw [readN1, HD.out]; simp only [h2]
        go_wp2_with (go_at_call 59; refine HC.mono ?_; rintro x w2 ⟨v2, rfl, R2, O2, b2⟩; have R2' : Hid (Blk w2 R (rdV ⟨ad, len, cap, l⟩ (q2 : Int) fl k p e s t v2) 69) := R2; have O2' : Hid (OwnR w2 N v2 (rs ++ [r])) := O2; have B2 : Hid (Below N w w2) := HB.out.trans b2; clear R2 O2 b2)
        go_roundw
        case rel => exact ⟨j + 1, rs ++ [r], q2, v2, by omega, by go_num, HX, R2', O2', B2⟩
        case measure => simp [intOf]; omega
    · obtain rfl : j = M := by omega
      go_wp2
      go_ret
      exact Or.inr ⟨rs, q, v, HD.out, rfl, HR.out, HO.out, HB.out⟩
theorem brecords_none (R : Nat) (P : Part) (fl k p e s : Int) (t : Bool) (w : World) (N : Nat) (hR : Blk w R (rdV P 16 fl k p e s t (.slice none 0 0)) 69) (hN : N ≤ R) (hp : P.ok w) (hPb : ∀ b off, P.ad = some ⟨b, off, none⟩ → b < N) (hlc : P.len ≤ P.cap) (hm : P.len ≤ 1000000000000000) (hq : 18 ≤ P.len) (h : readN1 P.l 18 (toldRecs P.l) = none) :
    Calls Try.prog 54 #[.pointer (some ⟨R, 0, none⟩)] w fun x w' => x = .returned (.int .i64 20) ∧ Below N w w' := by
  refine (brecords_any R P fl k p e s t w N hR hN hp hPb hlc hm hq).mono ?_
  rintro x w' (⟨-, rfl, hb⟩ | ⟨rs, q, v', h2, -⟩)
  · exact ⟨rfl, hb⟩
  · rw [h] at h2; cases h2
theorem brecords_some (R : Nat) (P : Part) (fl k p e s : Int) (t : Bool) (w : World) (N : Nat) (hR : Blk w R (rdV P 16 fl k p e s t (.slice none 0 0)) 69) (hN : N ≤ R) (hp : P.ok w) (hPb : ∀ b off, P.ad = some ⟨b, off, none⟩ → b < N) (hlc : P.len ≤ P.cap) (hm : P.len ≤ 1000000000000000) (hq : 18 ≤ P.len) (rs : List Rec) (q : Nat) (h : readN1 P.l 18 (toldRecs P.l) = some (rs, q)) :
    Calls Try.prog 54 #[.pointer (some ⟨R, 0, none⟩)] w fun x w' => ∃ v', x = .returned (.int .i64 0) ∧ Blk w' R (rdV P (q : Nat) fl k p e s t v') 69 ∧ OwnR w' N v' rs ∧ Below N w w' := by
  refine (brecords_any R P fl k p e s t w N hR hN hp hPb hlc hm hq).mono ?_
  rintro x w' (⟨h2, -⟩ | ⟨rs2, q2, v', h2, rfl, h3, h4, h5⟩)
  · rw [h] at h2; cases h2
  · rw [h] at h2
    cases h2
    exact ⟨v', rfl, h3, h4, h5⟩
set_option maxRecDepth 100000 in
theorem brecords_short (R : Nat) (P : Part) (fl k p e s : Int) (t : Bool) (w : World) (N : Nat) (hR : Blk w R (rdV P 16 fl k p e s t (.slice none 0 0)) 69) (hN : N ≤ R) (hp : P.ok w) (hlc : P.len ≤ P.cap) (hm : P.len ≤ 1000000000000000) (hq : ¬ 18 ≤ P.len) :
    Calls Try.prog 54 #[.pointer (some ⟨R, 0, none⟩)] w fun x w' => x = .returned (.int .i64 20) ∧ Below N w w' := by
  obtain ⟨ad, len, cap, l⟩ := P
  simp only at hlc hm hq
  have HLn : Hid (l.length = len) := hp.1
  have hlR := hR.lt
  have b0 : Below w.heap.size w (w.alloc (.cells #[.int .i64 0] 3)) := (Below.refl _ _).alloc (Nat.le_refl _) _
  have R0 : Hid (Blk (w.alloc (.cells #[.int .i64 0] 3)) R (rdV ⟨ad, len, cap, l⟩ ((16 : Nat) : Int) fl k p e s t (.slice none 0 0)) 69) := hR.later b0
  have C0 : Hid (Blk (w.alloc (.cells #[.int .i64 0] 3)) w.heap.size #[.int .i64 0] 3) := one_box w
  have P0 : Hid (Part.ok (w.alloc (.cells #[.int .i64 0] 3)) ⟨ad, len, cap, l⟩) := hp.later b0
  have B0 : Hid (Below N w (w.alloc (.cells #[.int .i64 0] 3))) := b0.mono (by omega)
  have nR : w.heap.size ≠ R := by omega
  have g1 := getN_end l 16 2 (by omega) (by rw [HLn.out]; omega)
  have HC1 := bnumber_out R w.heap.size (rdV ⟨ad, len, cap, l⟩ ((16 : Nat) : Int) fl k p e s t (.slice none 0 0)) #[.int .i64 0] 3 ad len cap l 16 2 0 (w.alloc (.cells #[.int .i64 0] 3)) R0.out rfl rfl C0.out rfl nR P0.out hlc hm (by omega)
  rw [show getN l ((16 : Nat) : Int) ((2 : Nat) : Int) = (0, 0, 20) from g1] at HC1
  clear hR hp g1
  go_enter Try.func54, Try.ntmps54
  go_wp2_with (go_at_call 58; refine HC1.mono ?_; rintro x w1 ⟨rfl, R1, C1, K1⟩; have B1 : Hid (Below N w w1) := B0.out.trans (K1.below (by intro k hk; simp at hk; omega) (by simp; omega)); clear R1 C1 K1)
  go_ret
  exact ⟨rfl, B1.out⟩
end Go.Proofs.Ytmkdkclakndkpaa
