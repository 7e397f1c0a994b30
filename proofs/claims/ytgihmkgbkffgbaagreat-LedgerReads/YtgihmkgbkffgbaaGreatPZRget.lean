/- What the document's own Get (package ref) answers. What the document's own Unframe (package ref) answers: the same as wire.Unframe. What the document's own GetText (package ref) answers: the same as wire.GetText. -/
import Derived.Test.YtgihmkgbkffgbaaGreatPZMath
import Derived.Test.YtgihmkgbkffgbaaGreatPZRef
namespace Go.Proofs.YtgihmkgbkffgbaaGreat
open Go.RowKit

set_option maxHeartbeats 400000 in
theorem refGet_ok (ad : Option Addr) (len cap : Nat) (l : List Nat) (p s : Nat) (w : World) (hp : Part.ok w ⟨ad, len, cap, l⟩) (hl : len ≤ 1000000000000000) (h1 : 1 ≤ s) (h6 : s ≤ 6) (hps : p + s ≤ len) :
    Calls Tryz.prog 20 #[.slice ad len cap, .int .i64 p, .int .i64 s] w fun e w' => e = .returned (.tuple #[.int .i64 (valN ((l.drop p).take s) : Nat), .int .i64 ((p + s : Nat) : Int), .int .i64 0]) ∧ w' = w := by
  obtain ⟨b, off, rfl, hb, hc⟩ := hp.cells (by omega)
  have HC : Hid (∀ i, i < len → w.cell? ⟨b, off + i, none⟩ = some (.int .u8 (l.getD i 0 : Nat))) := hc
  have HB : Hid (∀ x ∈ l, x < 256) := hp.2.2.1
  have HL : Hid (l.length = len) := hp.1
  clear hp hc
  go_enter Tryz.func20, Tryz.ntmps20
  go_wp2
  go_loop [9, 10] (fun n i => ∃ k : Nat, k ≤ s ∧ i = .int .i64 k ∧ n = .int .i64 (valN ((l.drop p).take k) : Nat)) (fun _ i => s - (intOf i).toNat)
  case atStart => exact ⟨0, Nat.zero_le _, rfl, rfl⟩
  case round =>
    obtain ⟨k, hk, rfl, rfl⟩ := hrel
    by_cases hlt : k < s
    · have hck := HC.out (p + k) (by omega)
      have hx := getD_lt HB.out (p + k)
      have HS : Hid (wrap64 (((valN ((l.drop p).take k) : Nat) : Int) + wrap64 ((l.getD (p + k) 0 : Int) * 2 ^ (8 * k))) = ((valN ((l.drop p).take (k + 1)) : Nat) : Int)) := by
        show _ = _
        rw [drop_take_snoc l p k (by rw [HL.out]; omega)]
        exact add_step _ _ k (drop_take_lt HB.out p k) hx (drop_take_length l p k (by rw [HL.out]; omega)) (by omega)
      generalize l.getD (p + k) 0 = x at *
      go_wp2
      go_round
      case rel => exact ⟨k + 1, by omega, by go_num, val_int (HS.out)⟩
      case measure => simp [intOf]; omega
    · obtain rfl : k = s := by omega
      go_wp2
      go_ret3
      exact ⟨rfl, rfl⟩
set_option maxHeartbeats 400000 in
theorem refGet_any (ad : Option Addr) (len cap : Nat) (l : List Nat) (p s : Int) (w : World) (hp : Part.ok w ⟨ad, len, cap, l⟩) (hl : len ≤ 1000000000000000) (hp2 : p ≤ 9223372036854775807) :
    Calls Tryz.prog 20 #[.slice ad len cap, .int .i64 p, .int .i64 s] w fun e w' => e = .returned (.tuple #[.int .i64 (getN l p s).1, .int .i64 (getN l p s).2.1, .int .i64 (getN l p s).2.2]) ∧ w' = w := by
  have hlen : l.length = len := hp.1
  by_cases h : 1 ≤ s ∧ s ≤ 6 ∧ 0 ≤ p
  · by_cases h2 : p + s ≤ len
    · obtain ⟨k, rfl⟩ := Int.eq_ofNat_of_zero_le (show 0 ≤ s by omega)
      obtain ⟨q, rfl⟩ := Int.eq_ofNat_of_zero_le h.2.2
      rw [getN_ok l q k (by omega) (by omega)]
      exact refGet_ok ad len cap l q k w hp hl (by omega) (by omega) (by omega)
    · rw [getN_end l p s h (by omega)]
      clear hp hlen
      by_cases h3 : (len : Int) < p
      · go_enter Tryz.func20, Tryz.ntmps20
        go_wp2
        go_ret3
        exact ⟨rfl, rfl⟩
      · obtain ⟨h4, h5, h6⟩ := h
        go_enter Tryz.func20, Tryz.ntmps20
        go_wp2
        go_ret3
        exact ⟨rfl, rfl⟩
  · rw [getN_arg l p s h]
    clear hp hlen
    by_cases h1 : s < 1
    · go_enter Tryz.func20, Tryz.ntmps20
      go_wp2
      go_ret3
      exact ⟨rfl, rfl⟩
    · by_cases h6 : 6 < s
      · clear h
        go_enter Tryz.func20, Tryz.ntmps20
        go_wp2
        go_ret3
        exact ⟨rfl, rfl⟩
      · have h7 : p < 0 := by omega
        clear h
        go_enter Tryz.func20, Tryz.ntmps20
        go_wp2
        go_ret3
        exact ⟨rfl, rfl⟩
end Go.Proofs.YtgihmkgbkffgbaaGreat
namespace Go.Proofs.YtgihmkgbkffgbaaGreat
open Go.RowKit Crcm

set_option maxHeartbeats 2000000 in
theorem refUnframe_full (ad : Option Addr) (len cap : Nat) (l : List Nat) (p : Nat) (w : World) (hp : Part.ok w ⟨ad, len, cap, l⟩) (hlc : len ≤ cap) (hm : len ≤ 1000000000000000) (hn : sizeAt l p ≤ 65536) (h : p + 9 + sizeAt l p ≤ len) :
    Calls Tryz.prog 18 #[.slice ad len cap, .int .i64 p] w fun e w' => Below w.heap.size w w' ∧
      (sumAt l p = crc (toldAt l p) → ∃ v, e = .returned (.tuple #[.int .i64 (kindAt l p : Nat), v, .int .i64 ((p + 9 + sizeAt l p : Nat) : Int), .int .i64 0]) ∧ Own w' w.heap.size v (bodyAt l p)) ∧
      (sumAt l p ≠ crc (toldAt l p) → e = .returned (.tuple #[.int .i64 0, .slice none 0 0, .int .i64 0, .int .i64 21])) := by
  have HL : Hid (l.length = len) := hp.1
  have HP : Hid (Part.ok w ⟨ad, len, cap, l⟩) := hp
  clear hp
  have e1 : getN l ((p + 1 : Nat) : Int) 4 = (((sizeAt l p : Nat) : Int), ((p + 5 : Nat) : Int), 0) := getN_ok l (p + 1) 4 (by omega) (by rw [HL.out]; omega)
  have e2 : getN l ((p + 5 + sizeAt l p : Nat) : Int) 4 = (((sumAt l p : Nat) : Int), ((p + 9 + sizeAt l p : Nat) : Int), 0) := by
    have e := getN_ok l (p + 5 + sizeAt l p) 4 (by omega) (by rw [HL.out]; omega)
    rw [show p + 5 + sizeAt l p + 4 = p + 9 + sizeAt l p by omega] at e
    exact e
  have E1 : Hid (getN l ((p + 1 : Nat) : Int) 4 = (((sizeAt l p : Nat) : Int), ((p + 5 : Nat) : Int), 0)) := e1
  have E2 : Hid (getN l ((p + 5 + sizeAt l p : Nat) : Int) 4 = (((sumAt l p : Nat) : Int), ((p + 9 + sizeAt l p : Nat) : Int), 0)) := e2
  clear e1 e2
  have hne : ¬ cap = p := by omega
  go_enter Tryz.func18, Tryz.ntmps18
  go_wp2_with fail
  rw [show ((p : Int) + 1) = ((p + 1 : Nat) : Int) by omega]
  refine (refGet_any ad len cap l _ 4 _ HP.out hm (by omega)).mono ?_
  rintro e w1 ⟨rfl, hw1⟩
  obtain rfl := hw1.symm
  rw [E1.out]
  simp only
  go_wp2_with fail
  rw [show ((p : Int) + 5 + (sizeAt l p : Int)) = ((p + 5 + sizeAt l p : Nat) : Int) by omega]
  refine (refGet_any ad len cap l _ 4 _ HP.out hm (by omega)).mono ?_
  rintro e w2 ⟨rfl, hw2⟩
  obtain rfl := hw2.symm
  rw [E2.out]
  simp only
  have ht : Hid ((toldAt l p).length = p + 5 + sizeAt l p - p) := by
    show _ = _
    rw [toldAt, drop_take_length _ _ _ (by rw [HL.out]; omega)]; omega
  have kr : Hid (Row w (ad.map (fun x => x.add p)) (toldAt l p)) := by
    have hk := (cutP_ok HP.out p (5 + sizeAt l p) (by show _ ≤ len; omega) hlc).2.2
    rw [cutP_l] at hk
    unfold cutP at hk
    rw [if_neg hne] at hk
    exact hk
  go_wp2_with fail
  refine (refCrc_any _ _ (cap - p) (toldAt l p) _ ht.out (by unfold maxLen; omega) kr.out).mono ?_
  rintro e w3 ⟨rfl, hw3⟩
  obtain rfl := hw3.symm
  have hc3 := crc_lt (toldAt l p)
  by_cases hs : sumAt l p = crc (toldAt l p)
  · have hq : (((crc (toldAt l p) : Nat) : Int) != ((sumAt l p : Nat) : Int)) = false := by rw [hs]; simp
    have HS : Hid (sumAt l p = crc (toldAt l p)) := hs
    clear hs
    obtain ⟨b, off, rfl, hb, hcell⟩ := HP.out.cells (by omega)
    have hk0 := hcell p (by omega)
    rw [← kindAt_eq l p (by rw [HL.out]; omega)] at hk0
    have b1 : Below w.heap.size w (w.alloc (.cells #[] 5)).drew := ((Below.refl _ _).alloc (Nat.le_refl _) _).drew
    have hk1 : (w.alloc (.cells #[] 5)).drew.cell? ⟨b, off + p, none⟩ = some (.int .u8 ((kindAt l p : Nat) : Int)) := by rw [b1.cell (p := ⟨b, off + p, none⟩) hb]; exact hk0
    have HC : Hid (∀ i, i < len → w.cell? ⟨b, off + i, none⟩ = some (.int .u8 (l.getD i 0 : Nat))) := hcell
    clear hcell kr
    have kb : (kindAt l p : Nat) < 256 := by rw [kindAt_eq l p (by rw [HL.out]; omega)]; exact getD_lt HP.out.2.2.1 p
    have hne5 : ¬ cap = p + 5 := by omega
    have i0 : (0 : Int) ≤ (p : Int) := by omega
    have i1 : (p : Int) < (len : Int) := by omega
    have i2 : (0 : Int) ≤ (p : Int) + 5 := by omega
    have i3 : (p : Int) + 5 ≤ (p : Int) + 5 + ((sizeAt l p : Nat) : Int) := by omega
    have i4 : (p : Int) + 5 + ((sizeAt l p : Nat) : Int) ≤ (cap : Int) := by omega
    have i5 : IntKind.i64.wrap ((p : Int) + 5 + ((sizeAt l p : Nat) : Int)) = (p : Int) + 5 + ((sizeAt l p : Nat) : Int) := by
      simp [IntKind.wrap, IntKind.bits, IntKind.signed]; omega
    have i6 : IntKind.i64.wrap ((kindAt l p : Nat) : Int) = ((kindAt l p : Nat) : Int) := by
      simp [IntKind.wrap, IntKind.bits, IntKind.signed]; omega
    have t1 : ((p : Int) + 5).toNat = p + 5 := by omega
    have t2 : ((p : Int) + 5 + ((sizeAt l p : Nat) : Int)).toNat = p + 5 + sizeAt l p := by omega
    have t3 : p + 5 + sizeAt l p - (p + 5) = sizeAt l p := by omega
    have kr : Hid (Row (w.alloc (.cells #[] 5)).drew (some ⟨b, off + (p + 5), none⟩) (bodyAt l p)) := by
      have hk := (cutP_ok (HP.out.later b1) (p + 5) (sizeAt l p) (by show _ ≤ len; omega) hlc).2.2
      rw [cutP_l] at hk
      unfold cutP at hk
      rw [if_neg hne5] at hk
      simp only [Option.map_some, addr_add] at hk
      exact hk
    have hbl : Hid ((bodyAt l p).length = sizeAt l p) := by
      show _ = _
      exact drop_take_length _ _ _ (by rw [HL.out]; omega)
    go_wp2_with fail
    go_region_held3 (fun w' => w'.cell? ⟨b, off + p, none⟩ = some (.int .u8 ((kindAt l p : Nat) : Int))) (first | exact hk0 | exact hk1 | exact hk2)
      ((refine step_app_any (by rfl) _ _ (by rfl) w.heap.size (.slice (some ⟨w.heap.size, 0, none⟩) 0 0) 0 [] (by rfl) (empty_own w w.heap.size (Nat.le_refl _)) (some ⟨b, off + (p + 5), none⟩) (sizeAt l p) _ (bodyAt l p) (by rfl) hbl.out (by intro e; cases e) kr.out (by omega) (by simp) ?_; intro v4 w4 hown4 hg4; have hk2 : w4.cell? ⟨b, off + p, none⟩ = some (.int .u8 ((kindAt l p : Nat) : Int)) := (by rw [hg4.cell_far ⟨b, off + p, none⟩ (by simp; omega) (by simp [Value.ownBlock]; omega)]; exact hk1)))
    have b4 := b1.grown hg4 b1.size (by intro k hk; simp [Value.ownBlock] at hk; omega)
    simp only [Nat.zero_add, List.nil_append] at hown4
    have O4 : Hid (Own w4 w.heap.size v4 (bodyAt l p)) := ⟨drop_take_lt HP.out.2.2.1 _ _, by rw [hbl.out]; exact hown4⟩
    clear hown4 hg4 hk0 hk1 hk2 kr b1
    go_wp2
    ((try simp only [Exit.inBlock, Exit.then]); refine bodyPost_ret (results_tmp4 rfl _ _ _) rfl ?_)
    exact ⟨b4, fun _ => ⟨_, rfl, O4⟩, fun h => absurd HS.out h⟩
  · have hq : (((crc (toldAt l p) : Nat) : Int) != ((sumAt l p : Nat) : Int)) = true := by rw [bne_iff_ne]; omega
    have HS : Hid (¬ sumAt l p = crc (toldAt l p)) := hs
    clear hs
    go_wp2
    ((try simp only [Exit.inBlock, Exit.then]); refine bodyPost_ret (results_tmp4 rfl _ _ _) rfl ?_)
    exact ⟨Below.refl _ _, fun h => absurd h HS.out, fun _ => rfl⟩
set_option maxHeartbeats 2000000 in
theorem refUnframe_err (ad : Option Addr) (len cap : Nat) (l : List Nat) (p : Nat) (w : World) (hp : Part.ok w ⟨ad, len, cap, l⟩) (hlc : len ≤ cap) (hm : len ≤ 1000000000000000) (hp2 : p ≤ 9223372036854775807) (he : unframeE l p ≠ 0) :
    Calls Tryz.prog 18 #[.slice ad len cap, .int .i64 p] w fun e w' => e = .returned (.tuple #[.int .i64 0, .slice none 0 0, .int .i64 0, .int .i64 (unframeE l p)]) ∧ Below w.heap.size w w' := by
  have hl := hp.1
  simp only at hl
  unfold unframeE at he ⊢
  by_cases h1 : l.length < p + 5
  · rw [if_pos h1]
    rw [hl] at h1
    clear hp hl he
    by_cases h2 : len < p
    · go_enter Tryz.func18, Tryz.ntmps18
      go_wp2
      ((try simp only [Exit.inBlock, Exit.then]); refine bodyPost_ret (results_tmp4 rfl _ _ _) rfl ?_)
      exact ⟨rfl, Below.refl _ _⟩
    · go_enter Tryz.func18, Tryz.ntmps18
      go_wp2
      ((try simp only [Exit.inBlock, Exit.then]); refine bodyPost_ret (results_tmp4 rfl _ _ _) rfl ?_)
      exact ⟨rfl, Below.refl _ _⟩
  · rw [if_neg h1] at he ⊢
    have HP : Hid (Part.ok w ⟨ad, len, cap, l⟩) := hp
    have HL : Hid (l.length = len) := hl
    have E1 : Hid (getN l ((p + 1 : Nat) : Int) 4 = (((sizeAt l p : Nat) : Int), ((p + 5 : Nat) : Int), 0)) := getN_ok l (p + 1) 4 (by omega) (by omega)
    have hs := sizeAt_lt l p hp.2.2.1
    rw [hl] at h1 he ⊢
    clear hp hl
    by_cases h2 : 65536 < sizeAt l p
    · rw [if_pos h2]
      clear he
      go_enter Tryz.func18, Tryz.ntmps18
      go_wp2_with fail
      rw [show ((p : Int) + 1) = ((p + 1 : Nat) : Int) by omega]
      refine (refGet_any ad len cap l _ 4 _ HP.out hm (by omega)).mono ?_
      rintro e w1 ⟨rfl, hw1⟩
      obtain rfl := hw1.symm
      rw [E1.out]
      simp only
      go_wp2
      ((try simp only [Exit.inBlock, Exit.then]); refine bodyPost_ret (results_tmp4 rfl _ _ _) rfl ?_)
      exact ⟨rfl, Below.refl _ _⟩
    · rw [if_neg h2] at he ⊢
      by_cases h3 : len < p + 9 + sizeAt l p
      · rw [if_pos h3]
        clear he
        go_enter Tryz.func18, Tryz.ntmps18
        go_wp2_with fail
        rw [show ((p : Int) + 1) = ((p + 1 : Nat) : Int) by omega]
        refine (refGet_any ad len cap l _ 4 _ HP.out hm (by omega)).mono ?_
        rintro e w1 ⟨rfl, hw1⟩
        obtain rfl := hw1.symm
        rw [E1.out]
        simp only
        go_wp2
        ((try simp only [Exit.inBlock, Exit.then]); refine bodyPost_ret (results_tmp4 rfl _ _ _) rfl ?_)
        exact ⟨rfl, Below.refl _ _⟩
      · rw [if_neg h3] at he ⊢
        by_cases h4 : sumAt l p = crc (toldAt l p)
        · rw [if_pos h4] at he; omega
        · rw [if_neg h4]
          refine (refUnframe_full ad len cap l p w HP.out hlc hm (by omega) (by omega)).mono ?_
          rintro e w' ⟨b, -, h⟩
          exact ⟨h h4, b⟩
theorem refUnframe_any (ad : Option Addr) (len cap : Nat) (l : List Nat) (p : Int) (w : World) (hp : Part.ok w ⟨ad, len, cap, l⟩) (hlc : len ≤ cap) (hm : len ≤ 1000000000000000) (hp2 : p ≤ 9223372036854775807) :
    Calls Tryz.prog 18 #[.slice ad len cap, .int .i64 p] w fun e w' => ∃ v, e = .returned (.tuple #[.int .i64 (unframeN l p).1, v, .int .i64 (unframeN l p).2.2.1, .int .i64 (unframeN l p).2.2.2]) ∧ Own w' w.heap.size v (unframeN l p).2.1 ∧ Below w.heap.size w w' := by
  by_cases h0 : 0 ≤ p
  · obtain ⟨q, rfl⟩ := Int.eq_ofNat_of_zero_le h0
    by_cases he : unframeE l q = 0
    · rw [unframeN_ok l q he]
      obtain ⟨z1, z2, z3⟩ := unframeE_zero he
      refine (refUnframe_full ad len cap l q w hp hlc hm z1 (by have := hp.1; simp only at this; omega)).mono ?_
      rintro e w' ⟨b, h, -⟩
      obtain ⟨v, rfl, hv⟩ := h z3
      exact ⟨v, rfl, hv, b⟩
    · rw [unframeN_err l q he]
      refine (refUnframe_err ad len cap l q w hp hlc hm (by omega) he).mono ?_
      rintro e w' ⟨rfl, b⟩
      exact ⟨_, rfl, Own.nil _ _, b⟩
  · rw [unframeN_arg l p h0]
    clear hp
    have h1 : p < 0 := by omega
    go_enter Tryz.func18, Tryz.ntmps18
    go_wp2
    ((try simp only [Exit.inBlock, Exit.then]); refine bodyPost_ret (results_tmp4 rfl _ _ _) rfl ?_)
    exact ⟨_, rfl, Own.nil _ _, Below.refl _ _⟩
end Go.Proofs.YtgihmkgbkffgbaaGreat
namespace Go.Proofs.YtgihmkgbkffgbaaGreat
open Go.RowKit

set_option maxRecDepth 100000 in
set_option maxHeartbeats 1000000 in
theorem refGetText_any (ad : Option Addr) (len cap : Nat) (l : List Nat) (p : Int) (w : World) (hp : Part.ok w ⟨ad, len, cap, l⟩) (hlc : len ≤ cap) (hm : len ≤ 1000000000000000) (hp2 : p ≤ 9223372036854775807) :
    Calls Tryz.prog 41 #[.slice ad len cap, .int .i64 p] w fun e w' => e = .returned (.tuple #[.string (getTextN l p).1, .int .i64 (getTextN l p).2.1, .int .i64 (getTextN l p).2.2]) ∧ w' = w := by
  have HL : Hid (l.length = len) := hp.1
  have HP : Hid (Part.ok w ⟨ad, len, cap, l⟩) := hp
  have hl := lenAt_lt l p.toNat hp.2.2.1
  clear hp
  by_cases h0 : 0 ≤ p
  · obtain ⟨p, rfl⟩ := Int.eq_ofNat_of_zero_le h0
    rw [Int.toNat_natCast] at hl
    by_cases h1 : p + 2 ≤ len
    · have e1 : getN l (p : Int) 2 = (((lenAt l p : Nat) : Int), ((p + 2 : Nat) : Int), 0) := getN_ok l p 2 (by omega) (by rw [HL.out]; exact h1)
      by_cases h2 : p + 2 + lenAt l p ≤ len
      · rw [getTextN_ok l p (by rw [HL.out]; exact h2)]
        have kq := conv_any (cutP_ok HP.out (p + 2) (lenAt l p) h2 hlc).2.2 (lenAt l p) (cutP ⟨ad, len, cap, l⟩ (p + 2) (lenAt l p)).cap (by rw [cutP_l]; exact drop_take_length l (p + 2) (lenAt l p) (by rw [HL.out]; exact h2))
        rw [cutP_l] at kq
        simp only at kq
        generalize lenAt l p = n at *
        generalize bstr ((l.drop (p + 2)).take n) = t at *
        generalize p + 2 = q at *
        by_cases hcap : cap = q
        · unfold cutP at kq
          rw [if_pos hcap] at kq
          simp only at kq
          subst hcap
          go_enter Tryz.func41, Tryz.ntmps41
          go_wp2_with fail
          refine (refGet_any ad len _ l p 2 _ HP.out hm hp2).mono ?_
          rintro e w1 ⟨rfl, hw⟩
          obtain rfl := hw.symm
          rw [e1]
          clear e1
          go_wp2
          go_ret3
          exact ⟨rfl, rfl⟩
        · unfold cutP at kq
          rw [if_neg hcap] at kq
          simp only at kq
          go_enter Tryz.func41, Tryz.ntmps41
          go_wp2_with fail
          refine (refGet_any ad len cap l p 2 _ HP.out hm hp2).mono ?_
          rintro e w1 ⟨rfl, hw⟩
          obtain rfl := hw.symm
          rw [e1]
          clear e1
          go_wp2
          go_ret3
          exact ⟨rfl, rfl⟩
      · rw [getTextN_end l p (by rw [HL.out]; exact h2)]
        generalize lenAt l p = n at *
        go_enter Tryz.func41, Tryz.ntmps41
        go_wp2_with fail
        refine (refGet_any ad len cap l p 2 _ HP.out hm hp2).mono ?_
        rintro e w1 ⟨rfl, hw⟩
        obtain rfl := hw.symm
        rw [e1]
        clear e1
        go_wp2
        go_ret3
        exact ⟨rfl, rfl⟩
    · rw [getTextN_end l p (by rw [HL.out]; omega)]
      have e1 : getN l (p : Int) 2 = (0, 0, 20) := getN_end l p 2 (by omega) (by rw [HL.out]; omega)
      go_enter Tryz.func41, Tryz.ntmps41
      go_wp2_with fail
      refine (refGet_any ad len cap l p 2 _ HP.out hm hp2).mono ?_
      rintro e w1 ⟨rfl, hw⟩
      obtain rfl := hw.symm
      rw [e1]
      clear e1
      go_wp2
      go_ret3
      exact ⟨rfl, rfl⟩
  · rw [getTextN_arg l p h0]
    have e1 : getN l p 2 = (0, 0, 1) := getN_arg l p 2 (by omega)
    go_enter Tryz.func41, Tryz.ntmps41
    go_wp2_with fail
    refine (refGet_any ad len cap l p 2 _ HP.out hm hp2).mono ?_
    rintro e w1 ⟨rfl, hw⟩
    obtain rfl := hw.symm
    rw [e1]
    clear e1
    go_wp2
    go_ret3
    exact ⟨rfl, rfl⟩
end Go.Proofs.YtgihmkgbkffgbaaGreat
