/- What the reader's methods head and frame, and wire.Unframe, answer. -/
import Derived.Test.YtiiepmljcjbflaaGreatPGXMath
import Derived.Test.YtiiepmljcjbflaaGreatPGXRead
import Derived.Test.YtiiepmljcjbflaaGreatPGXJoin
import Derived.Test.YtiiepmljcjbflaaGreatPGXSum
namespace Go.Proofs.YtiiepmljcjbflaaGreat
open Go.RowKit Crcm

theorem Rd.later {w w' : World} {B : Nat} {p : Int} {P : Part} (h : Rd w B p P) (hb : Below w.heap.size w w') : Rd w' B p P := by
  unfold Rd at h ⊢
  rw [hb.block B ?_]
  · exact h
  · rcases Nat.lt_or_ge B w.heap.size with hlt | hge
    · exact hlt
    · rw [Array.getElem?_eq_none hge] at h; cases h
set_option maxHeartbeats 1000000 in
theorem head_yes (w0 : World) (B p : Nat) (P : Part) (w : World) (ok : P.ok w0) (bel : Below w0.heap.size w0 w) (hB : w0.heap.size ≤ B) (hr : Rd w B p P) (h : p + 5 ≤ P.len) (hn : sizeAt P.l p ≤ 65536) (hc : P.len ≤ P.cap) (hm : P.len ≤ 1000000000000000) :
    Calls Tryz.prog 91 #[.pointer (some ⟨B, 0, none⟩)] w fun e w' => e = .returned (.tuple #[.int .i64 (kindAt P.l p : Nat), .int .i64 (sizeAt P.l p : Nat), .int .i64 0]) ∧ Rd w' B ((p + 5 : Nat) : Int) P ∧ Below w0.heap.size w0 w' := by
  have HO : Hid (P.ok w0) := ok
  have HR : Hid (Rd w B p P) := hr
  clear ok hr
  go_enter Tryz.func91, Tryz.ntmps91
  go_wp2_with fail
  refine (number_at w0 B p 1 P _ rfl HO.out bel hB HR.out (by omega) (by omega) (by omega) hc hm).mono ?_
  rintro e w1 ⟨rfl, hr1, b1⟩
  have HR1 : Hid (Rd w1 B ((p + 1 : Nat) : Int) P) := hr1
  clear hr1 HR bel
  go_wp2_with fail
  refine (number_at w0 B (p + 1) 4 P _ rfl HO.out b1 hB HR1.out (by omega) (by omega) (by omega) hc hm).mono ?_
  rintro e w2 ⟨rfl, hr2, b2⟩
  have HR2 : Hid (Rd w2 B ((p + 5 : Nat) : Int) P) := hr2
  clear hr2 HR1 b1
  rw [show valN ((P.l.drop (p + 1)).take 4) = sizeAt P.l p from rfl, show valN ((P.l.drop p).take 1) = kindAt P.l p from rfl]
  go_wp2
  go_ret3
  exact ⟨rfl, HR2, b2⟩
set_option maxHeartbeats 1000000 in
theorem head_form (w0 : World) (B p : Nat) (P : Part) (w : World) (ok : P.ok w0) (bel : Below w0.heap.size w0 w) (hB : w0.heap.size ≤ B) (hr : Rd w B p P) (h : p + 5 ≤ P.len) (hn : 65536 < sizeAt P.l p) (hc : P.len ≤ P.cap) (hm : P.len ≤ 1000000000000000) :
    Calls Tryz.prog 91 #[.pointer (some ⟨B, 0, none⟩)] w fun e w' => e = .returned (.tuple #[.int .i64 0, .int .i64 0, .int .i64 22]) ∧ Below w0.heap.size w0 w' := by
  have HO : Hid (P.ok w0) := ok
  have HR : Hid (Rd w B p P) := hr
  clear ok hr
  go_enter Tryz.func91, Tryz.ntmps91
  go_wp2_with fail
  refine (number_at w0 B p 1 P _ rfl HO.out bel hB HR.out (by omega) (by omega) (by omega) hc hm).mono ?_
  rintro e w1 ⟨rfl, hr1, b1⟩
  have HR1 : Hid (Rd w1 B ((p + 1 : Nat) : Int) P) := hr1
  clear hr1 HR bel
  go_wp2_with fail
  refine (number_at w0 B (p + 1) 4 P _ rfl HO.out b1 hB HR1.out (by omega) (by omega) (by omega) hc hm).mono ?_
  rintro e w2 ⟨rfl, hr2, b2⟩
  clear hr2 HR1 b1
  rw [show valN ((P.l.drop (p + 1)).take 4) = sizeAt P.l p from rfl]
  go_wp2
  go_ret3
  exact ⟨rfl, b2⟩
set_option maxHeartbeats 1000000 in
theorem head_end (w0 : World) (B p : Nat) (P : Part) (w : World) (ok : P.ok w0) (bel : Below w0.heap.size w0 w) (hB : w0.heap.size ≤ B) (hr : Rd w B p P) (h : ¬ p + 5 ≤ P.len) (hp : p ≤ 9223372036854775807) (hc : P.len ≤ P.cap) (hm : P.len ≤ 1000000000000000) :
    Calls Tryz.prog 91 #[.pointer (some ⟨B, 0, none⟩)] w fun e w' => e = .returned (.tuple #[.int .i64 0, .int .i64 0, .int .i64 20]) ∧ Below w0.heap.size w0 w' := by
  have HO : Hid (P.ok w0) := ok
  have HR : Hid (Rd w B p P) := hr
  clear ok hr
  by_cases h1 : p + 1 ≤ P.len
  · go_enter Tryz.func91, Tryz.ntmps91
    go_wp2_with fail
    refine (number_at w0 B p 1 P _ rfl HO.out bel hB HR.out (by omega) (by omega) (by omega) hc hm).mono ?_
    rintro e w1 ⟨rfl, hr1, b1⟩
    have HR1 : Hid (Rd w1 B ((p + 1 : Nat) : Int) P) := hr1
    clear hr1 HR bel
    go_wp2_with fail
    refine (number_not w0 B (p + 1) 4 P _ rfl b1 HR1.out (by omega) (by omega) hm).mono ?_
    rintro e w2 ⟨rfl, hr2, b2⟩
    clear hr2 HR1 b1
    go_wp2
    go_ret3
    exact ⟨rfl, b2⟩
  · go_enter Tryz.func91, Tryz.ntmps91
    go_wp2_with fail
    refine (number_not w0 B p 1 P _ rfl bel HR.out h1 hp hm).mono ?_
    rintro e w1 ⟨rfl, hr1, b1⟩
    clear hr1 HR bel
    go_wp2
    go_ret3
    exact ⟨rfl, b1⟩
set_option maxHeartbeats 2000000 in
theorem rframe_full (w0 : World) (B p : Nat) (P : Part) (w : World) (ok : P.ok w0) (bel : Below w0.heap.size w0 w) (hB : w0.heap.size ≤ B) (hr : Rd w B p P) (hn : sizeAt P.l p ≤ 65536) (h : p + 9 + sizeAt P.l p ≤ P.len) (hc : P.len ≤ P.cap) (hm : P.len ≤ 1000000000000000) :
    Calls Tryz.prog 63 #[.pointer (some ⟨B, 0, none⟩)] w fun e w' => Below w0.heap.size w0 w' ∧
      (sumAt P.l p = crc (toldAt P.l p) → ∃ v, e = .returned (.tuple #[.int .i64 (kindAt P.l p : Nat), v, .int .i64 0]) ∧ Own w' w0.heap.size v (bodyAt P.l p) ∧ Rd w' B ((p + 9 + sizeAt P.l p : Nat) : Int) P) ∧
      (sumAt P.l p ≠ crc (toldAt P.l p) → e = .returned (.tuple #[.int .i64 0, .slice none 0 0, .int .i64 21])) := by
  have c0 := hr.c0
  have HO : Hid (P.ok w0) := ok
  have HR : Hid (Rd w B p P) := hr
  clear ok hr
  go_enter Tryz.func63, Tryz.ntmps63
  go_wp2_with fail
  refine (head_yes w0 B p P _ HO.out bel hB HR.out (by omega) hn hc hm).mono ?_
  rintro e w1 ⟨rfl, hr1, b1⟩
  have HR1 : Hid (Rd w1 B ((p + 5 : Nat) : Int) P) := hr1
  clear hr1 HR bel c0
  go_wp2_with fail
  refine (take_yes w0 B (p + 5) (sizeAt P.l p) P _ HO.out b1 hB HR1.out (by omega) hc hm).mono ?_
  rintro e w2 ⟨Q, rfl, HQ, hr2, b2⟩
  have c0 := hr2.c0
  have c1 := hr2.c1
  have HR2 : Hid (Rd w2 B ((p + 5 + sizeAt P.l p : Nat) : Int) P) := hr2
  clear hr2 HR1 b1
  have hne : ¬ P.cap = p := by omega
  go_wp2_with fail
  go_quiet (fail)
  go_wp2_with fail
  refine (number_at w0 B (p + 5 + sizeAt P.l p) 4 P _ rfl HO.out (below_drewN' b2 nq) hB (HR2.out.drewN nq) (by omega) (by omega) (by omega) hc hm).mono ?_
  rintro e w3 ⟨rfl, hr3, b3⟩
  have HR3 : Hid (Rd w3 B ((p + 9 + sizeAt P.l p : Nat) : Int) P) := by
    have h := hr3
    rw [show p + 5 + sizeAt P.l p + 4 = p + 9 + sizeAt P.l p by omega] at h
    exact h
  clear hr3 HR2 b2 c0 c1
  rw [show valN ((P.l.drop (p + 5 + sizeAt P.l p)).take 4) = sumAt P.l p from rfl]
  have ht : (toldAt P.l p).length = p + 5 + sizeAt P.l p - p := by
    rw [toldAt, drop_take_length _ _ _ (by rw [HO.out.1]; omega)]; omega
  have kr : Hid (Row w3 (P.ad.map (fun x => x.add p)) (toldAt P.l p)) := by
    have hk := (cutP_ok (HO.out.later b3) p (5 + sizeAt P.l p) (by omega) hc).2.2
    rw [cutP_l] at hk
    unfold cutP at hk
    rw [if_neg hne] at hk
    exact hk
  have HT : Hid ((toldAt P.l p).length = p + 5 + sizeAt P.l p - p) := ht
  clear ht
  go_wp2_with fail
  refine (crc_any _ _ (P.cap - p) (toldAt P.l p) _ HT.out (by unfold maxLen; omega) kr.out).mono ?_
  rintro e w4 ⟨rfl, b4⟩
  have hc4 := crc_lt (toldAt P.l p)
  have b34 : Below w0.heap.size w0 w4 := b3.trans (b4.mono b3.size)
  clear kr HT
  have HR4 : Hid (Rd w4 B ((p + 9 + sizeAt P.l p : Nat) : Int) P) := HR3.out.later b4
  clear HR3 b3 b4
  by_cases hs : sumAt P.l p = crc (toldAt P.l p)
  · have hq : (((sumAt P.l p : Nat) : Int) != ((crc (toldAt P.l p) : Nat) : Int)) = false := by rw [hs]; simp
    have HS : Hid (sumAt P.l p = crc (toldAt P.l p)) := hs
    clear hs
    go_wp2_with fail
    have E : Hid (allN [Q] 1 = bodyAt P.l p) := by
      show _ = _
      simp [allN, HQ.out.2.1, bodyAt]
    refine (join_at [Q] w4 #[.slice Q.ad (sizeAt P.l p) Q.cap] (by rw [← HQ.out.1]; rfl) 1 1 rfl (by
      intro q hq
      simp at hq
      subst hq
      exact HQ.out.2.2.1.later b34) (by rw [E.out, bodyAt, List.length_take]; omega) (by omega)).mono ?_
    rintro e w5 ⟨p5, rfl, -, own5, -, b5⟩
    have own6 : Hid (Own w5 w0.heap.size (.slice p5.ad p5.len p5.cap) (bodyAt P.l p)) := by
      have h := own5.out
      rw [E.out] at h
      exact h.down b34.size
    have HR5 : Hid (Rd w5 B ((p + 9 + sizeAt P.l p : Nat) : Int) P) := HR4.out.later b5
    have b05 : Below w0.heap.size w0 w5 := b34.trans (b5.mono b34.size)
    clear own5 E HR4 b34 b5
    go_wp2
    go_ret3
    exact ⟨b05, fun _ => ⟨_, rfl, own6, HR5⟩, fun h => absurd HS.out h⟩
  · have hq : (((sumAt P.l p : Nat) : Int) != ((crc (toldAt P.l p) : Nat) : Int)) = true := by rw [bne_iff_ne]; omega
    have HS : Hid (¬ sumAt P.l p = crc (toldAt P.l p)) := hs
    clear hs
    go_wp2
    go_ret3
    exact ⟨b34, fun h => absurd h HS.out, fun _ => rfl⟩
set_option maxHeartbeats 2000000 in
theorem rframe_end (w0 : World) (B p : Nat) (P : Part) (w : World) (ok : P.ok w0) (bel : Below w0.heap.size w0 w) (hB : w0.heap.size ≤ B) (hr : Rd w B p P) (h5 : p + 5 ≤ P.len) (hn : sizeAt P.l p ≤ 65536) (h : ¬ p + 9 + sizeAt P.l p ≤ P.len) (hc : P.len ≤ P.cap) (hm : P.len ≤ 1000000000000000) :
    Calls Tryz.prog 63 #[.pointer (some ⟨B, 0, none⟩)] w fun e w' => e = .returned (.tuple #[.int .i64 0, .slice none 0 0, .int .i64 20]) ∧ Below w0.heap.size w0 w' := by
  have c0 := hr.c0
  have HO : Hid (P.ok w0) := ok
  have HR : Hid (Rd w B p P) := hr
  clear ok hr
  by_cases h2 : p + 5 + sizeAt P.l p ≤ P.len
  · go_enter Tryz.func63, Tryz.ntmps63
    go_wp2_with fail
    refine (head_yes w0 B p P _ HO.out bel hB HR.out h5 hn hc hm).mono ?_
    rintro e w1 ⟨rfl, hr1, b1⟩
    have HR1 : Hid (Rd w1 B ((p + 5 : Nat) : Int) P) := hr1
    clear hr1 HR bel c0
    go_wp2_with fail
    refine (take_yes w0 B (p + 5) (sizeAt P.l p) P _ HO.out b1 hB HR1.out h2 hc hm).mono ?_
    rintro e w2 ⟨Q, rfl, HQ, hr2, b2⟩
    have c0 := hr2.c0
    have c1 := hr2.c1
    have HR2 : Hid (Rd w2 B ((p + 5 + sizeAt P.l p : Nat) : Int) P) := hr2
    clear hr2 HR1 b1
    have hne : ¬ P.cap = p := by omega
    go_wp2_with fail
    go_quiet (fail)
    go_wp2_with fail
    refine (number_not w0 B (p + 5 + sizeAt P.l p) 4 P _ rfl (below_drewN' b2 nq) (HR2.out.drewN nq) (by omega) (by omega) hm).mono ?_
    rintro e w3 ⟨rfl, hr3, b3⟩
    clear hr3 HR2 b2 c0 c1
    go_wp2
    go_ret3
    exact ⟨rfl, b3⟩
  · go_enter Tryz.func63, Tryz.ntmps63
    go_wp2_with fail
    refine (head_yes w0 B p P _ HO.out bel hB HR.out h5 hn hc hm).mono ?_
    rintro e w1 ⟨rfl, hr1, b1⟩
    have HR1 : Hid (Rd w1 B ((p + 5 : Nat) : Int) P) := hr1
    clear hr1 HR bel c0
    go_wp2_with fail
    refine (take_no w0 B (p + 5) (sizeAt P.l p) P _ b1 HR1.out h2 (by omega) hm).mono ?_
    rintro e w2 ⟨rfl, hr2, b2⟩
    clear hr2 HR1 b1
    go_wp2
    go_ret3
    exact ⟨rfl, b2⟩
set_option maxHeartbeats 2000000 in
theorem rframe_form (w0 : World) (B p : Nat) (P : Part) (w : World) (ok : P.ok w0) (bel : Below w0.heap.size w0 w) (hB : w0.heap.size ≤ B) (hr : Rd w B p P) (h5 : p + 5 ≤ P.len) (hn : 65536 < sizeAt P.l p) (hc : P.len ≤ P.cap) (hm : P.len ≤ 1000000000000000) :
    Calls Tryz.prog 63 #[.pointer (some ⟨B, 0, none⟩)] w fun e w' => e = .returned (.tuple #[.int .i64 0, .slice none 0 0, .int .i64 22]) ∧ Below w0.heap.size w0 w' := by
  have c0 := hr.c0
  have HO : Hid (P.ok w0) := ok
  have HR : Hid (Rd w B p P) := hr
  clear ok hr
  go_enter Tryz.func63, Tryz.ntmps63
  go_wp2_with fail
  refine (head_form w0 B p P _ HO.out bel hB HR.out h5 hn hc hm).mono ?_
  rintro e w1 ⟨rfl, b1⟩
  clear HR bel c0
  go_wp2
  go_ret3
  exact ⟨rfl, b1⟩
set_option maxHeartbeats 2000000 in
theorem rframe_short (w0 : World) (B p : Nat) (P : Part) (w : World) (ok : P.ok w0) (bel : Below w0.heap.size w0 w) (hB : w0.heap.size ≤ B) (hr : Rd w B p P) (h5 : ¬ p + 5 ≤ P.len) (hp : p ≤ 9223372036854775807) (hc : P.len ≤ P.cap) (hm : P.len ≤ 1000000000000000) :
    Calls Tryz.prog 63 #[.pointer (some ⟨B, 0, none⟩)] w fun e w' => e = .returned (.tuple #[.int .i64 0, .slice none 0 0, .int .i64 20]) ∧ Below w0.heap.size w0 w' := by
  have c0 := hr.c0
  have HO : Hid (P.ok w0) := ok
  have HR : Hid (Rd w B p P) := hr
  clear ok hr
  go_enter Tryz.func63, Tryz.ntmps63
  go_wp2_with fail
  refine (head_end w0 B p P _ HO.out bel hB HR.out h5 hp hc hm).mono ?_
  rintro e w1 ⟨rfl, b1⟩
  clear HR bel c0
  go_wp2
  go_ret3
  exact ⟨rfl, b1⟩
/-- What frame answers where it answers an error. -/
theorem rframe_err (w0 : World) (B p : Nat) (P : Part) (w : World) (ok : P.ok w0) (bel : Below w0.heap.size w0 w) (hB : w0.heap.size ≤ B) (hr : Rd w B p P) (he : unframeE P.l p ≠ 0) (hp : p ≤ 9223372036854775807) (hc : P.len ≤ P.cap) (hm : P.len ≤ 1000000000000000) :
    Calls Tryz.prog 63 #[.pointer (some ⟨B, 0, none⟩)] w fun e w' => e = .returned (.tuple #[.int .i64 0, .slice none 0 0, .int .i64 (unframeE P.l p)]) ∧ Below w0.heap.size w0 w' := by
  have hl := ok.1
  unfold unframeE at he ⊢
  by_cases h1 : P.l.length < p + 5
  · rw [if_pos h1]
    exact rframe_short w0 B p P w ok bel hB hr (by omega) hp hc hm
  · rw [if_neg h1] at he ⊢
    by_cases h2 : 65536 < sizeAt P.l p
    · rw [if_pos h2]
      exact rframe_form w0 B p P w ok bel hB hr (by omega) h2 hc hm
    · rw [if_neg h2] at he ⊢
      by_cases h3 : P.l.length < p + 9 + sizeAt P.l p
      · rw [if_pos h3]
        exact rframe_end w0 B p P w ok bel hB hr (by omega) (by omega) (by omega) hc hm
      · rw [if_neg h3] at he ⊢
        by_cases h4 : sumAt P.l p = crc (toldAt P.l p)
        · rw [if_pos h4] at he; omega
        · rw [if_neg h4]
          refine (rframe_full w0 B p P w ok bel hB hr (by omega) (by omega) hc hm).mono ?_
          rintro e w' ⟨b, -, h⟩
          exact ⟨h h4, b⟩
set_option maxHeartbeats 2000000 in
theorem unframe_in (ad : Option Addr) (len cap : Nat) (l : List Nat) (p : Nat) (w : World) (hp : Part.ok w ⟨ad, len, cap, l⟩) (hlc : len ≤ cap) (hm : len ≤ 1000000000000000) (hp2 : p ≤ 9223372036854775807) :
    Calls Tryz.prog 33 #[.slice ad len cap, .int .i64 p] w fun e w' => ∃ v, e = .returned (.tuple #[.int .i64 (unframeN l p).1, v, .int .i64 (unframeN l p).2.2.1, .int .i64 (unframeN l p).2.2.2]) ∧ Own w' w.heap.size v (unframeN l p).2.1 ∧ Below w.heap.size w w' := by
  have HL : Hid (l.length = len) := hp.1
  have HP : Hid (Part.ok w ⟨ad, len, cap, l⟩) := hp
  clear hp
  have b0 : Below w.heap.size w (w.alloc (.cells #[.int .i64 (p : Int), .slice ad len cap] 116)) := (Below.refl _ _).alloc (Nat.le_refl _) _
  have r0 : Hid (Rd (w.alloc (.cells #[.int .i64 (p : Int), .slice ad len cap] 116)) w.heap.size p ⟨ad, len, cap, l⟩) := Rd.new w p ⟨ad, len, cap, l⟩
  by_cases he : unframeE l p = 0
  · rw [unframeN_ok l p he]
    obtain ⟨z1, z2, z3⟩ := unframeE_zero he
    have Z1 : Hid (sizeAt l p ≤ 65536) := z1
    have Z2 : Hid (p + 9 + sizeAt l p ≤ l.length) := z2
    have Z3 : Hid (sumAt l p = crc (toldAt l p)) := z3
    clear z1 z2 z3 he
    go_enter Tryz.func33, Tryz.ntmps33
    go_wp2_with fail
    refine (rframe_full w w.heap.size p ⟨ad, len, cap, l⟩ _ HP.out b0 (Nat.le_refl _) r0.out Z1.out (by show _ ≤ len; rw [← HL.out]; exact Z2.out) hlc hm).mono ?_
    rintro e w1 ⟨b1, h1, -⟩
    obtain ⟨v, rfl, own1, hr1⟩ := h1 Z3.out
    have c1 := hr1.c0
    have O1 : Hid (Own w1 w.heap.size v (bodyAt l p)) := own1
    simp only at c1 ⊢
    clear hr1 own1 h1
    go_wp2_with fail
    go_quiet (fail)
    go_wp2
    ((try simp only [Exit.inBlock, Exit.then]); refine bodyPost_ret (results_tmp4 rfl _ _ _) rfl ?_)
    exact ⟨_, rfl, O1.out.later (below_drewN' (Below.refl _ _) _), below_drewN' b1 _⟩
  · rw [unframeN_err l p he]
    have hb : (unframeE l p != 0) = true := by rw [bne_iff_ne]; exact he
    have HE : Hid (unframeE l p ≠ 0) := he
    clear he
    go_enter Tryz.func33, Tryz.ntmps33
    go_wp2_with fail
    refine (rframe_err w w.heap.size p ⟨ad, len, cap, l⟩ _ HP.out b0 (Nat.le_refl _) r0.out HE.out hp2 hlc hm).mono ?_
    rintro e w1 ⟨rfl, b1⟩
    simp only
    go_wp2
    ((try simp only [Exit.inBlock, Exit.then]); refine bodyPost_ret (results_tmp4 rfl _ _ _) rfl ?_)
    exact ⟨_, rfl, Own.nil _ _, b1⟩
theorem unframe_any (ad : Option Addr) (len cap : Nat) (l : List Nat) (p : Int) (w : World) (hp : Part.ok w ⟨ad, len, cap, l⟩) (hlc : len ≤ cap) (hm : len ≤ 1000000000000000) (hp2 : p ≤ 9223372036854775807) :
    Calls Tryz.prog 33 #[.slice ad len cap, .int .i64 p] w fun e w' => ∃ v, e = .returned (.tuple #[.int .i64 (unframeN l p).1, v, .int .i64 (unframeN l p).2.2.1, .int .i64 (unframeN l p).2.2.2]) ∧ Own w' w.heap.size v (unframeN l p).2.1 ∧ Below w.heap.size w w' := by
  by_cases h0 : 0 ≤ p
  · obtain ⟨q, rfl⟩ := Int.eq_ofNat_of_zero_le h0
    exact unframe_in ad len cap l q w hp hlc hm (by omega)
  · rw [unframeN_arg l p h0]
    clear hp
    have h1 : p < 0 := by omega
    go_enter Tryz.func33, Tryz.ntmps33
    go_wp2
    ((try simp only [Exit.inBlock, Exit.then]); refine bodyPost_ret (results_tmp4 rfl _ _ _) rfl ?_)
    exact ⟨_, rfl, Own.nil _ _, Below.refl _ _⟩
end Go.Proofs.YtiiepmljcjbflaaGreat
