/- Numbers of a ledger's entries as bytes and back: tellNumber, readNumber. What the reader's methods head and frame, and wire.Unframe, answer. GetEntry of package ledger: the entry that bytes are. GetEntry of package ledger, of the kinds Retain and Compact. GetEntry of package ledger, of a batch; GetEntry whole. -/
import Derived.Test.YtfgamkcnnijloaaGreatPZJoin
import Derived.Test.YtfgamkcnnijloaaGreatPZRead
import Derived.Test.YtfgamkcnnijloaaGreatDecode
import Derived.Test.YtfgamkcnnijloaaGreatPZMath
import Derived.Test.YtfgamkcnnijloaaGreatPZSum
import Derived.Test.YtfgamkcnnijloaaGreatLEnt
namespace Go.Proofs.YtfgamkcnnijloaaGreat
open Go.RowKit
variable {w w' : World}

/-- N as bytes. -/
def tell13 (n : Int) : List Nat := if n = 281474976710656 then [0, 0, 0, 0, 0, 0, 1] else spellN n.toNat 6
theorem one_row13 (W : World) : Row (W.alloc (.cells #[.int .u8 1] 5)) (some ⟨W.heap.size, 0, none⟩) [1] := by
  refine ⟨by decide, Or.inr ⟨W.heap.size, 0, rfl, by simp, fun i hi => ?_⟩⟩
  obtain rfl : i = 0 := by simpa using hi
  rw [cell_of_row _ W.heap.size _ _ 5 (0, 0) (heap_alloc_new W _)]
  rfl
theorem own_from {base : Nat} {v : Value} {l : List Nat} (h : Own w base v l) : ∀ k, v.ownBlock = some k → base ≤ k := by
  intro k hk
  rcases h.2.2 with ⟨e, -⟩ | ⟨g, cap, cur, e, hgb, -⟩
  · rw [e] at hk; cases hk
  · rw [e] at hk; cases hk; exact hgb
theorem own_part {base : Nat} {v : Value} (h : Own w base v (tell13 281474976710656)) : ∃ a c, v = .slice a 7 c ∧ Part.ok w ⟨a, 7, c, [0, 0, 0, 0, 0, 0, 1]⟩ := by
  have e : tell13 281474976710656 = [0, 0, 0, 0, 0, 0, 1] := if_pos rfl
  rw [e] at h
  obtain ⟨a, c, hv, hp, -, -⟩ := h.slice 7 rfl
  exact ⟨a, c, hv, hp⟩
theorem tell_max (w : World) : Calls Tryz.prog 35 #[.int .i64 281474976710656] w fun e w' => ∃ v, e = .returned v ∧ Own w' w.heap.size v (tell13 281474976710656) ∧ Below w.heap.size w w' := by
  have HP := hid (put_any 0 6 w)
  rw [show putN 0 6 = (0, [0, 0, 0, 0, 0, 0]) from by decide +kernel] at HP
  dsimp only at HP
  have HT := hid (show tell13 281474976710656 = [0, 0, 0, 0, 0, 0] ++ [1] from if_pos rfl)
  go_enter Tryz.func35, Tryz.ntmps35
  go_wp2_with (first
    | (go_at_call 58; (with_reducible_and_instances (refine HP.out.mono ?_)); rintro x w1 ⟨v1, rfl, ho1, hb1⟩; obtain ⟨a1, c1, hv1, -⟩ := ho1.form; have hv1' : v1 = .slice a1 6 c1 := hv1; clear hv1; subst hv1'; have HO1 := hid ho1; have HB1 := hid hb1; have HR1 := hid (one_row13 w1); have HO2 := hid (ho1.later ((Below.refl _ w1).alloc (Nat.le_refl _) (.cells #[.int .u8 1] 5))); have hs1 := hb1.size; clear ho1 hb1)
    | (at_builtin; refine app_any rfl (.tmp 13) (.tmp 14) rfl w.heap.size (.slice a1 6 c1) 6 [0, 0, 0, 0, 0, 0] rfl HO2.out.2 (some ⟨w1.heap.size, 0, none⟩) 1 1 [1] rfl rfl (fun e => by cases e) HR1.out (by omega) (by simp; omega) ?_; intro v2 w2 ho2 hg2; have HB2 := hid ((HB1.out.alloc HB1.out.size _).grown hg2 (by simp; omega) (fun k hk => (own_from HO1.out k hk))); have HO3 : Hid (Own w2 w.heap.size v2 ([0, 0, 0, 0, 0, 0] ++ [1])) := ⟨by decide, ho2⟩; clear ho2 hg2))
  go_ret
  exact ⟨_, rfl, by rw [HT.out]; exact HO3.out, HB2.out⟩
theorem tell_less (n : Nat) (h1 : n < 281474976710656) (w : World) : Calls Tryz.prog 35 #[.int .i64 (n : Int)] w fun e w' => ∃ v, e = .returned v ∧ Own w' w.heap.size v (tell13 (n : Int)) ∧ Below w.heap.size w w' := by
  have hp : putN (n : Int) 6 = (0, spellN n 6) := by
    unfold putN
    rw [if_pos (by omega), if_pos ⟨by omega, by show (n : Int) < 2 ^ (8 * 6); omega⟩]
    rfl
  have HP := hid (put_any (n : Int) 6 w)
  rw [hp] at HP
  dsimp only at HP
  have HT := hid (show tell13 (n : Int) = spellN n 6 from if_neg (by omega))
  have hr : Int.tmod (n : Int) 281474976710656 = (n : Int) := Int.tmod_eq_of_lt (by omega) (by omega)
  have hq : ((n : Int) == 281474976710656) = false := by simp; omega
  clear hp
  go_enter Tryz.func35, Tryz.ntmps35
  go_wp2_with (go_at_call 58; (with_reducible_and_instances (refine HP.out.mono ?_)); rintro x w1 ⟨v1, rfl, ho1, hb1⟩; have HO1 := hid ho1; have HB1 := hid hb1; clear ho1 hb1)
  go_ret
  exact ⟨_, rfl, by rw [HT.out]; exact HO1.out, HB1.out⟩
theorem tellNumber_any (n : Int) (h0 : 0 ≤ n) (h1 : n ≤ 281474976710656) (w : World) : Calls Tryz.prog 35 #[.int .i64 n] w fun e w' => ∃ v, e = .returned v ∧ Own w' w.heap.size v (tell13 n) ∧ Below w.heap.size w w' := by
  by_cases h : n = 281474976710656
  · subst h; exact tell_max w
  · obtain ⟨k, rfl⟩ := Int.eq_ofNat_of_zero_le h0
    exact tell_less k (by omega) w
/-- What readNumber tells. -/
def read13 (l : List Nat) : Int × Int :=
  if l = [0, 0, 0, 0, 0, 0, 1] then (281474976710656, 0)
  else ((getN l 0 6).1, if (getN l 0 6).2.2 = 0 ∧ (getN l 0 6).2.1 ≠ l.length then 22 else (getN l 0 6).2.2)
set_option maxHeartbeats 1000000 in
theorem readNumber_any (ad : Option Addr) (len cap : Nat) (l : List Nat) (w : World) (hp : Part.ok w ⟨ad, len, cap, l⟩) (hlc : len ≤ cap) (hm : len ≤ 1000000000000000) : Calls Tryz.prog 40 #[.slice ad len cap] w fun x w' => x = .returned (.tuple #[.int .i64 (read13 l).1, .int .i64 (read13 l).2]) ∧ Below w.heap.size w w' := by
  have HT := hid (tell_max w)
  have HP := hid hp
  have HLen : Hid (l.length = len) := hp.1
  have HG : Hid (∀ W, Below w.heap.size w W → Calls Tryz.prog 68 #[.slice ad len cap, .int .i64 0, .int .i64 6] W fun e w' => e = .returned (.tuple #[.int .i64 (getN l 0 6).1, .int .i64 (getN l 0 6).2.1, .int .i64 (getN l 0 6).2.2]) ∧ Below W.heap.size W w') := fun W hW => get_any ad len cap l 0 6 W (hp.later hW) hlc hm (by omega)
  clear hp
  by_cases hb : l = [0, 0, 0, 0, 0, 0, 1]
  · have HR : Hid (read13 l = (281474976710656, 0)) := if_pos hb
    go_enter Tryz.func40, Tryz.ntmps40
    go_wp2_with (first
      | (go_at_call 35; (with_reducible_and_instances (refine HT.out.mono ?_)); rintro x w1 ⟨v1, rfl, ho1, hb1⟩; obtain ⟨a1, c1, hv1, hq1⟩ := own_part ho1; subst hv1; have HB1 := hid hb1; have HE := hid (equal_any ad a1 len cap 7 c1 l [0, 0, 0, 0, 0, 0, 1] w1 (HP.out.later hb1) hq1 true (by simp [hb])); clear hb1 ho1 hq1)
      | (go_at_call 67; (with_reducible_and_instances (refine HE.out.mono ?_)); rintro x w2 ⟨rfl, hb2⟩; have HB2 := hid (HB1.out.trans (hb2.mono HB1.out.size)); clear hb2))
    refine bodyPost_ret (results_tmp2 Tryz.results40 _ _ _) rfl ⟨by rw [HR.out]; rfl, HB2.out⟩
  · obtain ⟨gv, gt, ge, hg⟩ : ∃ gv gt ge, getN l 0 6 = (gv, gt, ge) := ⟨_, _, _, rfl⟩
    have HR : Hid (read13 l = (gv, if ge = 0 ∧ gt ≠ (len : Int) then 22 else ge)) := by unfold read13; rw [if_neg hb, hg, HLen.out]; exact rfl
    rw [hg] at HG
    dsimp only at HG
    clear hg
    by_cases h0 : ge = 0
    · subst h0
      by_cases ht : gt = (len : Int)
      · have HR2 : Hid (read13 l = (gv, 0)) := by rw [HR.out, if_neg (by simp [ht])]; exact rfl
        subst ht
        go_enter Tryz.func40, Tryz.ntmps40
        go_wp2_with (first
          | (go_at_call 35; (with_reducible_and_instances (refine HT.out.mono ?_)); rintro x w1 ⟨v1, rfl, ho1, hb1⟩; obtain ⟨a1, c1, hv1, hq1⟩ := own_part ho1; subst hv1; have HB1 := hid hb1; have HE := hid (equal_any ad a1 len cap 7 c1 l [0, 0, 0, 0, 0, 0, 1] w1 (HP.out.later hb1) hq1 false (by simp [hb])); clear hb1 ho1 hq1)
          | (go_at_call 67; (with_reducible_and_instances (refine HE.out.mono ?_)); rintro x w2 ⟨rfl, hb2⟩; have HB2 := hid (HB1.out.trans (hb2.mono HB1.out.size)); have HG2 := hid (HG.out w2 HB2.out); clear hb2)
          | (go_at_call 68; (with_reducible_and_instances (refine HG2.out.mono ?_)); rintro x w3 ⟨rfl, hb3⟩; have HB3 := hid (HB2.out.trans (hb3.mono HB2.out.size)); clear hb3))
        refine bodyPost_ret (results_tmp2 Tryz.results40 _ _ _) rfl ⟨by rw [HR2.out]; rfl, HB3.out⟩
      · have HR2 : Hid (read13 l = (gv, 22)) := by rw [HR.out, if_pos ⟨rfl, ht⟩]; exact rfl
        have ht' : (gt == (len : Int)) = false := by simpa using ht
        go_enter Tryz.func40, Tryz.ntmps40
        go_wp2_with (first
          | (go_at_call 35; (with_reducible_and_instances (refine HT.out.mono ?_)); rintro x w1 ⟨v1, rfl, ho1, hb1⟩; obtain ⟨a1, c1, hv1, hq1⟩ := own_part ho1; subst hv1; have HB1 := hid hb1; have HE := hid (equal_any ad a1 len cap 7 c1 l [0, 0, 0, 0, 0, 0, 1] w1 (HP.out.later hb1) hq1 false (by simp [hb])); clear hb1 ho1 hq1)
          | (go_at_call 67; (with_reducible_and_instances (refine HE.out.mono ?_)); rintro x w2 ⟨rfl, hb2⟩; have HB2 := hid (HB1.out.trans (hb2.mono HB1.out.size)); have HG2 := hid (HG.out w2 HB2.out); clear hb2)
          | (go_at_call 68; (with_reducible_and_instances (refine HG2.out.mono ?_)); rintro x w3 ⟨rfl, hb3⟩; have HB3 := hid (HB2.out.trans (hb3.mono HB2.out.size)); clear hb3))
        refine bodyPost_ret (results_tmp2 Tryz.results40 _ _ _) rfl ⟨by rw [HR2.out]; rfl, HB3.out⟩
    · have HR2 : Hid (read13 l = (gv, ge)) := by rw [HR.out, if_neg (by simp [h0])]; exact rfl
      have h0' : (ge == 0) = false := by simpa using h0
      go_enter Tryz.func40, Tryz.ntmps40
      go_wp2_with (first
        | (go_at_call 35; (with_reducible_and_instances (refine HT.out.mono ?_)); rintro x w1 ⟨v1, rfl, ho1, hb1⟩; obtain ⟨a1, c1, hv1, hq1⟩ := own_part ho1; subst hv1; have HB1 := hid hb1; have HE := hid (equal_any ad a1 len cap 7 c1 l [0, 0, 0, 0, 0, 0, 1] w1 (HP.out.later hb1) hq1 false (by simp [hb])); clear hb1 ho1 hq1)
        | (go_at_call 67; (with_reducible_and_instances (refine HE.out.mono ?_)); rintro x w2 ⟨rfl, hb2⟩; have HB2 := hid (HB1.out.trans (hb2.mono HB1.out.size)); have HG2 := hid (HG.out w2 HB2.out); clear hb2)
        | (go_at_call 68; (with_reducible_and_instances (refine HG2.out.mono ?_)); rintro x w3 ⟨rfl, hb3⟩; have HB3 := hid (HB2.out.trans (hb3.mono HB2.out.size)); clear hb3))
      refine bodyPost_ret (results_tmp2 Tryz.results40 _ _ _) rfl ⟨by rw [HR2.out]; rfl, HB3.out⟩
end Go.Proofs.YtfgamkcnnijloaaGreat
namespace Go.Proofs.YtfgamkcnnijloaaGreat
open Go.RowKit Crcm

theorem Rd.later {w w' : World} {B : Nat} {p : Int} {P : Part} (h : Rd w B p P) (hb : Below w.heap.size w w') : Rd w' B p P := by
  unfold Rd at h ⊢
  rw [hb.block B ?_]
  · exact h
  · rcases Nat.lt_or_ge B w.heap.size with hlt | hge
    · exact hlt
    · rw [Array.getElem?_eq_none hge] at h; cases h
set_option maxHeartbeats 1000000 in
theorem head_yes (w0 : World) (B p : Nat) (P : Part) (w : World) (ok : P.ok w0) (bel : Below w0.heap.size w0 w) (hB : w0.heap.size ≤ B) (hr : Rd w B p P) (h : p + 5 ≤ P.len) (hn : sizeAt P.l p ≤ 65536) (hc : P.len ≤ P.cap) (hm : P.len ≤ 1000000000000000) :
    Calls Tryz.prog 90 #[.pointer (some ⟨B, 0, none⟩)] w fun e w' => e = .returned (.tuple #[.int .i64 (kindAt P.l p : Nat), .int .i64 (sizeAt P.l p : Nat), .int .i64 0]) ∧ Rd w' B ((p + 5 : Nat) : Int) P ∧ Below w0.heap.size w0 w' := by
  have HO : Hid (P.ok w0) := ok
  have HR : Hid (Rd w B p P) := hr
  clear ok hr
  go_enter Tryz.func90, Tryz.ntmps90
  go_wp2_with fail
  refine (number_at w0 B p 1 P _ rfl HO.out bel hB HR.out (by omega) (by omega) (by omega) hc hm).mono ?_
  rintro e w1 ⟨rfl, hr1, b1⟩
  have HR1 : Hid (Rd w1 B ((p + 1 : Nat) : Int) P) := hr1
  clear hr1 HR bel
  go_wp2_with fail
  refine (number_at w0 B (p + 1) 4 P _ rfl HO.out b1 hB HR1.out (by omega) (by omega) (by omega) hc hm).mono ?_
  rintro e w2 ⟨rfl, hr2, b2⟩
  have HR2 : Hid (Rd w2 B ((p + 5 : Nat) : Int) P) := hr2
  clear hr2 HR1 b1
  rw [show valN ((P.l.drop (p + 1)).take 4) = sizeAt P.l p from rfl, show valN ((P.l.drop p).take 1) = kindAt P.l p from rfl]
  go_wp2
  go_ret3
  exact ⟨rfl, HR2, b2⟩
set_option maxHeartbeats 1000000 in
theorem head_form (w0 : World) (B p : Nat) (P : Part) (w : World) (ok : P.ok w0) (bel : Below w0.heap.size w0 w) (hB : w0.heap.size ≤ B) (hr : Rd w B p P) (h : p + 5 ≤ P.len) (hn : 65536 < sizeAt P.l p) (hc : P.len ≤ P.cap) (hm : P.len ≤ 1000000000000000) :
    Calls Tryz.prog 90 #[.pointer (some ⟨B, 0, none⟩)] w fun e w' => e = .returned (.tuple #[.int .i64 0, .int .i64 0, .int .i64 22]) ∧ Below w0.heap.size w0 w' := by
  have HO : Hid (P.ok w0) := ok
  have HR : Hid (Rd w B p P) := hr
  clear ok hr
  go_enter Tryz.func90, Tryz.ntmps90
  go_wp2_with fail
  refine (number_at w0 B p 1 P _ rfl HO.out bel hB HR.out (by omega) (by omega) (by omega) hc hm).mono ?_
  rintro e w1 ⟨rfl, hr1, b1⟩
  have HR1 : Hid (Rd w1 B ((p + 1 : Nat) : Int) P) := hr1
  clear hr1 HR bel
  go_wp2_with fail
  refine (number_at w0 B (p + 1) 4 P _ rfl HO.out b1 hB HR1.out (by omega) (by omega) (by omega) hc hm).mono ?_
  rintro e w2 ⟨rfl, hr2, b2⟩
  clear hr2 HR1 b1
  rw [show valN ((P.l.drop (p + 1)).take 4) = sizeAt P.l p from rfl]
  go_wp2
  go_ret3
  exact ⟨rfl, b2⟩
set_option maxHeartbeats 1000000 in
theorem head_end (w0 : World) (B p : Nat) (P : Part) (w : World) (ok : P.ok w0) (bel : Below w0.heap.size w0 w) (hB : w0.heap.size ≤ B) (hr : Rd w B p P) (h : ¬ p + 5 ≤ P.len) (hp : p ≤ 9223372036854775807) (hc : P.len ≤ P.cap) (hm : P.len ≤ 1000000000000000) :
    Calls Tryz.prog 90 #[.pointer (some ⟨B, 0, none⟩)] w fun e w' => e = .returned (.tuple #[.int .i64 0, .int .i64 0, .int .i64 20]) ∧ Below w0.heap.size w0 w' := by
  have HO : Hid (P.ok w0) := ok
  have HR : Hid (Rd w B p P) := hr
  clear ok hr
  by_cases h1 : p + 1 ≤ P.len
  · go_enter Tryz.func90, Tryz.ntmps90
    go_wp2_with fail
    refine (number_at w0 B p 1 P _ rfl HO.out bel hB HR.out (by omega) (by omega) (by omega) hc hm).mono ?_
    rintro e w1 ⟨rfl, hr1, b1⟩
    have HR1 : Hid (Rd w1 B ((p + 1 : Nat) : Int) P) := hr1
    clear hr1 HR bel
    go_wp2_with fail
    refine (number_not w0 B (p + 1) 4 P _ rfl b1 HR1.out (by omega) (by omega) hm).mono ?_
    rintro e w2 ⟨rfl, hr2, b2⟩
    clear hr2 HR1 b1
    go_wp2
    go_ret3
    exact ⟨rfl, b2⟩
  · go_enter Tryz.func90, Tryz.ntmps90
    go_wp2_with fail
    refine (number_not w0 B p 1 P _ rfl bel HR.out h1 hp hm).mono ?_
    rintro e w1 ⟨rfl, hr1, b1⟩
    clear hr1 HR bel
    go_wp2
    go_ret3
    exact ⟨rfl, b1⟩
set_option maxHeartbeats 2000000 in
theorem rframe_full (w0 : World) (B p : Nat) (P : Part) (w : World) (ok : P.ok w0) (bel : Below w0.heap.size w0 w) (hB : w0.heap.size ≤ B) (hr : Rd w B p P) (hn : sizeAt P.l p ≤ 65536) (h : p + 9 + sizeAt P.l p ≤ P.len) (hc : P.len ≤ P.cap) (hm : P.len ≤ 1000000000000000) :
    Calls Tryz.prog 65 #[.pointer (some ⟨B, 0, none⟩)] w fun e w' => Below w0.heap.size w0 w' ∧
      (sumAt P.l p = crc (toldAt P.l p) → ∃ v, e = .returned (.tuple #[.int .i64 (kindAt P.l p : Nat), v, .int .i64 0]) ∧ Own w' w0.heap.size v (bodyAt P.l p) ∧ Rd w' B ((p + 9 + sizeAt P.l p : Nat) : Int) P) ∧
      (sumAt P.l p ≠ crc (toldAt P.l p) → e = .returned (.tuple #[.int .i64 0, .slice none 0 0, .int .i64 21])) := by
  have c0 := hr.c0
  have HO : Hid (P.ok w0) := ok
  have HR : Hid (Rd w B p P) := hr
  clear ok hr
  go_enter Tryz.func65, Tryz.ntmps65
  go_wp2_with fail
  refine (head_yes w0 B p P _ HO.out bel hB HR.out (by omega) hn hc hm).mono ?_
  rintro e w1 ⟨rfl, hr1, b1⟩
  have HR1 : Hid (Rd w1 B ((p + 5 : Nat) : Int) P) := hr1
  clear hr1 HR bel c0
  go_wp2_with fail
  refine (take_yes w0 B (p + 5) (sizeAt P.l p) P _ HO.out b1 hB HR1.out (by omega) hc hm).mono ?_
  rintro e w2 ⟨Q, rfl, HQ, hr2, b2⟩
  have c0 := hr2.c0
  have c1 := hr2.c1
  have HR2 : Hid (Rd w2 B ((p + 5 + sizeAt P.l p : Nat) : Int) P) := hr2
  clear hr2 HR1 b1
  have hne : ¬ P.cap = p := by omega
  go_wp2_with fail
  go_quiet (fail)
  go_wp2_with fail
  refine (number_at w0 B (p + 5 + sizeAt P.l p) 4 P _ rfl HO.out (below_drewN' b2 nq) hB (HR2.out.drewN nq) (by omega) (by omega) (by omega) hc hm).mono ?_
  rintro e w3 ⟨rfl, hr3, b3⟩
  have HR3 : Hid (Rd w3 B ((p + 9 + sizeAt P.l p : Nat) : Int) P) := by
    have h := hr3
    rw [show p + 5 + sizeAt P.l p + 4 = p + 9 + sizeAt P.l p by omega] at h
    exact h
  clear hr3 HR2 b2 c0 c1
  rw [show valN ((P.l.drop (p + 5 + sizeAt P.l p)).take 4) = sumAt P.l p from rfl]
  have ht : (toldAt P.l p).length = p + 5 + sizeAt P.l p - p := by
    rw [toldAt, drop_take_length _ _ _ (by rw [HO.out.1]; omega)]; omega
  have kr : Hid (Row w3 (P.ad.map (fun x => x.add p)) (toldAt P.l p)) := by
    have hk := (cutP_ok (HO.out.later b3) p (5 + sizeAt P.l p) (by omega) hc).2.2
    rw [cutP_l] at hk
    unfold cutP at hk
    rw [if_neg hne] at hk
    exact hk
  have HT : Hid ((toldAt P.l p).length = p + 5 + sizeAt P.l p - p) := ht
  clear ht
  go_wp2_with fail
  refine (crc_any _ _ (P.cap - p) (toldAt P.l p) _ HT.out (by unfold maxLen; omega) kr.out).mono ?_
  rintro e w4 ⟨rfl, b4⟩
  have hc4 := crc_lt (toldAt P.l p)
  have b34 : Below w0.heap.size w0 w4 := b3.trans (b4.mono b3.size)
  clear kr HT
  have HR4 : Hid (Rd w4 B ((p + 9 + sizeAt P.l p : Nat) : Int) P) := HR3.out.later b4
  clear HR3 b3 b4
  by_cases hs : sumAt P.l p = crc (toldAt P.l p)
  · have hq : (((sumAt P.l p : Nat) : Int) != ((crc (toldAt P.l p) : Nat) : Int)) = false := by rw [hs]; simp
    have HS : Hid (sumAt P.l p = crc (toldAt P.l p)) := hs
    clear hs
    go_wp2_with fail
    have E : Hid (allN [Q] 1 = bodyAt P.l p) := by
      show _ = _
      simp [allN, HQ.out.2.1, bodyAt]
    refine (join_at [Q] w4 #[.slice Q.ad (sizeAt P.l p) Q.cap] (by rw [← HQ.out.1]; rfl) 1 1 rfl (by
      intro q hq
      simp at hq
      subst hq
      exact HQ.out.2.2.1.later b34) (by rw [E.out, bodyAt, List.length_take]; omega) (by omega)).mono ?_
    rintro e w5 ⟨p5, rfl, -, own5, -, b5⟩
    have own6 : Hid (Own w5 w0.heap.size (.slice p5.ad p5.len p5.cap) (bodyAt P.l p)) := by
      have h := own5.out
      rw [E.out] at h
      exact h.down b34.size
    have HR5 : Hid (Rd w5 B ((p + 9 + sizeAt P.l p : Nat) : Int) P) := HR4.out.later b5
    have b05 : Below w0.heap.size w0 w5 := b34.trans (b5.mono b34.size)
    clear own5 E HR4 b34 b5
    go_wp2
    go_ret3
    exact ⟨b05, fun _ => ⟨_, rfl, own6, HR5⟩, fun h => absurd HS.out h⟩
  · have hq : (((sumAt P.l p : Nat) : Int) != ((crc (toldAt P.l p) : Nat) : Int)) = true := by rw [bne_iff_ne]; omega
    have HS : Hid (¬ sumAt P.l p = crc (toldAt P.l p)) := hs
    clear hs
    go_wp2
    go_ret3
    exact ⟨b34, fun h => absurd h HS.out, fun _ => rfl⟩
set_option maxHeartbeats 2000000 in
theorem rframe_end (w0 : World) (B p : Nat) (P : Part) (w : World) (ok : P.ok w0) (bel : Below w0.heap.size w0 w) (hB : w0.heap.size ≤ B) (hr : Rd w B p P) (h5 : p + 5 ≤ P.len) (hn : sizeAt P.l p ≤ 65536) (h : ¬ p + 9 + sizeAt P.l p ≤ P.len) (hc : P.len ≤ P.cap) (hm : P.len ≤ 1000000000000000) :
    Calls Tryz.prog 65 #[.pointer (some ⟨B, 0, none⟩)] w fun e w' => e = .returned (.tuple #[.int .i64 0, .slice none 0 0, .int .i64 20]) ∧ Below w0.heap.size w0 w' := by
  have c0 := hr.c0
  have HO : Hid (P.ok w0) := ok
  have HR : Hid (Rd w B p P) := hr
  clear ok hr
  by_cases h2 : p + 5 + sizeAt P.l p ≤ P.len
  · go_enter Tryz.func65, Tryz.ntmps65
    go_wp2_with fail
    refine (head_yes w0 B p P _ HO.out bel hB HR.out h5 hn hc hm).mono ?_
    rintro e w1 ⟨rfl, hr1, b1⟩
    have HR1 : Hid (Rd w1 B ((p + 5 : Nat) : Int) P) := hr1
    clear hr1 HR bel c0
    go_wp2_with fail
    refine (take_yes w0 B (p + 5) (sizeAt P.l p) P _ HO.out b1 hB HR1.out h2 hc hm).mono ?_
    rintro e w2 ⟨Q, rfl, HQ, hr2, b2⟩
    have c0 := hr2.c0
    have c1 := hr2.c1
    have HR2 : Hid (Rd w2 B ((p + 5 + sizeAt P.l p : Nat) : Int) P) := hr2
    clear hr2 HR1 b1
    have hne : ¬ P.cap = p := by omega
    go_wp2_with fail
    go_quiet (fail)
    go_wp2_with fail
    refine (number_not w0 B (p + 5 + sizeAt P.l p) 4 P _ rfl (below_drewN' b2 nq) (HR2.out.drewN nq) (by omega) (by omega) hm).mono ?_
    rintro e w3 ⟨rfl, hr3, b3⟩
    clear hr3 HR2 b2 c0 c1
    go_wp2
    go_ret3
    exact ⟨rfl, b3⟩
  · go_enter Tryz.func65, Tryz.ntmps65
    go_wp2_with fail
    refine (head_yes w0 B p P _ HO.out bel hB HR.out h5 hn hc hm).mono ?_
    rintro e w1 ⟨rfl, hr1, b1⟩
    have HR1 : Hid (Rd w1 B ((p + 5 : Nat) : Int) P) := hr1
    clear hr1 HR bel c0
    go_wp2_with fail
    refine (take_no w0 B (p + 5) (sizeAt P.l p) P _ b1 HR1.out h2 (by omega) hm).mono ?_
    rintro e w2 ⟨rfl, hr2, b2⟩
    clear hr2 HR1 b1
    go_wp2
    go_ret3
    exact ⟨rfl, b2⟩
set_option maxHeartbeats 2000000 in
theorem rframe_form (w0 : World) (B p : Nat) (P : Part) (w : World) (ok : P.ok w0) (bel : Below w0.heap.size w0 w) (hB : w0.heap.size ≤ B) (hr : Rd w B p P) (h5 : p + 5 ≤ P.len) (hn : 65536 < sizeAt P.l p) (hc : P.len ≤ P.cap) (hm : P.len ≤ 1000000000000000) :
    Calls Tryz.prog 65 #[.pointer (some ⟨B, 0, none⟩)] w fun e w' => e = .returned (.tuple #[.int .i64 0, .slice none 0 0, .int .i64 22]) ∧ Below w0.heap.size w0 w' := by
  have c0 := hr.c0
  have HO : Hid (P.ok w0) := ok
  have HR : Hid (Rd w B p P) := hr
  clear ok hr
  go_enter Tryz.func65, Tryz.ntmps65
  go_wp2_with fail
  refine (head_form w0 B p P _ HO.out bel hB HR.out h5 hn hc hm).mono ?_
  rintro e w1 ⟨rfl, b1⟩
  clear HR bel c0
  go_wp2
  go_ret3
  exact ⟨rfl, b1⟩
set_option maxHeartbeats 2000000 in
theorem rframe_short (w0 : World) (B p : Nat) (P : Part) (w : World) (ok : P.ok w0) (bel : Below w0.heap.size w0 w) (hB : w0.heap.size ≤ B) (hr : Rd w B p P) (h5 : ¬ p + 5 ≤ P.len) (hp : p ≤ 9223372036854775807) (hc : P.len ≤ P.cap) (hm : P.len ≤ 1000000000000000) :
    Calls Tryz.prog 65 #[.pointer (some ⟨B, 0, none⟩)] w fun e w' => e = .returned (.tuple #[.int .i64 0, .slice none 0 0, .int .i64 20]) ∧ Below w0.heap.size w0 w' := by
  have c0 := hr.c0
  have HO : Hid (P.ok w0) := ok
  have HR : Hid (Rd w B p P) := hr
  clear ok hr
  go_enter Tryz.func65, Tryz.ntmps65
  go_wp2_with fail
  refine (head_end w0 B p P _ HO.out bel hB HR.out h5 hp hc hm).mono ?_
  rintro e w1 ⟨rfl, b1⟩
  clear HR bel c0
  go_wp2
  go_ret3
  exact ⟨rfl, b1⟩
/-- What frame answers where it answers an error. -/
theorem rframe_err (w0 : World) (B p : Nat) (P : Part) (w : World) (ok : P.ok w0) (bel : Below w0.heap.size w0 w) (hB : w0.heap.size ≤ B) (hr : Rd w B p P) (he : unframeE P.l p ≠ 0) (hp : p ≤ 9223372036854775807) (hc : P.len ≤ P.cap) (hm : P.len ≤ 1000000000000000) :
    Calls Tryz.prog 65 #[.pointer (some ⟨B, 0, none⟩)] w fun e w' => e = .returned (.tuple #[.int .i64 0, .slice none 0 0, .int .i64 (unframeE P.l p)]) ∧ Below w0.heap.size w0 w' := by
  have hl := ok.1
  unfold unframeE at he ⊢
  by_cases h1 : P.l.length < p + 5
  · rw [if_pos h1]
    exact rframe_short w0 B p P w ok bel hB hr (by omega) hp hc hm
  · rw [if_neg h1] at he ⊢
    by_cases h2 : 65536 < sizeAt P.l p
    · rw [if_pos h2]
      exact rframe_form w0 B p P w ok bel hB hr (by omega) h2 hc hm
    · rw [if_neg h2] at he ⊢
      by_cases h3 : P.l.length < p + 9 + sizeAt P.l p
      · rw [if_pos h3]
        exact rframe_end w0 B p P w ok bel hB hr (by omega) (by omega) (by omega) hc hm
      · rw [if_neg h3] at he ⊢
        by_cases h4 : sumAt P.l p = crc (toldAt P.l p)
        · rw [if_pos h4] at he; omega
        · rw [if_neg h4]
          refine (rframe_full w0 B p P w ok bel hB hr (by omega) (by omega) hc hm).mono ?_
          rintro e w' ⟨b, -, h⟩
          exact ⟨h h4, b⟩
set_option maxHeartbeats 2000000 in
theorem unframe_in (ad : Option Addr) (len cap : Nat) (l : List Nat) (p : Nat) (w : World) (hp : Part.ok w ⟨ad, len, cap, l⟩) (hlc : len ≤ cap) (hm : len ≤ 1000000000000000) (hp2 : p ≤ 9223372036854775807) :
    Calls Tryz.prog 38 #[.slice ad len cap, .int .i64 p] w fun e w' => ∃ v, e = .returned (.tuple #[.int .i64 (unframeN l p).1, v, .int .i64 (unframeN l p).2.2.1, .int .i64 (unframeN l p).2.2.2]) ∧ Own w' w.heap.size v (unframeN l p).2.1 ∧ Below w.heap.size w w' := by
  have HL : Hid (l.length = len) := hp.1
  have HP : Hid (Part.ok w ⟨ad, len, cap, l⟩) := hp
  clear hp
  have b0 : Below w.heap.size w (w.alloc (.cells #[.int .i64 (p : Int), .slice ad len cap] 119)) := (Below.refl _ _).alloc (Nat.le_refl _) _
  have r0 : Hid (Rd (w.alloc (.cells #[.int .i64 (p : Int), .slice ad len cap] 119)) w.heap.size p ⟨ad, len, cap, l⟩) := Rd.new w p ⟨ad, len, cap, l⟩
  by_cases he : unframeE l p = 0
  · rw [unframeN_ok l p he]
    obtain ⟨z1, z2, z3⟩ := unframeE_zero he
    have Z1 : Hid (sizeAt l p ≤ 65536) := z1
    have Z2 : Hid (p + 9 + sizeAt l p ≤ l.length) := z2
    have Z3 : Hid (sumAt l p = crc (toldAt l p)) := z3
    clear z1 z2 z3 he
    go_enter Tryz.func38, Tryz.ntmps38
    go_wp2_with fail
    refine (rframe_full w w.heap.size p ⟨ad, len, cap, l⟩ _ HP.out b0 (Nat.le_refl _) r0.out Z1.out (by show _ ≤ len; rw [← HL.out]; exact Z2.out) hlc hm).mono ?_
    rintro e w1 ⟨b1, h1, -⟩
    obtain ⟨v, rfl, own1, hr1⟩ := h1 Z3.out
    have c1 := hr1.c0
    have O1 : Hid (Own w1 w.heap.size v (bodyAt l p)) := own1
    simp only at c1 ⊢
    clear hr1 own1 h1
    go_wp2_with fail
    go_quiet (fail)
    go_wp2
    ((try simp only [Exit.inBlock, Exit.then]); refine bodyPost_ret (results_tmp4 rfl _ _ _) rfl ?_)
    exact ⟨_, rfl, O1.out.later (below_drewN' (Below.refl _ _) _), below_drewN' b1 _⟩
  · rw [unframeN_err l p he]
    have hb : (unframeE l p != 0) = true := by rw [bne_iff_ne]; exact he
    have HE : Hid (unframeE l p ≠ 0) := he
    clear he
    go_enter Tryz.func38, Tryz.ntmps38
    go_wp2_with fail
    refine (rframe_err w w.heap.size p ⟨ad, len, cap, l⟩ _ HP.out b0 (Nat.le_refl _) r0.out HE.out hp2 hlc hm).mono ?_
    rintro e w1 ⟨rfl, b1⟩
    simp only
    go_wp2
    ((try simp only [Exit.inBlock, Exit.then]); refine bodyPost_ret (results_tmp4 rfl _ _ _) rfl ?_)
    exact ⟨_, rfl, Own.nil _ _, b1⟩
theorem unframe_any (ad : Option Addr) (len cap : Nat) (l : List Nat) (p : Int) (w : World) (hp : Part.ok w ⟨ad, len, cap, l⟩) (hlc : len ≤ cap) (hm : len ≤ 1000000000000000) (hp2 : p ≤ 9223372036854775807) :
    Calls Tryz.prog 38 #[.slice ad len cap, .int .i64 p] w fun e w' => ∃ v, e = .returned (.tuple #[.int .i64 (unframeN l p).1, v, .int .i64 (unframeN l p).2.2.1, .int .i64 (unframeN l p).2.2.2]) ∧ Own w' w.heap.size v (unframeN l p).2.1 ∧ Below w.heap.size w w' := by
  by_cases h0 : 0 ≤ p
  · obtain ⟨q, rfl⟩ := Int.eq_ofNat_of_zero_le h0
    exact unframe_in ad len cap l q w hp hlc hm (by omega)
  · rw [unframeN_arg l p h0]
    clear hp
    have h1 : p < 0 := by omega
    go_enter Tryz.func38, Tryz.ntmps38
    go_wp2
    ((try simp only [Exit.inBlock, Exit.then]); refine bodyPost_ret (results_tmp4 rfl _ _ _) rfl ?_)
    exact ⟨_, rfl, Own.nil _ _, Below.refl _ _⟩
end Go.Proofs.YtfgamkcnnijloaaGreat
namespace Go.Proofs.YtfgamkcnnijloaaGreat
open Go.RowKit
variable {w w' : World}

/-- An entry of nothing. -/
def et0 : Et := ⟨0, 0, bat0⟩
open Classical in
/-- P1302, GetEntry: the entry and the error's number. -/
noncomputable def getE (l : List Nat) : Et × Int :=
  if (unframeN l 0).2.2.2 ≠ 0 ∨ (unframeN l 0).2.2.1 ≠ l.length then (et0, 22)
  else if (unframeN l 0).1 = 16 then (if (decodeN (unframeN l 0).2.1).2 ≠ 0 then (et0, 22) else (⟨1, 0, (decodeN (unframeN l 0).2.1).1⟩, 0))
  else if (unframeN l 0).1 = 17 ∨ (unframeN l 0).1 = 18 then (if (read13 (unframeN l 0).2.1).2 ≠ 0 then (et0, 22) else (⟨(unframeN l 0).1 - 15, (read13 (unframeN l 0).2.1).1, bat0⟩, 0))
  else (et0, 22)
/-- What GetEntry leaves. -/
def GetPost (l : List Nat) (w : World) (x : Ending) (w' : World) : Prop :=
  ∃ kd nn k p e s t rs a n c, x = .returned (.tuple #[.agg #[.int .i64 kd, .int .i64 nn, .int .i64 k, .int .i64 p, .int .i64 e, .int .i64 s, .bool t, .slice a n c], .int .i64 (getE l).2]) ∧ (⟨kd, nn, ⟨k, p, e, s, t, rs⟩⟩ : Et) = (getE l).1 ∧ BArgT w' ⟨k, p, e, s, t, rs⟩ a n c ∧ Below w.heap.size w w'
theorem ret_ent {fn : Func} {p u : Tmp} (h : fn.results = #[.cell p TEt, .tmp u]) (tmps : Array Value) (w : World) (g : Nat) (kd nn k q e s : Int) (t : Bool) (a : Option Addr) (n c : Nat)
    (hp : tmps.getD p undef = .pointer (some ⟨g, 0, none⟩)) (hg : Blk w g #[.int .i64 kd, .int .i64 nn, .int .i64 k, .int .i64 q, .int .i64 e, .int .i64 s, .bool t, .slice a n c] TEt) :
    (results fn tmps).run Tryz.prog w = .ok (.tuple #[.agg #[.int .i64 kd, .int .i64 nn, .int .i64 k, .int .i64 q, .int .i64 e, .int .i64 s, .bool t, .slice a n c], tmps.getD u undef]) w := by
  rw [results_cell_tmp h, hp]
  have hl := run_loadVar_row (P := Tryz.prog) w g TEt TEt _ (0, 0) _ hg Tryz.underlying32 rfl (by kernel_rfl)
  simp only [asAddr, Sem.run_pure, Result.andThen_ok]
  rw [hl]
  rfl
theorem bargZ0 (W : World) : BArg W ⟨0, 0, 0, 0, false, []⟩ none 0 0 := ⟨rfl, fun _ => ⟨rfl, rfl⟩, Nat.le_refl _, by unfold maxLen; omega, Or.inl rfl, fun r hr => by cases hr⟩
theorem bargZ (W : World) : BArgT W ⟨0, 0, 0, 0, false, []⟩ none 0 0 := ⟨bargZ0 W, fun h => absurd h (by omega)⟩
theorem get_bad {l : List Nat} {W : World} (h : getE l = (et0, 22)) (hb : Below w.heap.size w W) : GetPost l w (.returned (.tuple #[.agg #[.int .i64 0, .int .i64 0, .int .i64 0, .int .i64 0, .int .i64 0, .int .i64 0, .bool false, .slice none 0 0], .int .i64 22])) W := ⟨0, 0, 0, 0, 0, 0, false, [], none, 0, 0, by rw [h], by rw [h]; rfl, bargZ W, hb⟩
set_option maxRecDepth 20000 in
set_option maxHeartbeats 2000000 in
theorem get_no1 (ad : Option Addr) (len cap : Nat) (l : List Nat) (w : World) (hp : Part.ok w ⟨ad, len, cap, l⟩) (hlc : len ≤ cap) (hm : len ≤ 1000000000000000) (hno : (unframeN l 0).2.2.2 ≠ 0 ∨ (unframeN l 0).2.2.1 ≠ l.length) : Calls Tryz.prog 17 #[.slice ad len cap] w (GetPost l w) := by
  obtain ⟨W0, hW0⟩ : ∃ W0, w.alloc (.cells #[.int .i64 0, .int .i64 0, .int .i64 0, .int .i64 0, .int .i64 0, .int .i64 0, .bool false, .slice none 0 0] TEt) = W0 := ⟨_, rfl⟩
  have b0 : Below w.heap.size w W0 := by rw [← hW0]; exact (Below.refl _ _).alloc (Nat.le_refl _) _
  have z0 : Blk W0 w.heap.size #[.int .i64 0, .int .i64 0, .int .i64 0, .int .i64 0, .int .i64 0, .int .i64 0, .bool false, .slice none 0 0] TEt := by rw [← hW0]; exact heap_alloc_new w _
  have HE : Hid (getE l = (et0, 22)) := by unfold getE; rw [if_pos hno]; exact rfl
  have HU := hid (unframe_any ad len cap l 0 W0 (hp.later b0) hlc hm (by omega))
  have HB0 := hid b0
  have HZ := hid z0
  rw [hp.1] at hno
  have hlen : l.length = len := hp.1
  obtain ⟨uk, ub, ut, ue, hu⟩ : ∃ uk ub ut ue, unframeN l 0 = (uk, ub, ut, ue) := ⟨_, _, _, _, rfl⟩
  rw [hu] at hno HU
  dsimp only at hno HU
  clear hp b0 z0 hlen hu
  have hfin : Hid (∀ W1 W9, Below W0.heap.size W0 W1 → Chg [w.heap.size] W1 W9 → Below w.heap.size w W9) := fun W1 W9 h1 h9 => (HB0.out.trans (h1.mono HB0.out.size)).trans (h9.below (fun g hg => by simp at hg; omega) (by have := h1.size; have := HB0.out.size; omega))
  by_cases he : ue = 0
  · subst he
    have ht : ut ≠ (len : Int) := by rcases hno with h | h; exact absurd rfl h; exact h
    have ht' : (ut == (len : Int)) = false := by simpa using ht
    clear hno
    go_enter Tryz.func17, Tryz.ntmps17
    go_wp2_with (first
      | (go_at_call 38; (with_reducible_and_instances (refine HU.out.mono ?_)); rintro x W1 ⟨v1, rfl, ho1, hb1⟩; have HO1 := hid ho1; have HB1 := hid hb1; have HZ1 := hid (HZ.out.later hb1); have lz1 := (HZ.out.later hb1).lt; clear ho1 hb1)
      | (refine store_ent 0 0 0 0 0 0 false none 0 0 rfl (.tmp 2) (.tmp 24) rfl rfl rfl HZ1.out rfl ?_; intro W9 hx9 hc9))
    refine bodyPost_ret (ret_ent Tryz.results17 _ _ w.heap.size 0 0 0 0 0 0 false none 0 0 rfl hx9) rfl (get_bad HE.out ?_)
    exact hfin.out W1 W9 HB1.out hc9
  · have he' : (ue == 0) = false := by simpa using he
    clear hno
    go_enter Tryz.func17, Tryz.ntmps17
    go_wp2_with (first
      | (go_at_call 38; (with_reducible_and_instances (refine HU.out.mono ?_)); rintro x W1 ⟨v1, rfl, ho1, hb1⟩; have HO1 := hid ho1; have HB1 := hid hb1; have HZ1 := hid (HZ.out.later hb1); have lz1 := (HZ.out.later hb1).lt; clear ho1 hb1)
      | (refine store_ent 0 0 0 0 0 0 false none 0 0 rfl (.tmp 2) (.tmp 24) rfl rfl rfl HZ1.out rfl ?_; intro W9 hx9 hc9))
    refine bodyPost_ret (ret_ent Tryz.results17 _ _ w.heap.size 0 0 0 0 0 0 false none 0 0 rfl hx9) rfl (get_bad HE.out ?_)
    exact hfin.out W1 W9 HB1.out hc9
/-- What GetEntry has, once a frame was read. -/
structure GtI (w W0 : World) (l : List Nat) (uk : Nat) (ub : List Nat) (len m1 : Nat) : Prop where
  b0 : Below w.heap.size w W0
  z0 : Blk W0 w.heap.size #[.int .i64 0, .int .i64 0, .int .i64 0, .int .i64 0, .int .i64 0, .int .i64 0, .bool false, .slice none 0 0] TEt
  kind : uk < 256
  body : ub.length = m1
  room : m1 ≤ 65536
theorem GtI.fin {w W0 W1 W9 : World} {l ub : List Nat} {uk len m1 : Nat} (h : GtI w W0 l uk ub len m1) (h1 : Below W0.heap.size W0 W1) (h9 : Chg [w.heap.size] W1 W9) : Below w.heap.size w W9 := (h.b0.trans (h1.mono h.b0.size)).trans (h9.below (fun g hg => by simp at hg; omega) (by have := h1.size; have := h.b0.size; omega))
set_option maxRecDepth 20000 in
set_option maxHeartbeats 2000000 in
theorem get_other (ad : Option Addr) (len cap : Nat) (l : List Nat) (w W0 : World) (hW0 : w.alloc (.cells #[.int .i64 0, .int .i64 0, .int .i64 0, .int .i64 0, .int .i64 0, .int .i64 0, .bool false, .slice none 0 0] TEt) = W0) (uk : Nat) (ub : List Nat) (m1 : Nat) (hI : GtI w W0 l uk ub len m1) (hU : Calls Tryz.prog 38 #[.slice ad len cap, .int .i64 0] W0 fun e w' => ∃ v, e = .returned (.tuple #[.int .i64 (uk : Int), v, .int .i64 (len : Int), .int .i64 0]) ∧ Own w' W0.heap.size v ub ∧ Below W0.heap.size W0 w') (hk : uk ≠ 16 ∧ uk ≠ 17 ∧ uk ≠ 18) (hE : getE l = (et0, 22)) : Calls Tryz.prog 17 #[.slice ad len cap] w (GetPost l w) := by
  have HE := hid hE
  have HU := hid hU
  have HZ := hid hI.z0
  have HI := hid hI
  have HM1 := hid hI.body
  have hku := hI.kind
  obtain ⟨kx, hkx⟩ : ∃ kx : Int, (uk : Int) - 15 = kx := ⟨_, rfl⟩
  have hwk : IntKind.i64.wrap ((uk : Int) - 15) = (uk : Int) - 15 := by rw [IntKind.wrap_i64]; omega
  have k1 : (kx == 1) = false := by simp; omega
  have k2 : (kx == 2) = false := by simp; omega
  have k3 : (kx == 3) = false := by simp; omega
  clear hE hU hI hk
  go_enter Tryz.func17, Tryz.ntmps17
  go_wp2_with (first
    | (go_at_call 38; (with_reducible_and_instances (refine HU.out.mono ?_)); rintro x W1 ⟨v1, rfl, ho1, hb1⟩; obtain ⟨a1, c1, hv1, hq1, hc1, -⟩ := ho1.slice m1 HM1.out; subst hv1; have HQ1 := hid hq1; have HB1 := hid hb1; have HZ1 := hid (HZ.out.later hb1); have lz1 := (HZ.out.later hb1).lt; have HX1 := hid (show Blk (W1.alloc (.cells #[.int .i64 0, .int .i64 0, .int .i64 0, .int .i64 0, .int .i64 0, .int .i64 0, .bool false, .slice none 0 0] TEt)) W1.heap.size #[.int .i64 0, .int .i64 0, .int .i64 0, .int .i64 0, .int .i64 0, .int .i64 0, .bool false, .slice none 0 0] TEt from heap_alloc_new W1 _); clear ho1 hb1 hq1)
    | (refine store_ent kx 0 0 0 0 0 false none 0 0 rfl (.tmp 8) (.tmp 27) rfl rfl rfl HX1.out rfl ?_; intro W2 hx2 hc2; have HX2 := hid hx2; have HB2 : Hid (Below W1.heap.size W1 W2) := (((Below.refl _ W1).alloc (Nat.le_refl _) _).trans (hc2.below (fun g hg => by simp at hg; omega) (by simp))); have HZ2 := hid (HZ1.out.later HB2.out); have d0 := hx2.cell 0; have lx2 := hx2.lt; simp only [List.getElem?_toArray, List.getElem?_cons_zero] at d0; clear hx2 hc2)
    | (refine store_ent 0 0 0 0 0 0 false none 0 0 rfl (.tmp 2) (.tmp 49) rfl rfl rfl HZ2.out rfl ?_; intro W9 hx9 hc9))
  refine bodyPost_ret (ret_ent Tryz.results17 _ _ w.heap.size 0 0 0 0 0 0 false none 0 0 rfl hx9) rfl (get_bad HE.out ?_)
  exact HI.out.fin (HB1.out.trans (HB2.out.mono HB1.out.size)) hc9
end Go.Proofs.YtfgamkcnnijloaaGreat
namespace Go.Proofs.YtfgamkcnnijloaaGreat
open Go.RowKit
variable {w w' : World}

set_option maxRecDepth 20000 in
set_option maxHeartbeats 2000000 in
theorem get_retain (ad : Option Addr) (len cap : Nat) (l : List Nat) (w W0 : World) (hW0 : w.alloc (.cells #[.int .i64 0, .int .i64 0, .int .i64 0, .int .i64 0, .int .i64 0, .int .i64 0, .bool false, .slice none 0 0] TEt) = W0) (ub : List Nat) (m1 : Nat) (hI : GtI w W0 l 17 ub len m1) (hU : Calls Tryz.prog 38 #[.slice ad len cap, .int .i64 0] W0 fun e w' => ∃ v, e = .returned (.tuple #[.int .i64 17, v, .int .i64 (len : Int), .int .i64 0]) ∧ Own w' W0.heap.size v ub ∧ Below W0.heap.size W0 w') (hE : getE l = if (read13 ub).2 ≠ 0 then (et0, 22) else (⟨2, (read13 ub).1, bat0⟩, 0)) : Calls Tryz.prog 17 #[.slice ad len cap] w (GetPost l w) := by
  have HU := hid hU
  have HZ := hid hI.z0
  have HI := hid hI
  have HM1 := hid hI.body
  have hm65 := hI.room
  obtain ⟨rn, re, hre⟩ : ∃ rn re, read13 ub = (rn, re) := ⟨_, _, rfl⟩
  rw [hre] at hE
  have HRe := hid hre
  clear hU hI hre
  by_cases h0 : re = 0
  · subst h0
    have HE : Hid (getE l = (⟨2, rn, bat0⟩, 0)) := by rw [hE, if_neg (by simp)]; exact rfl
    clear hE
    go_enter Tryz.func17, Tryz.ntmps17
    go_wp2_with (first
      | (go_at_call 38; (with_reducible_and_instances (refine HU.out.mono ?_)); rintro x W1 ⟨v1, rfl, ho1, hb1⟩; obtain ⟨a1, c1, hv1, hq1, hc1, -⟩ := ho1.slice m1 HM1.out; subst hv1; have HQ1 := hid hq1; have HB1 := hid hb1; have HZ1 := hid (HZ.out.later hb1); have lz1 := (HZ.out.later hb1).lt; have HX1 := hid (show Blk (W1.alloc (.cells #[.int .i64 0, .int .i64 0, .int .i64 0, .int .i64 0, .int .i64 0, .int .i64 0, .bool false, .slice none 0 0] TEt)) W1.heap.size #[.int .i64 0, .int .i64 0, .int .i64 0, .int .i64 0, .int .i64 0, .int .i64 0, .bool false, .slice none 0 0] TEt from heap_alloc_new W1 _); clear ho1 hb1 hq1)
      | (refine store_ent 2 0 0 0 0 0 false none 0 0 rfl (.tmp 8) (.tmp 27) rfl rfl rfl HX1.out rfl ?_; intro W2 hx2 hc2; have HX2 := hid hx2; have HB2 : Hid (Below W1.heap.size W1 W2) := (((Below.refl _ W1).alloc (Nat.le_refl _) _).trans (hc2.below (fun g hg => by simp at hg; omega) (by simp))); have HZ2 := hid (HZ1.out.later HB2.out); have d0 := hx2.cell 0; have lx2 := hx2.lt; simp only [List.getElem?_toArray, List.getElem?_cons_zero] at d0; have HRd := hid (readNumber_any a1 m1 c1 ub W2 (HQ1.out.later HB2.out) hc1 (by omega)); rw [HRe.out] at HRd; dsimp only at HRd; clear hx2 hc2)
      | (go_at_call 40; (with_reducible_and_instances (refine HRd.out.mono ?_)); rintro x W3 ⟨rfl, hb3⟩; have hx3 := HX2.out.later hb3; have HZ3 := hid (HZ2.out.later hb3); have f1 := hx3.free 1; have g1 := hx3.cell 1; simp only [List.getElem?_toArray, List.getElem?_cons_zero, List.getElem?_cons_succ] at g1; obtain ⟨W4, hW4⟩ : ∃ W4, W3.setCell ⟨W1.heap.size, 1, none⟩ (.int .i64 rn) = W4 := ⟨_, rfl⟩; have hx4 : Blk W4 W1.heap.size #[.int .i64 2, .int .i64 rn, .int .i64 0, .int .i64 0, .int .i64 0, .int .i64 0, .bool false, .slice none 0 0] TEt := (by rw [← hW4]; exact hx3.set 1 _); have hz4 : Blk W4 w.heap.size #[.int .i64 0, .int .i64 0, .int .i64 0, .int .i64 0, .int .i64 0, .int .i64 0, .bool false, .slice none 0 0] TEt := (by rw [← hW4]; exact HZ3.out.other (by omega) 1 _); have HB4 : Hid (Below W0.heap.size W0 W4) := (by rw [← hW4]; exact (HB1.out.trans ((HB2.out.trans (hb3.mono HB2.out.size)).mono HB1.out.size)).setCell (p := ⟨W1.heap.size, 1, none⟩) HB1.out.size _); have HZ4 := hid hz4; have m0 := hx4.cell 0; have m1 := hx4.cell 1; have m2 := hx4.cell 2; have m3 := hx4.cell 3; have m4 := hx4.cell 4; have m5 := hx4.cell 5; have m6 := hx4.cell 6; have m7 := hx4.cell 7; simp only [List.getElem?_toArray, List.getElem?_cons_zero, List.getElem?_cons_succ] at m0 m1 m2 m3 m4 m5 m6 m7; have lx4 := hx4.lt; have lz4 := hz4.lt; clear hb3 hx3 HZ3 hz4 hx4)
      | (refine store_ent 2 rn 0 0 0 0 false none 0 0 rfl (.tmp 2) (.tmp 50) rfl rfl rfl HZ4.out rfl ?_; intro W9 hx9 hc9))
    refine bodyPost_ret (ret_ent Tryz.results17 _ _ w.heap.size 2 rn 0 0 0 0 false none 0 0 rfl hx9) rfl ⟨2, rn, 0, 0, 0, 0, false, [], none, 0, 0, by rw [HE.out]; rfl, by rw [HE.out]; rfl, bargZ _, HI.out.fin HB4.out hc9⟩
  · have HE : Hid (getE l = (et0, 22)) := by rw [hE, if_pos h0]; exact rfl
    have h0' : (re == 0) = false := by simpa using h0
    clear hE
    go_enter Tryz.func17, Tryz.ntmps17
    go_wp2_with (first
      | (go_at_call 38; (with_reducible_and_instances (refine HU.out.mono ?_)); rintro x W1 ⟨v1, rfl, ho1, hb1⟩; obtain ⟨a1, c1, hv1, hq1, hc1, -⟩ := ho1.slice m1 HM1.out; subst hv1; have HQ1 := hid hq1; have HB1 := hid hb1; have HZ1 := hid (HZ.out.later hb1); have lz1 := (HZ.out.later hb1).lt; have HX1 := hid (show Blk (W1.alloc (.cells #[.int .i64 0, .int .i64 0, .int .i64 0, .int .i64 0, .int .i64 0, .int .i64 0, .bool false, .slice none 0 0] TEt)) W1.heap.size #[.int .i64 0, .int .i64 0, .int .i64 0, .int .i64 0, .int .i64 0, .int .i64 0, .bool false, .slice none 0 0] TEt from heap_alloc_new W1 _); clear ho1 hb1 hq1)
      | (refine store_ent 2 0 0 0 0 0 false none 0 0 rfl (.tmp 8) (.tmp 27) rfl rfl rfl HX1.out rfl ?_; intro W2 hx2 hc2; have HX2 := hid hx2; have HB2 : Hid (Below W1.heap.size W1 W2) := (((Below.refl _ W1).alloc (Nat.le_refl _) _).trans (hc2.below (fun g hg => by simp at hg; omega) (by simp))); have HZ2 := hid (HZ1.out.later HB2.out); have d0 := hx2.cell 0; have lx2 := hx2.lt; simp only [List.getElem?_toArray, List.getElem?_cons_zero] at d0; have HRd := hid (readNumber_any a1 m1 c1 ub W2 (HQ1.out.later HB2.out) hc1 (by omega)); rw [HRe.out] at HRd; dsimp only at HRd; clear hx2 hc2)
      | (go_at_call 40; (with_reducible_and_instances (refine HRd.out.mono ?_)); rintro x W3 ⟨rfl, hb3⟩; have hx3 := HX2.out.later hb3; have HZ3 := hid (HZ2.out.later hb3); have f1 := hx3.free 1; have g1 := hx3.cell 1; simp only [List.getElem?_toArray, List.getElem?_cons_zero, List.getElem?_cons_succ] at g1; obtain ⟨W4, hW4⟩ : ∃ W4, W3.setCell ⟨W1.heap.size, 1, none⟩ (.int .i64 rn) = W4 := ⟨_, rfl⟩; have hx4 : Blk W4 W1.heap.size #[.int .i64 2, .int .i64 rn, .int .i64 0, .int .i64 0, .int .i64 0, .int .i64 0, .bool false, .slice none 0 0] TEt := (by rw [← hW4]; exact hx3.set 1 _); have hz4 : Blk W4 w.heap.size #[.int .i64 0, .int .i64 0, .int .i64 0, .int .i64 0, .int .i64 0, .int .i64 0, .bool false, .slice none 0 0] TEt := (by rw [← hW4]; exact HZ3.out.other (by omega) 1 _); have HB4 : Hid (Below W0.heap.size W0 W4) := (by rw [← hW4]; exact (HB1.out.trans ((HB2.out.trans (hb3.mono HB2.out.size)).mono HB1.out.size)).setCell (p := ⟨W1.heap.size, 1, none⟩) HB1.out.size _); have HZ4 := hid hz4; have m0 := hx4.cell 0; have m1 := hx4.cell 1; have m2 := hx4.cell 2; have m3 := hx4.cell 3; have m4 := hx4.cell 4; have m5 := hx4.cell 5; have m6 := hx4.cell 6; have m7 := hx4.cell 7; simp only [List.getElem?_toArray, List.getElem?_cons_zero, List.getElem?_cons_succ] at m0 m1 m2 m3 m4 m5 m6 m7; have lx4 := hx4.lt; have lz4 := hz4.lt; clear hb3 hx3 HZ3 hz4 hx4)
      | (refine store_ent 0 0 0 0 0 0 false none 0 0 rfl (.tmp 2) (.tmp 49) rfl rfl rfl HZ4.out rfl ?_; intro W9 hx9 hc9))
    refine bodyPost_ret (ret_ent Tryz.results17 _ _ w.heap.size 0 0 0 0 0 0 false none 0 0 rfl hx9) rfl (get_bad HE.out ?_)
    exact HI.out.fin HB4.out hc9
set_option maxRecDepth 20000 in
set_option maxHeartbeats 2000000 in
theorem get_compact (ad : Option Addr) (len cap : Nat) (l : List Nat) (w W0 : World) (hW0 : w.alloc (.cells #[.int .i64 0, .int .i64 0, .int .i64 0, .int .i64 0, .int .i64 0, .int .i64 0, .bool false, .slice none 0 0] TEt) = W0) (ub : List Nat) (m1 : Nat) (hI : GtI w W0 l 18 ub len m1) (hU : Calls Tryz.prog 38 #[.slice ad len cap, .int .i64 0] W0 fun e w' => ∃ v, e = .returned (.tuple #[.int .i64 18, v, .int .i64 (len : Int), .int .i64 0]) ∧ Own w' W0.heap.size v ub ∧ Below W0.heap.size W0 w') (hE : getE l = if (read13 ub).2 ≠ 0 then (et0, 22) else (⟨3, (read13 ub).1, bat0⟩, 0)) : Calls Tryz.prog 17 #[.slice ad len cap] w (GetPost l w) := by
  have HU := hid hU
  have HZ := hid hI.z0
  have HI := hid hI
  have HM1 := hid hI.body
  have hm65 := hI.room
  obtain ⟨rn, re, hre⟩ : ∃ rn re, read13 ub = (rn, re) := ⟨_, _, rfl⟩
  rw [hre] at hE
  have HRe := hid hre
  clear hU hI hre
  by_cases h0 : re = 0
  · subst h0
    have HE : Hid (getE l = (⟨3, rn, bat0⟩, 0)) := by rw [hE, if_neg (by simp)]; exact rfl
    clear hE
    go_enter Tryz.func17, Tryz.ntmps17
    go_wp2_with (first
      | (go_at_call 38; (with_reducible_and_instances (refine HU.out.mono ?_)); rintro x W1 ⟨v1, rfl, ho1, hb1⟩; obtain ⟨a1, c1, hv1, hq1, hc1, -⟩ := ho1.slice m1 HM1.out; subst hv1; have HQ1 := hid hq1; have HB1 := hid hb1; have HZ1 := hid (HZ.out.later hb1); have lz1 := (HZ.out.later hb1).lt; have HX1 := hid (show Blk (W1.alloc (.cells #[.int .i64 0, .int .i64 0, .int .i64 0, .int .i64 0, .int .i64 0, .int .i64 0, .bool false, .slice none 0 0] TEt)) W1.heap.size #[.int .i64 0, .int .i64 0, .int .i64 0, .int .i64 0, .int .i64 0, .int .i64 0, .bool false, .slice none 0 0] TEt from heap_alloc_new W1 _); clear ho1 hb1 hq1)
      | (refine store_ent 3 0 0 0 0 0 false none 0 0 rfl (.tmp 8) (.tmp 27) rfl rfl rfl HX1.out rfl ?_; intro W2 hx2 hc2; have HX2 := hid hx2; have HB2 : Hid (Below W1.heap.size W1 W2) := (((Below.refl _ W1).alloc (Nat.le_refl _) _).trans (hc2.below (fun g hg => by simp at hg; omega) (by simp))); have HZ2 := hid (HZ1.out.later HB2.out); have d0 := hx2.cell 0; have lx2 := hx2.lt; simp only [List.getElem?_toArray, List.getElem?_cons_zero] at d0; have HRd := hid (readNumber_any a1 m1 c1 ub W2 (HQ1.out.later HB2.out) hc1 (by omega)); rw [HRe.out] at HRd; dsimp only at HRd; clear hx2 hc2)
      | (go_at_call 40; (with_reducible_and_instances (refine HRd.out.mono ?_)); rintro x W3 ⟨rfl, hb3⟩; have hx3 := HX2.out.later hb3; have HZ3 := hid (HZ2.out.later hb3); have f1 := hx3.free 1; have g1 := hx3.cell 1; simp only [List.getElem?_toArray, List.getElem?_cons_zero, List.getElem?_cons_succ] at g1; obtain ⟨W4, hW4⟩ : ∃ W4, W3.setCell ⟨W1.heap.size, 1, none⟩ (.int .i64 rn) = W4 := ⟨_, rfl⟩; have hx4 : Blk W4 W1.heap.size #[.int .i64 3, .int .i64 rn, .int .i64 0, .int .i64 0, .int .i64 0, .int .i64 0, .bool false, .slice none 0 0] TEt := (by rw [← hW4]; exact hx3.set 1 _); have hz4 : Blk W4 w.heap.size #[.int .i64 0, .int .i64 0, .int .i64 0, .int .i64 0, .int .i64 0, .int .i64 0, .bool false, .slice none 0 0] TEt := (by rw [← hW4]; exact HZ3.out.other (by omega) 1 _); have HB4 : Hid (Below W0.heap.size W0 W4) := (by rw [← hW4]; exact (HB1.out.trans ((HB2.out.trans (hb3.mono HB2.out.size)).mono HB1.out.size)).setCell (p := ⟨W1.heap.size, 1, none⟩) HB1.out.size _); have HZ4 := hid hz4; have m0 := hx4.cell 0; have m1 := hx4.cell 1; have m2 := hx4.cell 2; have m3 := hx4.cell 3; have m4 := hx4.cell 4; have m5 := hx4.cell 5; have m6 := hx4.cell 6; have m7 := hx4.cell 7; simp only [List.getElem?_toArray, List.getElem?_cons_zero, List.getElem?_cons_succ] at m0 m1 m2 m3 m4 m5 m6 m7; have lx4 := hx4.lt; have lz4 := hz4.lt; clear hb3 hx3 HZ3 hz4 hx4)
      | (refine store_ent 3 rn 0 0 0 0 false none 0 0 rfl (.tmp 2) (.tmp 50) rfl rfl rfl HZ4.out rfl ?_; intro W9 hx9 hc9))
    refine bodyPost_ret (ret_ent Tryz.results17 _ _ w.heap.size 3 rn 0 0 0 0 false none 0 0 rfl hx9) rfl ⟨3, rn, 0, 0, 0, 0, false, [], none, 0, 0, by rw [HE.out]; rfl, by rw [HE.out]; rfl, bargZ _, HI.out.fin HB4.out hc9⟩
  · have HE : Hid (getE l = (et0, 22)) := by rw [hE, if_pos h0]; exact rfl
    have h0' : (re == 0) = false := by simpa using h0
    clear hE
    go_enter Tryz.func17, Tryz.ntmps17
    go_wp2_with (first
      | (go_at_call 38; (with_reducible_and_instances (refine HU.out.mono ?_)); rintro x W1 ⟨v1, rfl, ho1, hb1⟩; obtain ⟨a1, c1, hv1, hq1, hc1, -⟩ := ho1.slice m1 HM1.out; subst hv1; have HQ1 := hid hq1; have HB1 := hid hb1; have HZ1 := hid (HZ.out.later hb1); have lz1 := (HZ.out.later hb1).lt; have HX1 := hid (show Blk (W1.alloc (.cells #[.int .i64 0, .int .i64 0, .int .i64 0, .int .i64 0, .int .i64 0, .int .i64 0, .bool false, .slice none 0 0] TEt)) W1.heap.size #[.int .i64 0, .int .i64 0, .int .i64 0, .int .i64 0, .int .i64 0, .int .i64 0, .bool false, .slice none 0 0] TEt from heap_alloc_new W1 _); clear ho1 hb1 hq1)
      | (refine store_ent 3 0 0 0 0 0 false none 0 0 rfl (.tmp 8) (.tmp 27) rfl rfl rfl HX1.out rfl ?_; intro W2 hx2 hc2; have HX2 := hid hx2; have HB2 : Hid (Below W1.heap.size W1 W2) := (((Below.refl _ W1).alloc (Nat.le_refl _) _).trans (hc2.below (fun g hg => by simp at hg; omega) (by simp))); have HZ2 := hid (HZ1.out.later HB2.out); have d0 := hx2.cell 0; have lx2 := hx2.lt; simp only [List.getElem?_toArray, List.getElem?_cons_zero] at d0; have HRd := hid (readNumber_any a1 m1 c1 ub W2 (HQ1.out.later HB2.out) hc1 (by omega)); rw [HRe.out] at HRd; dsimp only at HRd; clear hx2 hc2)
      | (go_at_call 40; (with_reducible_and_instances (refine HRd.out.mono ?_)); rintro x W3 ⟨rfl, hb3⟩; have hx3 := HX2.out.later hb3; have HZ3 := hid (HZ2.out.later hb3); have f1 := hx3.free 1; have g1 := hx3.cell 1; simp only [List.getElem?_toArray, List.getElem?_cons_zero, List.getElem?_cons_succ] at g1; obtain ⟨W4, hW4⟩ : ∃ W4, W3.setCell ⟨W1.heap.size, 1, none⟩ (.int .i64 rn) = W4 := ⟨_, rfl⟩; have hx4 : Blk W4 W1.heap.size #[.int .i64 3, .int .i64 rn, .int .i64 0, .int .i64 0, .int .i64 0, .int .i64 0, .bool false, .slice none 0 0] TEt := (by rw [← hW4]; exact hx3.set 1 _); have hz4 : Blk W4 w.heap.size #[.int .i64 0, .int .i64 0, .int .i64 0, .int .i64 0, .int .i64 0, .int .i64 0, .bool false, .slice none 0 0] TEt := (by rw [← hW4]; exact HZ3.out.other (by omega) 1 _); have HB4 : Hid (Below W0.heap.size W0 W4) := (by rw [← hW4]; exact (HB1.out.trans ((HB2.out.trans (hb3.mono HB2.out.size)).mono HB1.out.size)).setCell (p := ⟨W1.heap.size, 1, none⟩) HB1.out.size _); have HZ4 := hid hz4; have m0 := hx4.cell 0; have m1 := hx4.cell 1; have m2 := hx4.cell 2; have m3 := hx4.cell 3; have m4 := hx4.cell 4; have m5 := hx4.cell 5; have m6 := hx4.cell 6; have m7 := hx4.cell 7; simp only [List.getElem?_toArray, List.getElem?_cons_zero, List.getElem?_cons_succ] at m0 m1 m2 m3 m4 m5 m6 m7; have lx4 := hx4.lt; have lz4 := hz4.lt; clear hb3 hx3 HZ3 hz4 hx4)
      | (refine store_ent 0 0 0 0 0 0 false none 0 0 rfl (.tmp 2) (.tmp 49) rfl rfl rfl HZ4.out rfl ?_; intro W9 hx9 hc9))
    refine bodyPost_ret (ret_ent Tryz.results17 _ _ w.heap.size 0 0 0 0 0 0 false none 0 0 rfl hx9) rfl (get_bad HE.out ?_)
    exact HI.out.fin HB4.out hc9
end Go.Proofs.YtfgamkcnnijloaaGreat
namespace Go.Proofs.YtfgamkcnnijloaaGreat
open Go.RowKit
variable {w w' : World}

theorem barg_ent {W W' : World} {b : Bat} {ad : Option Addr} {n c B : Nat} {kd nn k p e q : Int} {tx : Bool} {a' : Option Addr} {n' c' : Nat} (h : BArg W b ad n c) (hb : Blk W B #[.int .i64 kd, .int .i64 nn, .int .i64 k, .int .i64 p, .int .i64 e, .int .i64 q, .bool tx, .slice a' n' c'] TEt) (hc : Chg [B] W W') : BArg W' b ad n c := by
  refine ⟨h.1, h.2, h.3, h.4, ?_, h.6⟩
  rcases h.5 with h5 | ⟨x, off, e1, hx, hcl⟩
  · exact Or.inl h5
  · by_cases h0 : b.recs = []
    · exact Or.inl h0
    · have hne : x ≠ B := by
        rintro rfl
        have h1 := (hcl 0 (List.length_pos_iff.2 h0)).1
        rw [hb.cell] at h1
        rw [List.getElem?_toArray] at h1
        have hi := List.mem_of_getElem? h1
        simp at hi
      refine Or.inr ⟨x, off, e1, Nat.lt_of_lt_of_le hx hc.size, fun i hi => ?_⟩
      have hk := hc.block x hx (by simpa using hne)
      have := hcl i hi
      simp only [World.cell?, hk] at this ⊢
      exact this
theorem typ_ent {W W' : World} {ad : Option Addr} {n B : Nat} {cs : Array Value} (h : RTyq W ad n) (hb : Blk W B cs TEt) (hc : Chg [B] W W') : RTyq W' ad n := fun hn => by
  obtain ⟨b, off, cur, e1, hcc⟩ := h hn
  have hne : b ≠ B := by
    rintro rfl
    have hb' : W.heap[b]? = some (.cells cs TEt (0, 0)) := hb
    rw [hcc] at hb'
    injection hb' with hb'
    injection hb' with h1 h2 h3
    exact absurd h2 (by decide)
  have hlt : b < W.heap.size := by
    rcases Nat.lt_or_ge b W.heap.size with h | h
    · exact h
    · rw [Array.getElem?_eq_none h] at hcc; cases hcc
  exact ⟨b, off, cur, e1, (hc.block b hlt (by simpa using hne)).trans hcc⟩
theorem bargT_ent {W W' : World} {b : Bat} {ad : Option Addr} {n c B : Nat} {kd nn k p e q : Int} {tx : Bool} {a' : Option Addr} {n' c' : Nat} (h : BArgT W b ad n c) (hb : Blk W B #[.int .i64 kd, .int .i64 nn, .int .i64 k, .int .i64 p, .int .i64 e, .int .i64 q, .bool tx, .slice a' n' c'] TEt) (hc : Chg [B] W W') : BArgT W' b ad n c := ⟨barg_ent h.arg hb hc, typ_ent h.typ hb hc⟩
theorem store_bat13 {ops : Array Oper} {rest : List Oper} {o : Oper} {a : Act} {Q : Exit → Act → World → Prop} {g : Nat} (kd nn k p e q : Int) (tx : Bool) (ad : Option Addr) (len cap : Nat) (hgd : o.guard = none) (x y : Operand) (ho : o.op = .store 30 x y) (hx : a.eval x = .pointer (some ⟨g, 2, none⟩)) (hy : a.eval y = .agg #[.int .i64 k, .int .i64 p, .int .i64 e, .int .i64 q, .bool tx, .slice ad len cap])
    (hg : Blk w g #[.int .i64 kd, .int .i64 nn, .int .i64 0, .int .i64 0, .int .i64 0, .int .i64 0, .bool false, .slice none 0 0] TEt) (h : ∀ w', Blk w' g #[.int .i64 kd, .int .i64 nn, .int .i64 k, .int .i64 p, .int .i64 e, .int .i64 q, .bool tx, .slice ad len cap] TEt → Chg [g] w w' → wpList Tryz.prog ops Q rest (a.put o.dst undef) w') : wpList Tryz.prog ops Q (o :: rest) a w := by
  refine store_wide hgd 30 x y ho [.int .i64 k, .int .i64 p, .int .i64 e, .int .i64 q, .bool tx, .slice ad len cap] (by show _ = some 6; kernel_rfl) g 2 hx hy TEt _ hg (by show 2 + 6 ≤ 8; omega) (by
    intro v hv
    simp only [List.mem_cons, List.not_mem_nil, or_false] at hv
    rcases hv with h | h | h | h | h | h
    all_goals (subst h; rfl)) ?_
  refine h _ (setRow_heap _ _ _ _ _ _ hg) ⟨rfl, rfl, rfl, by simp [World.setRow], fun k _ hn => setRow_other w g k _ (by intro e; exact hn (by simp [e]))⟩
set_option maxRecDepth 20000 in
set_option maxHeartbeats 2000000 in
theorem get_batch (ad : Option Addr) (len cap : Nat) (l : List Nat) (w W0 : World) (hW0 : w.alloc (.cells #[.int .i64 0, .int .i64 0, .int .i64 0, .int .i64 0, .int .i64 0, .int .i64 0, .bool false, .slice none 0 0] TEt) = W0) (ub : List Nat) (m1 : Nat) (hI : GtI w W0 l 16 ub len m1) (hU : Calls Tryz.prog 38 #[.slice ad len cap, .int .i64 0] W0 fun e w' => ∃ v, e = .returned (.tuple #[.int .i64 16, v, .int .i64 (len : Int), .int .i64 0]) ∧ Own w' W0.heap.size v ub ∧ Below W0.heap.size W0 w') (hE : getE l = if (decodeN ub).2 ≠ 0 then (et0, 22) else (⟨1, 0, (decodeN ub).1⟩, 0)) : Calls Tryz.prog 17 #[.slice ad len cap] w (GetPost l w) := by
  have HU := hid hU
  have HZ := hid hI.z0
  have HI := hid hI
  have HM1 := hid hI.body
  have hm65 := hI.room
  obtain ⟨de, hde⟩ : ∃ de, (decodeN ub).2 = de := ⟨_, rfl⟩
  rw [hde] at hE
  have HDe := hid hde
  clear hU hI hde
  by_cases h0 : de = 0
  · subst h0
    have HE : Hid (getE l = (⟨1, 0, (decodeN ub).1⟩, 0)) := by rw [hE, if_neg (by simp)]; exact rfl
    clear hE
    go_enter Tryz.func17, Tryz.ntmps17
    go_wp2_with (first
      | (go_at_call 38; (with_reducible_and_instances (refine HU.out.mono ?_)); rintro x W1 ⟨v1, rfl, ho1, hb1⟩; obtain ⟨a1, c1, hv1, hq1, hc1, -⟩ := ho1.slice m1 HM1.out; subst hv1; have HQ1 := hid hq1; have HB1 := hid hb1; have HZ1 := hid (HZ.out.later hb1); have lz1 := (HZ.out.later hb1).lt; have HX1 := hid (show Blk (W1.alloc (.cells #[.int .i64 0, .int .i64 0, .int .i64 0, .int .i64 0, .int .i64 0, .int .i64 0, .bool false, .slice none 0 0] TEt)) W1.heap.size #[.int .i64 0, .int .i64 0, .int .i64 0, .int .i64 0, .int .i64 0, .int .i64 0, .bool false, .slice none 0 0] TEt from heap_alloc_new W1 _); clear ho1 hb1 hq1)
      | (refine store_ent 1 0 0 0 0 0 false none 0 0 rfl (.tmp 8) (.tmp 27) rfl rfl rfl HX1.out rfl ?_; intro W2 hx2 hc2; have HX2 := hid hx2; have HB2 : Hid (Below W1.heap.size W1 W2) := (((Below.refl _ W1).alloc (Nat.le_refl _) _).trans (hc2.below (fun g hg => by simp at hg; omega) (by simp))); have HZ2 := hid (HZ1.out.later HB2.out); have d0 := hx2.cell 0; have lx2 := hx2.lt; simp only [List.getElem?_toArray, List.getElem?_cons_zero] at d0; have HDc := hid (decode_any a1 m1 c1 ub W2 (HQ1.out.later HB2.out) hc1 (by omega)); rw [HDe.out] at HDc; clear hx2 hc2)
      | (go_at_call 39; (with_reducible_and_instances (refine HDc.out.mono ?_)); rintro x W3 ⟨kk, pp, ee, ss, tt, rs, ab, nb, cb, rfl, hbt, hba, hb3⟩; have HX3 := hid (HX2.out.later hb3); have HZ3 := hid (HZ2.out.later hb3); have HBt := hid hbt; have HBa := hid hba; have HB3 := hid (HB1.out.trans ((HB2.out.trans (hb3.mono HB2.out.size)).mono HB1.out.size)); have HS3 := hid hb3.size; clear hbt hba hb3)
      | (refine store_bat13 1 0 kk pp ee ss tt ab nb cb rfl (.tmp 37) (.tmp 35) rfl rfl rfl HX3.out ?_; intro W4 hx4 hc4; have hz4 := HZ3.out.chg hc4 (by simp; omega); have HZ4 := hid hz4; have HB4 : Hid (Below W0.heap.size W0 W4) := (HB3.out.trans (hc4.below (fun g hg => by simp at hg; rw [hg]; exact HB1.out.size) HB3.out.size)); have HBa4 := hid (bargT_ent HBa.out HX3.out hc4); have m0 := hx4.cell 0; have m1 := hx4.cell 1; have m2 := hx4.cell 2; have m3 := hx4.cell 3; have m4 := hx4.cell 4; have m5 := hx4.cell 5; have m6 := hx4.cell 6; have m7 := hx4.cell 7; simp only [List.getElem?_toArray, List.getElem?_cons_zero, List.getElem?_cons_succ] at m0 m1 m2 m3 m4 m5 m6 m7; have lx4 := hx4.lt; have lz4 := hz4.lt; clear hx4 hz4 hc4)
      | (refine store_ent 1 0 kk pp ee ss tt ab nb cb rfl (.tmp 2) (.tmp 50) rfl rfl rfl HZ4.out rfl ?_; intro W9 hx9 hc9))
    refine bodyPost_ret (ret_ent Tryz.results17 _ _ w.heap.size 1 0 kk pp ee ss tt ab nb cb rfl hx9) rfl ⟨1, 0, kk, pp, ee, ss, tt, rs, ab, nb, cb, by rw [HE.out]; rfl, by rw [HE.out, ← HBt.out], bargT_ent HBa4.out HZ4.out hc9, HI.out.fin HB4.out hc9⟩
  · have HE : Hid (getE l = (et0, 22)) := by rw [hE, if_pos h0]; exact rfl
    have h0' : (de == 0) = false := by simpa using h0
    clear hE
    go_enter Tryz.func17, Tryz.ntmps17
    go_wp2_with (first
      | (go_at_call 38; (with_reducible_and_instances (refine HU.out.mono ?_)); rintro x W1 ⟨v1, rfl, ho1, hb1⟩; obtain ⟨a1, c1, hv1, hq1, hc1, -⟩ := ho1.slice m1 HM1.out; subst hv1; have HQ1 := hid hq1; have HB1 := hid hb1; have HZ1 := hid (HZ.out.later hb1); have lz1 := (HZ.out.later hb1).lt; have HX1 := hid (show Blk (W1.alloc (.cells #[.int .i64 0, .int .i64 0, .int .i64 0, .int .i64 0, .int .i64 0, .int .i64 0, .bool false, .slice none 0 0] TEt)) W1.heap.size #[.int .i64 0, .int .i64 0, .int .i64 0, .int .i64 0, .int .i64 0, .int .i64 0, .bool false, .slice none 0 0] TEt from heap_alloc_new W1 _); clear ho1 hb1 hq1)
      | (refine store_ent 1 0 0 0 0 0 false none 0 0 rfl (.tmp 8) (.tmp 27) rfl rfl rfl HX1.out rfl ?_; intro W2 hx2 hc2; have HX2 := hid hx2; have HB2 : Hid (Below W1.heap.size W1 W2) := (((Below.refl _ W1).alloc (Nat.le_refl _) _).trans (hc2.below (fun g hg => by simp at hg; omega) (by simp))); have HZ2 := hid (HZ1.out.later HB2.out); have d0 := hx2.cell 0; have lx2 := hx2.lt; simp only [List.getElem?_toArray, List.getElem?_cons_zero] at d0; have HDc := hid (decode_any a1 m1 c1 ub W2 (HQ1.out.later HB2.out) hc1 (by omega)); rw [HDe.out] at HDc; clear hx2 hc2)
      | (go_at_call 39; (with_reducible_and_instances (refine HDc.out.mono ?_)); rintro x W3 ⟨kk, pp, ee, ss, tt, rs, ab, nb, cb, rfl, hbt, hba, hb3⟩; have HX3 := hid (HX2.out.later hb3); have HZ3 := hid (HZ2.out.later hb3); have HBt := hid hbt; have HBa := hid hba; have HB3 := hid (HB1.out.trans ((HB2.out.trans (hb3.mono HB2.out.size)).mono HB1.out.size)); have HS3 := hid hb3.size; clear hbt hba hb3)
      | (refine store_bat13 1 0 kk pp ee ss tt ab nb cb rfl (.tmp 37) (.tmp 35) rfl rfl rfl HX3.out ?_; intro W4 hx4 hc4; have hz4 := HZ3.out.chg hc4 (by simp; omega); have HZ4 := hid hz4; have HB4 : Hid (Below W0.heap.size W0 W4) := (HB3.out.trans (hc4.below (fun g hg => by simp at hg; rw [hg]; exact HB1.out.size) HB3.out.size)); have HBa4 := hid (bargT_ent HBa.out HX3.out hc4); have m0 := hx4.cell 0; have m1 := hx4.cell 1; have m2 := hx4.cell 2; have m3 := hx4.cell 3; have m4 := hx4.cell 4; have m5 := hx4.cell 5; have m6 := hx4.cell 6; have m7 := hx4.cell 7; simp only [List.getElem?_toArray, List.getElem?_cons_zero, List.getElem?_cons_succ] at m0 m1 m2 m3 m4 m5 m6 m7; have lx4 := hx4.lt; have lz4 := hz4.lt; clear hx4 hz4 hc4)
      | (refine store_ent 0 0 0 0 0 0 false none 0 0 rfl (.tmp 2) (.tmp 49) rfl rfl rfl HZ4.out rfl ?_; intro W9 hx9 hc9))
    refine bodyPost_ret (ret_ent Tryz.results17 _ _ w.heap.size 0 0 0 0 0 0 false none 0 0 rfl hx9) rfl (get_bad HE.out ?_)
    exact HI.out.fin HB4.out hc9
theorem unframe_shape {l : List Nat} (hl : ∀ x ∈ l, x < 256) (h : (unframeN l 0).2.2.2 = 0) : ∃ (uk : Nat) (ub : List Nat), uk < 256 ∧ ub.length ≤ 65536 ∧ unframeN l 0 = ((uk : Int), ub, (unframeN l 0).2.2.1, 0) := by
  unfold unframeN at h ⊢
  rw [if_pos (by omega)] at h ⊢
  have e0 : (0 : Int).toNat = 0 := rfl
  rw [e0] at h ⊢
  by_cases hz : unframeE l 0 = 0
  · rw [if_pos hz] at h ⊢
    obtain ⟨h1, h2, -⟩ := unframeE_zero hz
    refine ⟨kindAt l 0, bodyAt l 0, ?_, ?_, rfl⟩
    · have h3 := valN_lt ((l.drop 0).take 1) (drop_take_lt hl 0 1)
      have h4 : ((l.drop 0).take 1).length ≤ 1 := List.length_take_le _ _
      have h5 : 2 ^ (8 * ((l.drop 0).take 1).length) ≤ 2 ^ 8 := Nat.pow_le_pow_right (by omega) (by omega)
      unfold kindAt
      omega
    · have h6 : (bodyAt l 0).length ≤ sizeAt l 0 := by unfold bodyAt; exact List.length_take_le _ _
      omega
  · rw [if_neg hz] at h
    exact absurd h hz
theorem getEntry_any (ad : Option Addr) (len cap : Nat) (l : List Nat) (w : World) (hp : Part.ok w ⟨ad, len, cap, l⟩) (hlc : len ≤ cap) (hm : len ≤ 1000000000000000) : Calls Tryz.prog 17 #[.slice ad len cap] w (GetPost l w) := by
  by_cases hno : (unframeN l 0).2.2.2 ≠ 0 ∨ (unframeN l 0).2.2.1 ≠ l.length
  · exact get_no1 ad len cap l w hp hlc hm hno
  have hno2 : (unframeN l 0).2.2.2 = 0 ∧ (unframeN l 0).2.2.1 = l.length := by
    constructor
    · exact Classical.byContradiction fun h => hno (Or.inl h)
    · exact Classical.byContradiction fun h => hno (Or.inr h)
  obtain ⟨uk, ub, hk, hub, hu⟩ := unframe_shape hp.2.2.1 hno2.1
  have hlen : l.length = len := hp.1
  rw [hno2.2, hlen] at hu
  obtain ⟨W0, hW0⟩ : ∃ W0, w.alloc (.cells #[.int .i64 0, .int .i64 0, .int .i64 0, .int .i64 0, .int .i64 0, .int .i64 0, .bool false, .slice none 0 0] TEt) = W0 := ⟨_, rfl⟩
  have b0 : Below w.heap.size w W0 := by rw [← hW0]; exact (Below.refl _ _).alloc (Nat.le_refl _) _
  have z0 : Blk W0 w.heap.size #[.int .i64 0, .int .i64 0, .int .i64 0, .int .i64 0, .int .i64 0, .int .i64 0, .bool false, .slice none 0 0] TEt := by rw [← hW0]; exact heap_alloc_new w _
  have hU := unframe_any ad len cap l 0 W0 (hp.later b0) hlc hm (by omega)
  rw [hu] at hU
  dsimp only at hU
  have hE : getE l = (if (uk : Int) = 16 then (if (decodeN ub).2 ≠ 0 then (et0, 22) else (⟨1, 0, (decodeN ub).1⟩, 0)) else if (uk : Int) = 17 ∨ (uk : Int) = 18 then (if (read13 ub).2 ≠ 0 then (et0, 22) else (⟨(uk : Int) - 15, (read13 ub).1, bat0⟩, 0)) else (et0, 22)) := by
    unfold getE
    rw [if_neg hno, hu]
  have hI : GtI w W0 l uk ub len ub.length := ⟨b0, z0, hk, rfl, hub⟩
  by_cases k16 : uk = 16
  · subst k16
    rw [if_pos (by decide)] at hE
    exact get_batch ad len cap l w W0 hW0 ub _ hI hU hE
  by_cases k17 : uk = 17
  · subst k17
    rw [if_neg (by decide), if_pos (by decide), show ((17 : Nat) : Int) - 15 = 2 from rfl] at hE
    exact get_retain ad len cap l w W0 hW0 ub _ hI hU hE
  by_cases k18 : uk = 18
  · subst k18
    rw [if_neg (by decide), if_pos (by decide), show ((18 : Nat) : Int) - 15 = 3 from rfl] at hE
    exact get_compact ad len cap l w W0 hW0 ub _ hI hU hE
  · rw [if_neg (by omega), if_neg (by omega)] at hE
    exact get_other ad len cap l w W0 hW0 uk ub _ hI hU ⟨k16, k17, k18⟩ hE
end Go.Proofs.YtfgamkcnnijloaaGreat
