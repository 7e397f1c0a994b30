/- GetReply of package node, of a frame. -/
import Derived.Test.YtjldflfoncfndaaGreatPNode
import Derived.Deep.DeepCutAuto
import Derived.Deep.RegionWith
namespace Go.Proofs.YtjldflfoncfndaaGreat
open Go.RowKit Crcm

set_option maxRecDepth 100000 in
set_option maxHeartbeats 4000000 in
theorem getReply_frame (ad : Option Addr) (len cap : Nat) (l : List Nat) (w : World) (hp : Part.ok w ⟨ad, len, cap, l⟩) (hlc : len ≤ cap) (hm : len ≤ 1000000000000000) (h : unpackN l 2 4 = true) :
    Calls Tryz.prog 17 #[.slice ad len cap] w fun e w' => ((repIn (bodyAt l 0) = false ∧ e = .returned (.tuple #[repV 0 0 false none 0 0, .int .i64 22])) ∨ (repIn (bodyAt l 0) = true ∧ ∃ g o n c : Nat, e = .returned (.tuple #[repV (repE (bodyAt l 0) : Nat) (repT (bodyAt l 0) : Nat) ((repS (bodyAt l 0) : Int) == 1) (some ⟨g, o, none⟩) n c, .int .i64 0]) ∧ Part.ok w' ⟨some ⟨g, o, none⟩, n, c, (bodyAt l 0).drop 4⟩ ∧ n ≤ c ∧ w.heap.size ≤ g)) ∧ Below w.heap.size w w' := by
  have HB : Hid (Below w.heap.size w (w.alloc (.cells #[.int .i64 0, .int .i64 0, .bool false, .slice none 0 0] 31))) := (show Hid _ from (Below.refl _ w).alloc (Nat.le_refl _) _)
  have Q := unpack_at (z := 2) (c := 4) ad len cap l 2 4 (w.alloc (.cells #[.int .i64 0, .int .i64 0, .bool false, .slice none 0 0] 31)) rfl rfl (hp.later HB.out) hlc hm h (by omega)
  clear hp h hm hlc
  obtain ⟨s, hs⟩ : ∃ s, s = repS (bodyAt l 0) := ⟨_, rfl⟩
  have S : Hid (s = repS (bodyAt l 0)) := hs
  have S2 : Hid (s = valN ((bodyAt l 0).drop 3 |>.take 1)) := (show Hid _ from hs)
  go_enter Tryz.func17, Tryz.ntmps17
  go_upto_region 4 with (go_at_call 43; refine Q.mono ?_; rintro x W1 ⟨g, n, c, rfl, hn, hn4, hn6, hnc, hcm, hg, k1, hb1⟩; have HC : Hid (c ≤ maxLen ∧ w.heap.size < g ∧ n = (bodyAt l 0).length) := (show Hid _ from ⟨hcm, Nat.lt_of_lt_of_le (by simp) hg, hn⟩); have H8 : Hid (∀ x ∈ bodyAt l 0, x < 256) := (show Hid _ from k1.2.2.1); have X1 : Hid (Box4 31 W1 w.heap.size _ _ _ _) := (show Hid _ from (Box4.new _ w _ _ _ _).below hb1 (by simp)); have K1 : Hid (Part.ok W1 ⟨some ⟨g, 0, none⟩, n, c, bodyAt l 0⟩) := k1; have B1 : Hid (Below w.heap.size w W1) := (show Hid _ from HB.out.trans (hb1.mono HB.out.size)); have Z1 : Hid (w.heap.size < W1.heap.size) := (show Hid _ from Nat.lt_of_lt_of_le (by simp) hb1.size); clear hb1 k1 Q hcm hg hn)
  have N1 := numberAt_any (z := 3) (s := 1) (some ⟨g, 0, none⟩) n c (bodyAt l 0) 3 1 W1 rfl rfl K1.out hnc (by omega) (by omega) (by omega) (by omega)
  rw [← S2.out] at N1
  clear hs
  go_upto_region 5 with (go_at_call 44; refine N1.mono ?_; rintro x W2 ⟨rfl, hb2⟩; have X2 : Hid (Box4 31 W2 w.heap.size _ _ _ _) := (show Hid _ from X1.out.below hb2 Z1.out); have K2 : Hid (Part.ok W2 ⟨some ⟨g, 0, none⟩, n, c, bodyAt l 0⟩) := (show Hid _ from K1.out.later hb2); have B2 : Hid (Below w.heap.size w W2) := (show Hid _ from B1.out.trans (hb2.mono B1.out.size)); have Z2 : Hid (w.heap.size < W2.heap.size) := (show Hid _ from Nat.lt_of_lt_of_le Z1.out hb2.size); clear hb2 K1 X1 Z1 B1 N1)
  have BD : Hid (Below W2.heap.size W2 W2.drew) := (show Hid _ from (Below.refl _ W2).drew)
  have BA : Hid (Below W2.heap.size W2 (W2.alloc (.cells #[.int .i64 0, .int .i64 0, .bool false, .slice none 0 0] 31)).drew) := (show Hid _ from ((Below.refl _ W2).alloc (Nat.le_refl _) _).drew)
  have NA : Hid (Box4 31 (W2.alloc (.cells #[.int .i64 0, .int .i64 0, .bool false, .slice none 0 0] 31)).drew W2.heap.size _ _ _ _) := (show Hid _ from (Box4.new _ W2 _ _ _ _).below ((Below.refl (W2.heap.size + 1) _).drew) (by omega))
  have SA : Hid (W2.heap.size < (W2.alloc (.cells #[.int .i64 0, .int .i64 0, .bool false, .slice none 0 0] 31)).drew.heap.size) := (show Hid _ from Nat.lt_of_lt_of_le (by simp) ((Below.refl (W2.heap.size + 1) (W2.alloc (.cells #[.int .i64 0, .int .i64 0, .bool false, .slice none 0 0] 31))).drew).size)
  go_cut [7] (fun v wx => ∃ G o, v = .pointer (some ⟨G, 0, none⟩) ∧ (4 < n → o = 4) ∧ Hid (Made w wx G (repE (bodyAt l 0)) (repT (bodyAt l 0)) ((s : Int) == 1) (some ⟨g, o, none⟩) (n - 4) (c - 4) ((bodyAt l 0).drop 4)))
  case first =>
    by_cases hc4 : c = 4
    · have en4 : n = 4 := by omega
      subst hc4 en4
      go_region_with (first
          | (go_at_call 44; (with_reducible_and_instances (refine (numberAt_any (some ⟨g, 0, none⟩) 4 4 (bodyAt l 0) 0 1 W2.drew rfl rfl (K2.out.later BD.out) (by omega) (by omega) (by omega) (by omega) (by omega)).mono ?_)); rintro x W3 ⟨rfl, b3⟩; have K3 : Hid (Part.ok W3 ⟨some ⟨g, 0, none⟩, 4, 4, bodyAt l 0⟩) := (show Hid _ from (K2.out.later BD.out).later b3); have B3 : Hid (Below W2.heap.size W2 W3) := (show Hid _ from BD.out.trans (b3.mono BD.out.size)); clear b3)
          | (go_at_call 44; (with_reducible_and_instances (refine (numberAt_any (some ⟨g, 0, none⟩) 4 4 (bodyAt l 0) 0 1 (W2.alloc (.cells #[.int .i64 0, .int .i64 0, .bool false, .slice none 0 0] 31)).drew rfl rfl (K2.out.later BA.out) (by omega) (by omega) (by omega) (by omega) (by omega)).mono ?_)); rintro x W3 ⟨rfl, b3⟩; have K3 : Hid (Part.ok W3 ⟨some ⟨g, 0, none⟩, 4, 4, bodyAt l 0⟩) := (show Hid _ from (K2.out.later BA.out).later b3); have B3 : Hid (Below W2.heap.size W2 W3) := (show Hid _ from BA.out.trans (b3.mono BA.out.size)); have N3 : Hid (Box4 31 W3 W2.heap.size _ _ _ _) := (show Hid _ from NA.out.below b3 SA.out); have M3 : Hid (W2.heap.size < W3.heap.size) := (show Hid _ from Nat.lt_of_lt_of_le SA.out b3.size); clear b3)
          | (go_at_call 44; have N3x := N3; clear N3x; (with_reducible_and_instances (refine (numberAt_any (some ⟨g, 0, none⟩) 4 4 (bodyAt l 0) 1 2 W3 rfl rfl K3.out (by omega) (by omega) (by omega) (by omega) (by omega)).mono ?_)); rintro x W4 ⟨rfl, b4⟩; have K4 : Hid (Part.ok W4 ⟨some ⟨g, 0, none⟩, 4, 4, bodyAt l 0⟩) := (show Hid _ from K3.out.later b4); have B4 : Hid (Below W2.heap.size W2 W4) := (show Hid _ from B3.out.trans (b4.mono B3.out.size)); have N4 : Hid (Box4 31 W4 W2.heap.size _ _ _ _) := (show Hid _ from N3.out.below b4 M3.out); obtain ⟨c0, c1, c2, c3⟩ := N4.out.cs; have f0 := N4.out.free 0; have f1 := N4.out.free 1; have f2 := N4.out.free 2; have f3 := N4.out.free 3; clear b4)
          | (go_at_call 44; (with_reducible_and_instances (refine (numberAt_any (some ⟨g, 0, none⟩) 4 4 (bodyAt l 0) 1 2 W3 rfl rfl K3.out (by omega) (by omega) (by omega) (by omega) (by omega)).mono ?_)); rintro x W4 ⟨rfl, b4⟩; have K4 : Hid (Part.ok W4 ⟨some ⟨g, 0, none⟩, 4, 4, bodyAt l 0⟩) := (show Hid _ from K3.out.later b4); have B4 : Hid (Below W2.heap.size W2 W4) := (show Hid _ from B3.out.trans (b4.mono B3.out.size)); clear b4)
          | (go_at_call 44; (with_reducible_and_instances (refine (numberAt_any (some ⟨g, 0, none⟩) 4 4 (bodyAt l 0) 1 2 (W3.alloc (.cells #[.int .i64 0, .int .i64 0, .bool false, .slice none 0 0] 31)) rfl rfl (K3.out.later ((Below.refl _ W3).alloc (Nat.le_refl _) _)) (by omega) (by omega) (by omega) (by omega) (by omega)).mono ?_)); rintro x W4 ⟨rfl, b4⟩; have K4 : Hid (Part.ok W4 ⟨some ⟨g, 0, none⟩, 4, 4, bodyAt l 0⟩) := (show Hid _ from (K3.out.later ((Below.refl _ W3).alloc (Nat.le_refl _) _)).later b4); have B4 : Hid (Below W2.heap.size W2 W4) := (show Hid _ from B3.out.trans ((((Below.refl _ W3).alloc (Nat.le_refl _) _).trans (b4.mono (by simp))).mono B3.out.size)); have N4 : Hid (Box4 31 W4 W3.heap.size _ _ _ _) := (show Hid _ from (Box4.new _ W3 _ _ _ _).below b4 (by simp)); obtain ⟨c0, c1, c2, c3⟩ := N4.out.cs; have f0 := N4.out.free 0; have f1 := N4.out.free 1; have f2 := N4.out.free 2; have f3 := N4.out.free 3; clear b4))
      · go_wp2_with fail
        go_meet
        exact ⟨W4.heap.size, 0, rfl, (fun hh => absurd hh (by omega)), (show Hid _ from made_of X2.out Z2.out B2.out K2.out (by omega) (fun hh => absurd hh (by omega)) (B4.out.alloc B4.out.size _) B4.out.size (Box4.new _ _ _ _ _ _))⟩
      · go_wp2_with fail
        go_meet
        exact ⟨W3.heap.size, 0, rfl, (fun hh => absurd hh (by omega)), (show Hid _ from made_of X2.out Z2.out B2.out K2.out (by omega) (fun hh => absurd hh (by omega)) (set4_below B4.out B3.out.size _ _ _ _) B3.out.size (N4.out.set4 _ _ _ _))⟩
      · go_wp2_with fail
        go_meet
        exact ⟨W2.heap.size, 0, rfl, (fun hh => absurd hh (by omega)), (show Hid _ from made_of X2.out Z2.out B2.out K2.out (by omega) (fun hh => absurd hh (by omega)) (set4_below B4.out (Nat.le_refl _) _ _ _ _) (Nat.le_refl _) (N4.out.set4 _ _ _ _))⟩
    · have i1 : (4 : Int) ≤ (n : Int) := by omega
      have i2 : (n : Int) ≤ (c : Int) := by omega
      have i3 : (4 : Int) ≤ (c : Int) := by omega
      have i4 : (c == 4) = false := by simpa using hc4
      have i5 : ((c : Int) == 4) = false := by simp; omega
      go_region_with (first
          | (go_at_call 44; (with_reducible_and_instances (refine (numberAt_any (some ⟨g, 0, none⟩) n c (bodyAt l 0) 0 1 W2.drew rfl rfl (K2.out.later BD.out) hnc (by omega) (by omega) (by omega) (by omega)).mono ?_)); rintro x W3 ⟨rfl, b3⟩; have K3 : Hid (Part.ok W3 ⟨some ⟨g, 0, none⟩, n, c, bodyAt l 0⟩) := (show Hid _ from (K2.out.later BD.out).later b3); have B3 : Hid (Below W2.heap.size W2 W3) := (show Hid _ from BD.out.trans (b3.mono BD.out.size)); clear b3)
          | (go_at_call 44; (with_reducible_and_instances (refine (numberAt_any (some ⟨g, 0, none⟩) n c (bodyAt l 0) 0 1 (W2.alloc (.cells #[.int .i64 0, .int .i64 0, .bool false, .slice none 0 0] 31)).drew rfl rfl (K2.out.later BA.out) hnc (by omega) (by omega) (by omega) (by omega)).mono ?_)); rintro x W3 ⟨rfl, b3⟩; have K3 : Hid (Part.ok W3 ⟨some ⟨g, 0, none⟩, n, c, bodyAt l 0⟩) := (show Hid _ from (K2.out.later BA.out).later b3); have B3 : Hid (Below W2.heap.size W2 W3) := (show Hid _ from BA.out.trans (b3.mono BA.out.size)); have N3 : Hid (Box4 31 W3 W2.heap.size _ _ _ _) := (show Hid _ from NA.out.below b3 SA.out); have M3 : Hid (W2.heap.size < W3.heap.size) := (show Hid _ from Nat.lt_of_lt_of_le SA.out b3.size); clear b3)
          | (go_at_call 44; have N3x := N3; clear N3x; (with_reducible_and_instances (refine (numberAt_any (some ⟨g, 0, none⟩) n c (bodyAt l 0) 1 2 W3 rfl rfl K3.out hnc (by omega) (by omega) (by omega) (by omega)).mono ?_)); rintro x W4 ⟨rfl, b4⟩; have K4 : Hid (Part.ok W4 ⟨some ⟨g, 0, none⟩, n, c, bodyAt l 0⟩) := (show Hid _ from K3.out.later b4); have B4 : Hid (Below W2.heap.size W2 W4) := (show Hid _ from B3.out.trans (b4.mono B3.out.size)); have N4 : Hid (Box4 31 W4 W2.heap.size _ _ _ _) := (show Hid _ from N3.out.below b4 M3.out); obtain ⟨c0, c1, c2, c3⟩ := N4.out.cs; have f0 := N4.out.free 0; have f1 := N4.out.free 1; have f2 := N4.out.free 2; have f3 := N4.out.free 3; clear b4)
          | (go_at_call 44; (with_reducible_and_instances (refine (numberAt_any (some ⟨g, 0, none⟩) n c (bodyAt l 0) 1 2 W3 rfl rfl K3.out hnc (by omega) (by omega) (by omega) (by omega)).mono ?_)); rintro x W4 ⟨rfl, b4⟩; have K4 : Hid (Part.ok W4 ⟨some ⟨g, 0, none⟩, n, c, bodyAt l 0⟩) := (show Hid _ from K3.out.later b4); have B4 : Hid (Below W2.heap.size W2 W4) := (show Hid _ from B3.out.trans (b4.mono B3.out.size)); clear b4)
          | (go_at_call 44; (with_reducible_and_instances (refine (numberAt_any (some ⟨g, 0, none⟩) n c (bodyAt l 0) 1 2 (W3.alloc (.cells #[.int .i64 0, .int .i64 0, .bool false, .slice none 0 0] 31)) rfl rfl (K3.out.later ((Below.refl _ W3).alloc (Nat.le_refl _) _)) hnc (by omega) (by omega) (by omega) (by omega)).mono ?_)); rintro x W4 ⟨rfl, b4⟩; have K4 : Hid (Part.ok W4 ⟨some ⟨g, 0, none⟩, n, c, bodyAt l 0⟩) := (show Hid _ from (K3.out.later ((Below.refl _ W3).alloc (Nat.le_refl _) _)).later b4); have B4 : Hid (Below W2.heap.size W2 W4) := (show Hid _ from B3.out.trans ((((Below.refl _ W3).alloc (Nat.le_refl _) _).trans (b4.mono (by simp))).mono B3.out.size)); have N4 : Hid (Box4 31 W4 W3.heap.size _ _ _ _) := (show Hid _ from (Box4.new _ W3 _ _ _ _).below b4 (by simp)); obtain ⟨c0, c1, c2, c3⟩ := N4.out.cs; have f0 := N4.out.free 0; have f1 := N4.out.free 1; have f2 := N4.out.free 2; have f3 := N4.out.free 3; clear b4))
      · go_wp2_with fail
        go_meet
        exact ⟨W4.heap.size, 4, rfl, (fun _ => rfl), (show Hid _ from made_of X2.out Z2.out B2.out K2.out (by omega) (fun _ => rfl) (B4.out.alloc B4.out.size _) B4.out.size (Box4.new _ _ _ _ _ _))⟩
      · go_wp2_with fail
        go_meet
        exact ⟨W3.heap.size, 4, rfl, (fun _ => rfl), (show Hid _ from made_of X2.out Z2.out B2.out K2.out (by omega) (fun _ => rfl) (set4_below B4.out B3.out.size _ _ _ _) B3.out.size (N4.out.set4 _ _ _ _))⟩
      · go_wp2_with fail
        go_meet
        exact ⟨W2.heap.size, 4, rfl, (fun _ => rfl), (show Hid _ from made_of X2.out Z2.out B2.out K2.out (by omega) (fun _ => rfl) (set4_below B4.out (Nat.le_refl _) _ _ _ _) (Nat.le_refl _) (N4.out.set4 _ _ _ _))⟩
  case rest =>
    obtain ⟨G, o, rfl, ho, M⟩ := hcut
    clear X2 K2 B2 Z2 BD BA NA SA
    obtain ⟨q0, q1, q2, q3⟩ := M.out.new.cs
    have H256 : Hid (∀ x ∈ bodyAt l 0, x < 256) := H8
    by_cases hs2 : 1 < s
    · have j1 : (1 : Int) < (s : Int) := by omega
      obtain ⟨c0, c1, c2, c3⟩ := M.out.ans.cs
      have f0 := M.out.ans.free 0
      have f1 := M.out.ans.free 1
      have f2 := M.out.ans.free 2
      have f3 := M.out.ans.free 3
      go_wp2_with fail
      refine bodyPost_ret (ret_reply Tryz.results17 _ _ w.heap.size 0 0 false none 0 0 rfl (M.out.ans.set4 _ _ _ _)) rfl ⟨Or.inl ⟨repIn_no S.out hs2, rfl⟩, ?_⟩
      exact set4_below M.out.below (Nat.le_refl _) _ _ _ _
    · have j1 : ¬ (1 : Int) < (s : Int) := by omega
      have j2 : decide ((1 : Int) < (s : Int)) = false := by simp; omega
      have HR := repIn_may H256.out S.out hs2 HC.out.2.2
      have HM := rmay_any (repE (bodyAt l 0) : Int) (repT (bodyAt l 0) : Int) ((s : Int) == 1) (some ⟨g, o, none⟩) (n - 4) (c - 4) wc
      rw [HR] at HM
      unfold repV at HM
      clear HR
      cases hin : repIn (bodyAt l 0) with
      | false =>
        rw [hin] at HM
        have HIN : Hid (repIn (bodyAt l 0) = false) := hin
        clear hin
        go_wp2_with (go_at_call 41; refine HM.mono ?_; rintro x W5 ⟨rfl, b5⟩; have A5 : Hid (Box4 31 W5 w.heap.size _ _ _ _) := (show Hid _ from M.out.ans.below b5 M.out.sz); obtain ⟨c0, c1, c2, c3⟩ := A5.out.cs; have f0 := A5.out.free 0; have f1 := A5.out.free 1; have f2 := A5.out.free 2; have f3 := A5.out.free 3; have D5 : Hid (Below w.heap.size w W5) := (show Hid _ from M.out.below.trans (b5.mono M.out.below.size)); clear b5 HM)
        refine bodyPost_ret (ret_reply Tryz.results17 _ _ w.heap.size 0 0 false none 0 0 rfl (A5.out.set4 _ _ _ _)) rfl ⟨Or.inl ⟨HIN.out, rfl⟩, ?_⟩
        exact set4_below D5.out (Nat.le_refl _) _ _ _ _
      | true =>
        rw [hin] at HM
        have HIN : Hid (repIn (bodyAt l 0) = true) := hin
        clear hin
        go_wp2_with (go_at_call 41; refine HM.mono ?_; rintro x W5 ⟨rfl, b5⟩; have A5 : Hid (Box4 31 W5 w.heap.size _ _ _ _) := (show Hid _ from M.out.ans.below b5 M.out.sz); obtain ⟨c0, c1, c2, c3⟩ := A5.out.cs; have f0 := A5.out.free 0; have f1 := A5.out.free 1; have f2 := A5.out.free 2; have f3 := A5.out.free 3; have D5 : Hid (Below w.heap.size w W5) := (show Hid _ from M.out.below.trans (b5.mono M.out.below.size)); have E5 : Hid (Box4 31 W5 G _ _ _ _) := (show Hid _ from M.out.new.below b5 M.out.new.lt); obtain ⟨r0, r1, r2, r3⟩ := E5.out.cs; have P5 : Hid (Part.ok W5 ⟨some ⟨g, o, none⟩, n - 4, c - 4, (bodyAt l 0).drop 4⟩) := (show Hid _ from M.out.part.later b5); clear b5 HM)
        refine bodyPost_ret (ret_reply Tryz.results17 _ _ w.heap.size _ _ _ _ _ _ rfl (A5.out.set4 _ _ _ _)) rfl ⟨Or.inr ⟨HIN.out, g, o, n - 4, c - 4, by rw [← S.out]; rfl, part_set4 P5.out HC.out.2.1, by omega, Nat.le_of_lt HC.out.2.1⟩, ?_⟩
        exact set4_below D5.out (Nat.le_refl _) _ _ _ _
end Go.Proofs.YtjldflfoncfndaaGreat
