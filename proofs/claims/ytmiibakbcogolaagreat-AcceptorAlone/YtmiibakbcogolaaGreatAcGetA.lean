/- GetAsk of package acceptor. -/
import Derived.Test.YtmiibakbcogolaaGreatAcBox
import Derived.Test.YtmiibakbcogolaaGreatAcMay
namespace Go.Proofs.YtmiibakbcogolaaGreat.Ac
open Go.RowKit Crcm

set_option maxRecDepth 100000 in
set_option maxHeartbeats 4000000 in
theorem getAsk_no1 (ad : Option Addr) (len cap : Nat) (l : List Nat) (w : World) (hp : Part.ok w ⟨ad, len, cap, l⟩) (hlc : len ≤ cap) (hm : len ≤ 1000000000000000) (h : unpackN l 3 19 = false) :
    Calls Tryz.prog 15 #[.slice ad len cap] w fun e w' => e = .returned (.tuple #[askV 0 0 0 0 none 0 0, .int .i64 22]) ∧ Below w.heap.size w w' := by
  have HB : Hid (Below w.heap.size w (w.alloc (.cells #[.int .i64 0, .int .i64 0, .int .i64 0, .int .i64 0, .slice none 0 0] 30))) := (show Hid _ from (Below.refl _ w).alloc (Nat.le_refl _) _)
  have Q := unpack_no (z := 3) (c := 19) ad len cap l 3 19 (w.alloc (.cells #[.int .i64 0, .int .i64 0, .int .i64 0, .int .i64 0, .slice none 0 0] 30)) rfl rfl (hp.later HB.out) hlc hm h
  clear hp h hm hlc
  go_enter Tryz.func15, Tryz.ntmps15
  go_wp2_with (go_at_call 45; refine Q.mono ?_; rintro x W1 ⟨p, rfl, hb1⟩; have X : Hid (Blk W1 w.heap.size #[.int .i64 0, .int .i64 0, .int .i64 0, .int .i64 0, .slice none 0 0] 30) := (show Hid _ from blk_below (blk_new _ w _) hb1 (by simp)); obtain ⟨⟨c0, c1, c2, c3, c4⟩, f0, f1, f2, f3, f4⟩ := blk5 X.out; have hb2 : Hid (Below w.heap.size w W1) := (show Hid _ from HB.out.trans (hb1.mono HB.out.size)); clear hb1)
  refine bodyPost_ret (ret_ask Tryz.results15 _ _ w.heap.size 0 0 0 0 none 0 0 rfl (blk_set5 X.out _ _ _ _ _)) rfl ⟨rfl, ?_⟩
  exact set5_below hb2.out (Nat.le_refl _) _ _ _ _ _
structure MadeA (w wx : World) (G : Nat) (k g v b : Nat) (ad : Option Addr) (len cap : Nat) (l : List Nat) : Prop where
  ans : Blk wx w.heap.size #[.int .i64 0, .int .i64 0, .int .i64 0, .int .i64 0, .slice none 0 0] 30
  new : Blk wx G #[.int .i64 (k : Int), .int .i64 (g : Int), .int .i64 (v : Int), .int .i64 (b : Int), .slice ad len cap] 30
  ne : w.heap.size < G
  sz : w.heap.size < wx.heap.size
  part : Part.ok wx ⟨ad, len, cap, l⟩
  below : Below w.heap.size w wx
theorem madeA_of {w W wx : World} {G k g v b n c B o : Nat} {l : List Nat} (X : Blk W w.heap.size #[.int .i64 0, .int .i64 0, .int .i64 0, .int .i64 0, .slice none 0 0] 30) (Z : w.heap.size < W.heap.size) (B0 : Below w.heap.size w W) (K : Part.ok W ⟨some ⟨B, 0, none⟩, n, c, l⟩) (hk : 19 ≤ n) (ho : 19 < n → o = 19) (Bl : Below W.heap.size W wx) (hG : W.heap.size ≤ G)
    (N : Blk wx G #[.int .i64 (k : Int), .int .i64 (g : Int), .int .i64 (v : Int), .int .i64 (b : Int), .slice (some ⟨B, o, none⟩) (n - 19) (c - 19)] 30) : MadeA w wx G k g v b (some ⟨B, o, none⟩) (n - 19) (c - 19) (l.drop 19) :=
  ⟨blk_below X Bl Z, N, by omega, Nat.lt_of_lt_of_le Z Bl.size, (part_rest 19 K hk o ho).later Bl, B0.trans (Bl.mono B0.size)⟩
set_option maxRecDepth 100000 in
set_option maxHeartbeats 8000000 in
theorem getAsk_frame (ad : Option Addr) (len cap : Nat) (l : List Nat) (w : World) (bb : Bool) (hp : Part.ok w ⟨ad, len, cap, l⟩) (hlc : len ≤ cap) (hm : len ≤ 1000000000000000) (h : unpackN l 3 19 = true) (hin : askIn (bodyAt l 0) = bb) :
    Calls Tryz.prog 15 #[.slice ad len cap] w fun e w' => ((bb = false ∧ e = .returned (.tuple #[askV 0 0 0 0 none 0 0, .int .i64 22])) ∨ (bb = true ∧ ∃ g o n c : Nat, e = .returned (.tuple #[askV (askK (bodyAt l 0) : Nat) (askG (bodyAt l 0) : Nat) (askW (bodyAt l 0) : Nat) (askB (bodyAt l 0) : Nat) (some ⟨g, o, none⟩) n c, .int .i64 0]) ∧ Part.ok w' ⟨some ⟨g, o, none⟩, n, c, (bodyAt l 0).drop 19⟩ ∧ n ≤ c ∧ w.heap.size ≤ g)) ∧ Below w.heap.size w w' := by
  have HB : Hid (Below w.heap.size w (w.alloc (.cells #[.int .i64 0, .int .i64 0, .int .i64 0, .int .i64 0, .slice none 0 0] 30))) := (show Hid _ from (Below.refl _ w).alloc (Nat.le_refl _) _)
  have Q := unpack_at (z := 3) (c := 19) ad len cap l 3 19 (w.alloc (.cells #[.int .i64 0, .int .i64 0, .int .i64 0, .int .i64 0, .slice none 0 0] 30)) rfl rfl (hp.later HB.out) hlc hm h (by omega)
  unfold askIn at hin
  have HM0 : Hid (∀ (ad : Option Addr) (c : Nat) (W : World), Calls Tryz.prog 34 #[askV (askK (bodyAt l 0) : Nat) (askG (bodyAt l 0) : Nat) (askW (bodyAt l 0) : Nat) (askB (bodyAt l 0) : Nat) ad ((bodyAt l 0).length - 19) c] W fun x w' => x = .returned (.bool bb) ∧ Below W.heap.size W w') := (show Hid _ from fun ad c W => by rw [← hin]; exact amay_any _ _ _ _ _ _ _ _)
  clear hp h hm hlc hin
  obtain ⟨k0, hk0⟩ : ∃ s, s = askK (bodyAt l 0) := ⟨_, rfl⟩
  have Hk0 : Hid (∀ (g n c : Nat) (W : World), Part.ok W ⟨some ⟨g, 0, none⟩, n, c, bodyAt l 0⟩ → n ≤ c → n ≤ 65536 → 19 ≤ n → Calls Tryz.prog 46 #[.slice (some ⟨g, 0, none⟩) n c, .int .i64 0, .int .i64 1] W fun e w' => e = .returned (.int .i64 (k0 : Int)) ∧ Below W.heap.size W w') := (show Hid _ from fun g n c W h1 h2 h3 h4 => by rw [hk0]; exact numberAt_any (some ⟨g, 0, none⟩) n c (bodyAt l 0) 0 1 W rfl rfl h1 h2 (by omega) (by omega) (by omega) (by omega))
  rw [← hk0]
  rw [← hk0] at HM0
  obtain ⟨g0, hg0⟩ : ∃ s, s = askG (bodyAt l 0) := ⟨_, rfl⟩
  have Hg0 : Hid (∀ (g n c : Nat) (W : World), Part.ok W ⟨some ⟨g, 0, none⟩, n, c, bodyAt l 0⟩ → n ≤ c → n ≤ 65536 → 19 ≤ n → Calls Tryz.prog 46 #[.slice (some ⟨g, 0, none⟩) n c, .int .i64 1, .int .i64 6] W fun e w' => e = .returned (.int .i64 (g0 : Int)) ∧ Below W.heap.size W w') := (show Hid _ from fun g n c W h1 h2 h3 h4 => by rw [hg0]; exact numberAt_any (some ⟨g, 0, none⟩) n c (bodyAt l 0) 1 6 W rfl rfl h1 h2 (by omega) (by omega) (by omega) (by omega))
  rw [← hg0]
  rw [← hg0] at HM0
  obtain ⟨v0, hv0⟩ : ∃ s, s = askW (bodyAt l 0) := ⟨_, rfl⟩
  have Hv0 : Hid (∀ (g n c : Nat) (W : World), Part.ok W ⟨some ⟨g, 0, none⟩, n, c, bodyAt l 0⟩ → n ≤ c → n ≤ 65536 → 19 ≤ n → Calls Tryz.prog 46 #[.slice (some ⟨g, 0, none⟩) n c, .int .i64 7, .int .i64 6] W fun e w' => e = .returned (.int .i64 (v0 : Int)) ∧ Below W.heap.size W w') := (show Hid _ from fun g n c W h1 h2 h3 h4 => by rw [hv0]; exact numberAt_any (some ⟨g, 0, none⟩) n c (bodyAt l 0) 7 6 W rfl rfl h1 h2 (by omega) (by omega) (by omega) (by omega))
  rw [← hv0]
  rw [← hv0] at HM0
  obtain ⟨b0, hb0⟩ : ∃ s, s = askB (bodyAt l 0) := ⟨_, rfl⟩
  have Hb0 : Hid (∀ (g n c : Nat) (W : World), Part.ok W ⟨some ⟨g, 0, none⟩, n, c, bodyAt l 0⟩ → n ≤ c → n ≤ 65536 → 19 ≤ n → Calls Tryz.prog 46 #[.slice (some ⟨g, 0, none⟩) n c, .int .i64 13, .int .i64 6] W fun e w' => e = .returned (.int .i64 (b0 : Int)) ∧ Below W.heap.size W w') := (show Hid _ from fun g n c W h1 h2 h3 h4 => by rw [hb0]; exact numberAt_any (some ⟨g, 0, none⟩) n c (bodyAt l 0) 13 6 W rfl rfl h1 h2 (by omega) (by omega) (by omega) (by omega))
  rw [← hb0]
  rw [← hb0] at HM0
  clear hk0 hg0 hv0 hb0
  go_enter Tryz.func15, Tryz.ntmps15
  go_upto_region 4 with (go_at_call 45; refine Q.mono ?_; rintro x V ⟨g, n, c, rfl, hn, hn4, hn6, hnc, hcm, hg, k1, hb1⟩; have HC : Hid (c ≤ maxLen ∧ w.heap.size < g ∧ n = (bodyAt l 0).length) := (show Hid _ from ⟨hcm, Nat.lt_of_lt_of_le (by simp) hg, hn⟩); have X0 : Hid (Blk V w.heap.size #[.int .i64 0, .int .i64 0, .int .i64 0, .int .i64 0, .slice none 0 0] 30) := (show Hid _ from blk_below (blk_new _ w _) hb1 (by simp)); have P0 : Hid (Part.ok V ⟨some ⟨g, 0, none⟩, n, c, bodyAt l 0⟩) := k1; have B0 : Hid (Below w.heap.size w V) := (show Hid _ from HB.out.trans (hb1.mono HB.out.size)); have Z0 : Hid (w.heap.size < V.heap.size) := (show Hid _ from Nat.lt_of_lt_of_le (by simp) hb1.size); clear hb1 k1 Q hcm hg hn)
  have BD : Hid (Below V.heap.size V V.drew) := (show Hid _ from (Below.refl _ V).drew)
  have BA : Hid (Below V.heap.size V (V.alloc (.cells #[.int .i64 0, .int .i64 0, .int .i64 0, .int .i64 0, .slice none 0 0] 30)).drew) := (show Hid _ from ((Below.refl _ V).alloc (Nat.le_refl _) _).drew)
  have NA : Hid (Blk (V.alloc (.cells #[.int .i64 0, .int .i64 0, .int .i64 0, .int .i64 0, .slice none 0 0] 30)).drew V.heap.size #[.int .i64 0, .int .i64 0, .int .i64 0, .int .i64 0, .slice none 0 0] 30) := (show Hid _ from blk_below (blk_new _ V _) ((Below.refl (V.heap.size + 1) _).drew) (by omega))
  have SA : Hid (V.heap.size < (V.alloc (.cells #[.int .i64 0, .int .i64 0, .int .i64 0, .int .i64 0, .slice none 0 0] 30)).drew.heap.size) := (show Hid _ from Nat.lt_of_lt_of_le (by simp) ((Below.refl (V.heap.size + 1) (V.alloc (.cells #[.int .i64 0, .int .i64 0, .int .i64 0, .int .i64 0, .slice none 0 0] 30))).drew).size)
  go_cut [6] (fun v wx => ∃ G o, v = .pointer (some ⟨G, 0, none⟩) ∧ (19 < n → o = 19) ∧ Hid (MadeA w wx G k0 g0 v0 b0 (some ⟨g, o, none⟩) (n - 19) (c - 19) ((bodyAt l 0).drop 19)))
  case first =>
    by_cases hc4 : c = 19
    · have en4 : n = 19 := by omega
      subst hc4 en4
      go_region_with (first
          | (go_at_call 46; (with_reducible_and_instances (refine (Hk0.out g 19 19 V.drew (P0.out.later BD.out) (by omega) (by omega) (by omega)).mono ?_)); rintro x U1 ⟨rfl, b1⟩; have P1 : Hid (Part.ok U1 ⟨some ⟨g, 0, none⟩, 19, 19, bodyAt l 0⟩) := (show Hid _ from (P0.out.later BD.out).later b1); have A1 : Hid (Below V.heap.size V U1) := (show Hid _ from BD.out.trans (b1.mono BD.out.size)); clear b1)
          | (go_at_call 46; (with_reducible_and_instances (refine (Hk0.out g 19 19 (V.alloc (.cells #[.int .i64 0, .int .i64 0, .int .i64 0, .int .i64 0, .slice none 0 0] 30)).drew (P0.out.later BA.out) (by omega) (by omega) (by omega)).mono ?_)); rintro x U1 ⟨rfl, b1⟩; have P1 : Hid (Part.ok U1 ⟨some ⟨g, 0, none⟩, 19, 19, bodyAt l 0⟩) := (show Hid _ from (P0.out.later BA.out).later b1); have A1 : Hid (Below V.heap.size V U1) := (show Hid _ from BA.out.trans (b1.mono BA.out.size)); have N1 : Hid (Blk U1 V.heap.size #[.int .i64 0, .int .i64 0, .int .i64 0, .int .i64 0, .slice none 0 0] 30) := (show Hid _ from blk_below NA.out b1 SA.out); have M1 : Hid (V.heap.size < U1.heap.size) := (show Hid _ from Nat.lt_of_lt_of_le SA.out b1.size); clear b1)
          | (go_at_call 46; have N1x := N1; clear N1x; (with_reducible_and_instances (refine (Hg0.out g 19 19 U1 P1.out (by omega) (by omega) (by omega)).mono ?_)); rintro x U2 ⟨rfl, b2⟩; have P2 : Hid (Part.ok U2 ⟨some ⟨g, 0, none⟩, 19, 19, bodyAt l 0⟩) := (show Hid _ from P1.out.later b2); have A2 : Hid (Below V.heap.size V U2) := (show Hid _ from A1.out.trans (b2.mono A1.out.size)); have N2 : Hid (Blk U2 _ #[.int .i64 0, .int .i64 0, .int .i64 0, .int .i64 0, .slice none 0 0] 30) := (show Hid _ from blk_below N1.out b2 M1.out); have M2 : Hid (_ < U2.heap.size) := (show Hid _ from Nat.lt_of_lt_of_le M1.out b2.size); clear b2)
          | (go_at_call 46; (with_reducible_and_instances (refine (Hg0.out g 19 19 U1 P1.out (by omega) (by omega) (by omega)).mono ?_)); rintro x U2 ⟨rfl, b2⟩; have P2 : Hid (Part.ok U2 ⟨some ⟨g, 0, none⟩, 19, 19, bodyAt l 0⟩) := (show Hid _ from P1.out.later b2); have A2 : Hid (Below V.heap.size V U2) := (show Hid _ from A1.out.trans (b2.mono A1.out.size)); clear b2)
          | (go_at_call 46; (with_reducible_and_instances (refine (Hg0.out g 19 19 (U1.alloc (.cells #[.int .i64 0, .int .i64 0, .int .i64 0, .int .i64 0, .slice none 0 0] 30)) (P1.out.later ((Below.refl _ U1).alloc (Nat.le_refl _) _)) (by omega) (by omega) (by omega)).mono ?_)); rintro x U2 ⟨rfl, b2⟩; have P2 : Hid (Part.ok U2 ⟨some ⟨g, 0, none⟩, 19, 19, bodyAt l 0⟩) := (show Hid _ from (P1.out.later ((Below.refl _ U1).alloc (Nat.le_refl _) _)).later b2); have A2 : Hid (Below V.heap.size V U2) := (show Hid _ from A1.out.trans ((((Below.refl _ U1).alloc (Nat.le_refl _) _).trans (b2.mono (by simp))).mono A1.out.size)); have N2 : Hid (Blk U2 U1.heap.size #[.int .i64 0, .int .i64 0, .int .i64 0, .int .i64 0, .slice none 0 0] 30) := (show Hid _ from blk_below (blk_new _ U1 _) b2 (by simp)); have M2 : Hid (U1.heap.size < U2.heap.size) := (show Hid _ from Nat.lt_of_lt_of_le (by simp) b2.size); clear b2)
          | (go_at_call 46; have N2x := N2; clear N2x; (with_reducible_and_instances (refine (Hv0.out g 19 19 U2 P2.out (by omega) (by omega) (by omega)).mono ?_)); rintro x U3 ⟨rfl, b3⟩; have P3 : Hid (Part.ok U3 ⟨some ⟨g, 0, none⟩, 19, 19, bodyAt l 0⟩) := (show Hid _ from P2.out.later b3); have A3 : Hid (Below V.heap.size V U3) := (show Hid _ from A2.out.trans (b3.mono A2.out.size)); have N3 : Hid (Blk U3 _ #[.int .i64 0, .int .i64 0, .int .i64 0, .int .i64 0, .slice none 0 0] 30) := (show Hid _ from blk_below N2.out b3 M2.out); have M3 : Hid (_ < U3.heap.size) := (show Hid _ from Nat.lt_of_lt_of_le M2.out b3.size); clear b3)
          | (go_at_call 46; (with_reducible_and_instances (refine (Hv0.out g 19 19 U2 P2.out (by omega) (by omega) (by omega)).mono ?_)); rintro x U3 ⟨rfl, b3⟩; have P3 : Hid (Part.ok U3 ⟨some ⟨g, 0, none⟩, 19, 19, bodyAt l 0⟩) := (show Hid _ from P2.out.later b3); have A3 : Hid (Below V.heap.size V U3) := (show Hid _ from A2.out.trans (b3.mono A2.out.size)); clear b3)
          | (go_at_call 46; (with_reducible_and_instances (refine (Hv0.out g 19 19 (U2.alloc (.cells #[.int .i64 0, .int .i64 0, .int .i64 0, .int .i64 0, .slice none 0 0] 30)) (P2.out.later ((Below.refl _ U2).alloc (Nat.le_refl _) _)) (by omega) (by omega) (by omega)).mono ?_)); rintro x U3 ⟨rfl, b3⟩; have P3 : Hid (Part.ok U3 ⟨some ⟨g, 0, none⟩, 19, 19, bodyAt l 0⟩) := (show Hid _ from (P2.out.later ((Below.refl _ U2).alloc (Nat.le_refl _) _)).later b3); have A3 : Hid (Below V.heap.size V U3) := (show Hid _ from A2.out.trans ((((Below.refl _ U2).alloc (Nat.le_refl _) _).trans (b3.mono (by simp))).mono A2.out.size)); have N3 : Hid (Blk U3 U2.heap.size #[.int .i64 0, .int .i64 0, .int .i64 0, .int .i64 0, .slice none 0 0] 30) := (show Hid _ from blk_below (blk_new _ U2 _) b3 (by simp)); have M3 : Hid (U2.heap.size < U3.heap.size) := (show Hid _ from Nat.lt_of_lt_of_le (by simp) b3.size); clear b3)
          | (go_at_call 46; have N3x := N3; clear N3x; (with_reducible_and_instances (refine (Hb0.out g 19 19 U3 P3.out (by omega) (by omega) (by omega)).mono ?_)); rintro x U4 ⟨rfl, b4⟩; have P4 : Hid (Part.ok U4 ⟨some ⟨g, 0, none⟩, 19, 19, bodyAt l 0⟩) := (show Hid _ from P3.out.later b4); have A4 : Hid (Below V.heap.size V U4) := (show Hid _ from A3.out.trans (b4.mono A3.out.size)); have N4 : Hid (Blk U4 _ #[.int .i64 0, .int .i64 0, .int .i64 0, .int .i64 0, .slice none 0 0] 30) := (show Hid _ from blk_below N3.out b4 M3.out); have M4 : Hid (_ < U4.heap.size) := (show Hid _ from Nat.lt_of_lt_of_le M3.out b4.size); obtain ⟨⟨c0, c1, c2, c3, c4⟩, f0, f1, f2, f3, f4⟩ := blk5 N4.out; clear b4)
          | (go_at_call 46; (with_reducible_and_instances (refine (Hb0.out g 19 19 U3 P3.out (by omega) (by omega) (by omega)).mono ?_)); rintro x U4 ⟨rfl, b4⟩; have P4 : Hid (Part.ok U4 ⟨some ⟨g, 0, none⟩, 19, 19, bodyAt l 0⟩) := (show Hid _ from P3.out.later b4); have A4 : Hid (Below V.heap.size V U4) := (show Hid _ from A3.out.trans (b4.mono A3.out.size)); clear b4)
          | (go_at_call 46; (with_reducible_and_instances (refine (Hb0.out g 19 19 (U3.alloc (.cells #[.int .i64 0, .int .i64 0, .int .i64 0, .int .i64 0, .slice none 0 0] 30)) (P3.out.later ((Below.refl _ U3).alloc (Nat.le_refl _) _)) (by omega) (by omega) (by omega)).mono ?_)); rintro x U4 ⟨rfl, b4⟩; have P4 : Hid (Part.ok U4 ⟨some ⟨g, 0, none⟩, 19, 19, bodyAt l 0⟩) := (show Hid _ from (P3.out.later ((Below.refl _ U3).alloc (Nat.le_refl _) _)).later b4); have A4 : Hid (Below V.heap.size V U4) := (show Hid _ from A3.out.trans ((((Below.refl _ U3).alloc (Nat.le_refl _) _).trans (b4.mono (by simp))).mono A3.out.size)); have N4 : Hid (Blk U4 U3.heap.size #[.int .i64 0, .int .i64 0, .int .i64 0, .int .i64 0, .slice none 0 0] 30) := (show Hid _ from blk_below (blk_new _ U3 _) b4 (by simp)); have M4 : Hid (U3.heap.size < U4.heap.size) := (show Hid _ from Nat.lt_of_lt_of_le (by simp) b4.size); obtain ⟨⟨c0, c1, c2, c3, c4⟩, f0, f1, f2, f3, f4⟩ := blk5 N4.out; clear b4))
      · go_wp2_with fail
        go_meet
        exact ⟨U4.heap.size, 0, rfl, (fun hh => absurd hh (by omega)), (show Hid _ from madeA_of X0.out Z0.out B0.out P0.out (by omega) (fun hh => absurd hh (by omega)) (A4.out.alloc A4.out.size _) A4.out.size (blk_new _ _ _))⟩
      · go_wp2_with fail
        go_meet
        exact ⟨U3.heap.size, 0, rfl, (fun hh => absurd hh (by omega)), (show Hid _ from madeA_of X0.out Z0.out B0.out P0.out (by omega) (fun hh => absurd hh (by omega)) (set5_below A4.out A3.out.size _ _ _ _ _) A3.out.size (blk_set5 N4.out _ _ _ _ _))⟩
      · go_wp2_with fail
        go_meet
        exact ⟨U2.heap.size, 0, rfl, (fun hh => absurd hh (by omega)), (show Hid _ from madeA_of X0.out Z0.out B0.out P0.out (by omega) (fun hh => absurd hh (by omega)) (set5_below A4.out A2.out.size _ _ _ _ _) A2.out.size (blk_set5 N4.out _ _ _ _ _))⟩
      · go_wp2_with fail
        go_meet
        exact ⟨U1.heap.size, 0, rfl, (fun hh => absurd hh (by omega)), (show Hid _ from madeA_of X0.out Z0.out B0.out P0.out (by omega) (fun hh => absurd hh (by omega)) (set5_below A4.out A1.out.size _ _ _ _ _) A1.out.size (blk_set5 N4.out _ _ _ _ _))⟩
      · go_wp2_with fail
        go_meet
        exact ⟨V.heap.size, 0, rfl, (fun hh => absurd hh (by omega)), (show Hid _ from madeA_of X0.out Z0.out B0.out P0.out (by omega) (fun hh => absurd hh (by omega)) (set5_below A4.out (Nat.le_refl _) _ _ _ _ _) (Nat.le_refl _) (blk_set5 N4.out _ _ _ _ _))⟩
    · have i1 : (19 : Int) ≤ (n : Int) := by omega
      have i2 : (n : Int) ≤ (c : Int) := by omega
      have i3 : (19 : Int) ≤ (c : Int) := by omega
      have i4 : (c == 19) = false := by simpa using hc4
      have i5 : ((c : Int) == 19) = false := by simp; omega
      go_region_with (first
          | (go_at_call 46; (with_reducible_and_instances (refine (Hk0.out g n c V.drew (P0.out.later BD.out) hnc hn6 hn4).mono ?_)); rintro x U1 ⟨rfl, b1⟩; have P1 : Hid (Part.ok U1 ⟨some ⟨g, 0, none⟩, n, c, bodyAt l 0⟩) := (show Hid _ from (P0.out.later BD.out).later b1); have A1 : Hid (Below V.heap.size V U1) := (show Hid _ from BD.out.trans (b1.mono BD.out.size)); clear b1)
          | (go_at_call 46; (with_reducible_and_instances (refine (Hk0.out g n c (V.alloc (.cells #[.int .i64 0, .int .i64 0, .int .i64 0, .int .i64 0, .slice none 0 0] 30)).drew (P0.out.later BA.out) hnc hn6 hn4).mono ?_)); rintro x U1 ⟨rfl, b1⟩; have P1 : Hid (Part.ok U1 ⟨some ⟨g, 0, none⟩, n, c, bodyAt l 0⟩) := (show Hid _ from (P0.out.later BA.out).later b1); have A1 : Hid (Below V.heap.size V U1) := (show Hid _ from BA.out.trans (b1.mono BA.out.size)); have N1 : Hid (Blk U1 V.heap.size #[.int .i64 0, .int .i64 0, .int .i64 0, .int .i64 0, .slice none 0 0] 30) := (show Hid _ from blk_below NA.out b1 SA.out); have M1 : Hid (V.heap.size < U1.heap.size) := (show Hid _ from Nat.lt_of_lt_of_le SA.out b1.size); clear b1)
          | (go_at_call 46; have N1x := N1; clear N1x; (with_reducible_and_instances (refine (Hg0.out g n c U1 P1.out hnc hn6 hn4).mono ?_)); rintro x U2 ⟨rfl, b2⟩; have P2 : Hid (Part.ok U2 ⟨some ⟨g, 0, none⟩, n, c, bodyAt l 0⟩) := (show Hid _ from P1.out.later b2); have A2 : Hid (Below V.heap.size V U2) := (show Hid _ from A1.out.trans (b2.mono A1.out.size)); have N2 : Hid (Blk U2 _ #[.int .i64 0, .int .i64 0, .int .i64 0, .int .i64 0, .slice none 0 0] 30) := (show Hid _ from blk_below N1.out b2 M1.out); have M2 : Hid (_ < U2.heap.size) := (show Hid _ from Nat.lt_of_lt_of_le M1.out b2.size); clear b2)
          | (go_at_call 46; (with_reducible_and_instances (refine (Hg0.out g n c U1 P1.out hnc hn6 hn4).mono ?_)); rintro x U2 ⟨rfl, b2⟩; have P2 : Hid (Part.ok U2 ⟨some ⟨g, 0, none⟩, n, c, bodyAt l 0⟩) := (show Hid _ from P1.out.later b2); have A2 : Hid (Below V.heap.size V U2) := (show Hid _ from A1.out.trans (b2.mono A1.out.size)); clear b2)
          | (go_at_call 46; (with_reducible_and_instances (refine (Hg0.out g n c (U1.alloc (.cells #[.int .i64 0, .int .i64 0, .int .i64 0, .int .i64 0, .slice none 0 0] 30)) (P1.out.later ((Below.refl _ U1).alloc (Nat.le_refl _) _)) hnc hn6 hn4).mono ?_)); rintro x U2 ⟨rfl, b2⟩; have P2 : Hid (Part.ok U2 ⟨some ⟨g, 0, none⟩, n, c, bodyAt l 0⟩) := (show Hid _ from (P1.out.later ((Below.refl _ U1).alloc (Nat.le_refl _) _)).later b2); have A2 : Hid (Below V.heap.size V U2) := (show Hid _ from A1.out.trans ((((Below.refl _ U1).alloc (Nat.le_refl _) _).trans (b2.mono (by simp))).mono A1.out.size)); have N2 : Hid (Blk U2 U1.heap.size #[.int .i64 0, .int .i64 0, .int .i64 0, .int .i64 0, .slice none 0 0] 30) := (show Hid _ from blk_below (blk_new _ U1 _) b2 (by simp)); have M2 : Hid (U1.heap.size < U2.heap.size) := (show Hid _ from Nat.lt_of_lt_of_le (by simp) b2.size); clear b2)
          | (go_at_call 46; have N2x := N2; clear N2x; (with_reducible_and_instances (refine (Hv0.out g n c U2 P2.out hnc hn6 hn4).mono ?_)); rintro x U3 ⟨rfl, b3⟩; have P3 : Hid (Part.ok U3 ⟨some ⟨g, 0, none⟩, n, c, bodyAt l 0⟩) := (show Hid _ from P2.out.later b3); have A3 : Hid (Below V.heap.size V U3) := (show Hid _ from A2.out.trans (b3.mono A2.out.size)); have N3 : Hid (Blk U3 _ #[.int .i64 0, .int .i64 0, .int .i64 0, .int .i64 0, .slice none 0 0] 30) := (show Hid _ from blk_below N2.out b3 M2.out); have M3 : Hid (_ < U3.heap.size) := (show Hid _ from Nat.lt_of_lt_of_le M2.out b3.size); clear b3)
          | (go_at_call 46; (with_reducible_and_instances (refine (Hv0.out g n c U2 P2.out hnc hn6 hn4).mono ?_)); rintro x U3 ⟨rfl, b3⟩; have P3 : Hid (Part.ok U3 ⟨some ⟨g, 0, none⟩, n, c, bodyAt l 0⟩) := (show Hid _ from P2.out.later b3); have A3 : Hid (Below V.heap.size V U3) := (show Hid _ from A2.out.trans (b3.mono A2.out.size)); clear b3)
          | (go_at_call 46; (with_reducible_and_instances (refine (Hv0.out g n c (U2.alloc (.cells #[.int .i64 0, .int .i64 0, .int .i64 0, .int .i64 0, .slice none 0 0] 30)) (P2.out.later ((Below.refl _ U2).alloc (Nat.le_refl _) _)) hnc hn6 hn4).mono ?_)); rintro x U3 ⟨rfl, b3⟩; have P3 : Hid (Part.ok U3 ⟨some ⟨g, 0, none⟩, n, c, bodyAt l 0⟩) := (show Hid _ from (P2.out.later ((Below.refl _ U2).alloc (Nat.le_refl _) _)).later b3); have A3 : Hid (Below V.heap.size V U3) := (show Hid _ from A2.out.trans ((((Below.refl _ U2).alloc (Nat.le_refl _) _).trans (b3.mono (by simp))).mono A2.out.size)); have N3 : Hid (Blk U3 U2.heap.size #[.int .i64 0, .int .i64 0, .int .i64 0, .int .i64 0, .slice none 0 0] 30) := (show Hid _ from blk_below (blk_new _ U2 _) b3 (by simp)); have M3 : Hid (U2.heap.size < U3.heap.size) := (show Hid _ from Nat.lt_of_lt_of_le (by simp) b3.size); clear b3)
          | (go_at_call 46; have N3x := N3; clear N3x; (with_reducible_and_instances (refine (Hb0.out g n c U3 P3.out hnc hn6 hn4).mono ?_)); rintro x U4 ⟨rfl, b4⟩; have P4 : Hid (Part.ok U4 ⟨some ⟨g, 0, none⟩, n, c, bodyAt l 0⟩) := (show Hid _ from P3.out.later b4); have A4 : Hid (Below V.heap.size V U4) := (show Hid _ from A3.out.trans (b4.mono A3.out.size)); have N4 : Hid (Blk U4 _ #[.int .i64 0, .int .i64 0, .int .i64 0, .int .i64 0, .slice none 0 0] 30) := (show Hid _ from blk_below N3.out b4 M3.out); have M4 : Hid (_ < U4.heap.size) := (show Hid _ from Nat.lt_of_lt_of_le M3.out b4.size); obtain ⟨⟨c0, c1, c2, c3, c4⟩, f0, f1, f2, f3, f4⟩ := blk5 N4.out; clear b4)
          | (go_at_call 46; (with_reducible_and_instances (refine (Hb0.out g n c U3 P3.out hnc hn6 hn4).mono ?_)); rintro x U4 ⟨rfl, b4⟩; have P4 : Hid (Part.ok U4 ⟨some ⟨g, 0, none⟩, n, c, bodyAt l 0⟩) := (show Hid _ from P3.out.later b4); have A4 : Hid (Below V.heap.size V U4) := (show Hid _ from A3.out.trans (b4.mono A3.out.size)); clear b4)
          | (go_at_call 46; (with_reducible_and_instances (refine (Hb0.out g n c (U3.alloc (.cells #[.int .i64 0, .int .i64 0, .int .i64 0, .int .i64 0, .slice none 0 0] 30)) (P3.out.later ((Below.refl _ U3).alloc (Nat.le_refl _) _)) hnc hn6 hn4).mono ?_)); rintro x U4 ⟨rfl, b4⟩; have P4 : Hid (Part.ok U4 ⟨some ⟨g, 0, none⟩, n, c, bodyAt l 0⟩) := (show Hid _ from (P3.out.later ((Below.refl _ U3).alloc (Nat.le_refl _) _)).later b4); have A4 : Hid (Below V.heap.size V U4) := (show Hid _ from A3.out.trans ((((Below.refl _ U3).alloc (Nat.le_refl _) _).trans (b4.mono (by simp))).mono A3.out.size)); have N4 : Hid (Blk U4 U3.heap.size #[.int .i64 0, .int .i64 0, .int .i64 0, .int .i64 0, .slice none 0 0] 30) := (show Hid _ from blk_below (blk_new _ U3 _) b4 (by simp)); have M4 : Hid (U3.heap.size < U4.heap.size) := (show Hid _ from Nat.lt_of_lt_of_le (by simp) b4.size); obtain ⟨⟨c0, c1, c2, c3, c4⟩, f0, f1, f2, f3, f4⟩ := blk5 N4.out; clear b4))
      · go_wp2_with fail
        go_meet
        exact ⟨U4.heap.size, 19, rfl, (fun _ => rfl), (show Hid _ from madeA_of X0.out Z0.out B0.out P0.out (by omega) (fun _ => rfl) (A4.out.alloc A4.out.size _) A4.out.size (blk_new _ _ _))⟩
      · go_wp2_with fail
        go_meet
        exact ⟨U3.heap.size, 19, rfl, (fun _ => rfl), (show Hid _ from madeA_of X0.out Z0.out B0.out P0.out (by omega) (fun _ => rfl) (set5_below A4.out A3.out.size _ _ _ _ _) A3.out.size (blk_set5 N4.out _ _ _ _ _))⟩
      · go_wp2_with fail
        go_meet
        exact ⟨U2.heap.size, 19, rfl, (fun _ => rfl), (show Hid _ from madeA_of X0.out Z0.out B0.out P0.out (by omega) (fun _ => rfl) (set5_below A4.out A2.out.size _ _ _ _ _) A2.out.size (blk_set5 N4.out _ _ _ _ _))⟩
      · go_wp2_with fail
        go_meet
        exact ⟨U1.heap.size, 19, rfl, (fun _ => rfl), (show Hid _ from madeA_of X0.out Z0.out B0.out P0.out (by omega) (fun _ => rfl) (set5_below A4.out A1.out.size _ _ _ _ _) A1.out.size (blk_set5 N4.out _ _ _ _ _))⟩
      · go_wp2_with fail
        go_meet
        exact ⟨V.heap.size, 19, rfl, (fun _ => rfl), (show Hid _ from madeA_of X0.out Z0.out B0.out P0.out (by omega) (fun _ => rfl) (set5_below A4.out (Nat.le_refl _) _ _ _ _ _) (Nat.le_refl _) (blk_set5 N4.out _ _ _ _ _))⟩
  case rest =>
    obtain ⟨G, o, rfl, ho, M⟩ := hcut
    clear X0 P0 B0 Z0 BD BA NA SA
    obtain ⟨⟨q0, q1, q2, q3, q4⟩, -⟩ := blk5 M.out.new
    have HM := HM0.out (some ⟨g, o, none⟩) (c - 19) wc
    rw [← HC.out.2.2] at HM
    unfold askV at HM
    cases bb with
    | false =>
      go_wp2_with (go_at_call 34; refine HM.mono ?_; rintro x W5 ⟨rfl, b5⟩; have A5 : Hid (Blk W5 w.heap.size #[.int .i64 0, .int .i64 0, .int .i64 0, .int .i64 0, .slice none 0 0] 30) := (show Hid _ from blk_below M.out.ans b5 M.out.sz); obtain ⟨⟨c0, c1, c2, c3, c4⟩, f0, f1, f2, f3, f4⟩ := blk5 A5.out; have D5 : Hid (Below w.heap.size w W5) := (show Hid _ from M.out.below.trans (b5.mono M.out.below.size)); clear b5 HM)
      refine bodyPost_ret (ret_ask Tryz.results15 _ _ w.heap.size 0 0 0 0 none 0 0 rfl (blk_set5 A5.out _ _ _ _ _)) rfl ⟨rfl, ?_⟩
      exact set5_below D5.out (Nat.le_refl _) _ _ _ _ _
    | true =>
      go_wp2_with (go_at_call 34; refine HM.mono ?_; rintro x W5 ⟨rfl, b5⟩; have A5 : Hid (Blk W5 w.heap.size #[.int .i64 0, .int .i64 0, .int .i64 0, .int .i64 0, .slice none 0 0] 30) := (show Hid _ from blk_below M.out.ans b5 M.out.sz); obtain ⟨⟨c0, c1, c2, c3, c4⟩, f0, f1, f2, f3, f4⟩ := blk5 A5.out; have D5 : Hid (Below w.heap.size w W5) := (show Hid _ from M.out.below.trans (b5.mono M.out.below.size)); have E5 : Hid (Blk W5 G #[.int .i64 (k0 : Int), .int .i64 (g0 : Int), .int .i64 (v0 : Int), .int .i64 (b0 : Int), .slice (some ⟨g, o, none⟩) (n - 19) (c - 19)] 30) := (show Hid _ from blk_below M.out.new b5 M.out.new.lt); obtain ⟨⟨r0, r1, r2, r3, r4⟩, -⟩ := blk5 E5.out; have P5 : Hid (Part.ok W5 ⟨some ⟨g, o, none⟩, n - 19, c - 19, (bodyAt l 0).drop 19⟩) := (show Hid _ from M.out.part.later b5); clear b5 HM)
      refine bodyPost_ret (ret_ask Tryz.results15 _ _ w.heap.size _ _ _ _ _ _ _ rfl (blk_set5 A5.out _ _ _ _ _)) rfl ⟨⟨g, o, n - 19, c - 19, rfl, part_set5 P5.out HC.out.2.1, by omega, Nat.le_of_lt HC.out.2.1⟩, ?_⟩
      exact set5_below D5.out (Nat.le_refl _) _ _ _ _ _
end Go.Proofs.YtmiibakbcogolaaGreat.Ac
