/- GetRequest of package node, of a frame. -/
import Derived.Test.YtjldflfoncfndaaGreatPNode
import Derived.Deep.DeepCutAuto
import Derived.Deep.RegionWith
namespace Go.Proofs.YtjldflfoncfndaaGreat
open Go.RowKit Crcm

/-- What a request's body tells. -/
def reqK (b : List Nat) : Nat := valN (b.take 1)
def reqL (b : List Nat) : Nat := valN (b.tail.take 6)
def reqP (b : List Nat) : Nat := valN ((b.drop 7).take 2)
structure MadeQ (w wx : World) (G : Nat) (k m p : Nat) (ad : Option Addr) (len cap : Nat) (b : List Nat) : Prop where
  ans : Box4 27 wx w.heap.size (.int .i64 0) (.int .i64 0) (.int .i64 0) (.slice none 0 0)
  new : Box4 27 wx G (.int .i64 k) (.int .i64 m) (.int .i64 p) (.slice ad len cap)
  ne : w.heap.size < G
  sz : w.heap.size < wx.heap.size
  part : Part.ok wx ⟨ad, len, cap, b⟩
  below : Below w.heap.size w wx
theorem madeQ_of {w W wx : World} {G k m p n c g o : Nat} {b : List Nat} (X : Box4 27 W w.heap.size (.int .i64 0) (.int .i64 0) (.int .i64 0) (.slice none 0 0)) (Z : w.heap.size < W.heap.size) (B0 : Below w.heap.size w W) (K : Part.ok W ⟨some ⟨g, 0, none⟩, n, c, b⟩) (hk : 9 ≤ n) (ho : 9 < n → o = 9) (B : Below W.heap.size W wx) (hG : W.heap.size ≤ G)
    (N : Box4 27 wx G (.int .i64 k) (.int .i64 m) (.int .i64 p) (.slice (some ⟨g, o, none⟩) (n - 9) (c - 9))) : MadeQ w wx G k m p (some ⟨g, o, none⟩) (n - 9) (c - 9) (b.drop 9) :=
  ⟨X.below B Z, N, by omega, Nat.lt_of_lt_of_le Z B.size, (part_rest 9 K hk o ho).later B, B0.trans (B.mono B0.size)⟩
set_option maxRecDepth 100000 in
set_option maxHeartbeats 8000000 in
theorem getRequest_frame (ad : Option Addr) (len cap : Nat) (l : List Nat) (w : World) (bb : Bool) (hp : Part.ok w ⟨ad, len, cap, l⟩) (hlc : len ≤ cap) (hm : len ≤ 1000000000000000) (h : unpackN l 1 9 = true)
    (hmay : ∀ (ad : Option Addr) (c : Nat) (W : World), Calls Tryz.prog 34 #[reqV (reqK (bodyAt l 0) : Nat) (reqL (bodyAt l 0) : Nat) (reqP (bodyAt l 0) : Nat) ad ((bodyAt l 0).length - 9) c] W fun x w' => x = .returned (.bool bb) ∧ Below W.heap.size W w') :
    Calls Tryz.prog 15 #[.slice ad len cap] w fun e w' => ((bb = false ∧ e = .returned (.tuple #[reqV 0 0 0 none 0 0, .int .i64 22])) ∨ (bb = true ∧ ∃ g o n c : Nat, e = .returned (.tuple #[reqV (reqK (bodyAt l 0) : Nat) (reqL (bodyAt l 0) : Nat) (reqP (bodyAt l 0) : Nat) (some ⟨g, o, none⟩) n c, .int .i64 0]) ∧ Part.ok w' ⟨some ⟨g, o, none⟩, n, c, (bodyAt l 0).drop 9⟩ ∧ n ≤ c ∧ w.heap.size ≤ g)) ∧ Below w.heap.size w w' := by
  have HB : Hid (Below w.heap.size w (w.alloc (.cells #[.int .i64 0, .int .i64 0, .int .i64 0, .slice none 0 0] 27))) := (show Hid _ from (Below.refl _ w).alloc (Nat.le_refl _) _)
  have Q := unpack_at (z := 1) (c := 9) ad len cap l 1 9 (w.alloc (.cells #[.int .i64 0, .int .i64 0, .int .i64 0, .slice none 0 0] 27)) rfl rfl (hp.later HB.out) hlc hm h (by omega)
  have HMAY : Hid (∀ (ad : Option Addr) (c : Nat) (W : World), Calls Tryz.prog 34 #[reqV (reqK (bodyAt l 0) : Nat) (reqL (bodyAt l 0) : Nat) (reqP (bodyAt l 0) : Nat) ad ((bodyAt l 0).length - 9) c] W fun x w' => x = .returned (.bool bb) ∧ Below W.heap.size W w') := hmay
  clear hp h hm hlc hmay
  go_enter Tryz.func15, Tryz.ntmps15
  go_upto_region 4 with (go_at_call 43; refine Q.mono ?_; rintro x V ⟨g, n, c, rfl, hn, hn4, hn6, hnc, hcm, hg, k1, hb1⟩; have HC : Hid (c ≤ maxLen ∧ w.heap.size < g ∧ n = (bodyAt l 0).length) := (show Hid _ from ⟨hcm, Nat.lt_of_lt_of_le (by simp) hg, hn⟩); have X0 : Hid (Box4 27 V w.heap.size _ _ _ _) := (show Hid _ from (Box4.new _ w _ _ _ _).below hb1 (by simp)); have K0 : Hid (Part.ok V ⟨some ⟨g, 0, none⟩, n, c, bodyAt l 0⟩) := k1; have B0 : Hid (Below w.heap.size w V) := (show Hid _ from HB.out.trans (hb1.mono HB.out.size)); have Z0 : Hid (w.heap.size < V.heap.size) := (show Hid _ from Nat.lt_of_lt_of_le (by simp) hb1.size); clear hb1 k1 Q hcm hg hn)
  have BD : Hid (Below V.heap.size V V.drew) := (show Hid _ from (Below.refl _ V).drew)
  have BA : Hid (Below V.heap.size V (V.alloc (.cells #[.int .i64 0, .int .i64 0, .int .i64 0, .slice none 0 0] 27)).drew) := (show Hid _ from ((Below.refl _ V).alloc (Nat.le_refl _) _).drew)
  have NA : Hid (Box4 27 (V.alloc (.cells #[.int .i64 0, .int .i64 0, .int .i64 0, .slice none 0 0] 27)).drew V.heap.size _ _ _ _) := (show Hid _ from (Box4.new _ V _ _ _ _).below ((Below.refl (V.heap.size + 1) _).drew) (by omega))
  have SA : Hid (V.heap.size < (V.alloc (.cells #[.int .i64 0, .int .i64 0, .int .i64 0, .slice none 0 0] 27)).drew.heap.size) := (show Hid _ from Nat.lt_of_lt_of_le (by simp) ((Below.refl (V.heap.size + 1) (V.alloc (.cells #[.int .i64 0, .int .i64 0, .int .i64 0, .slice none 0 0] 27))).drew).size)
  go_cut [6] (fun v wx => ∃ G o, v = .pointer (some ⟨G, 0, none⟩) ∧ (9 < n → o = 9) ∧ Hid (MadeQ w wx G (reqK (bodyAt l 0)) (reqL (bodyAt l 0)) (reqP (bodyAt l 0)) (some ⟨g, o, none⟩) (n - 9) (c - 9) ((bodyAt l 0).drop 9)))
  case first =>
    by_cases hc4 : c = 9
    · have en4 : n = 9 := by omega
      subst hc4 en4
      go_region_with (first
          | (go_at_call 44; (with_reducible_and_instances (refine (numberAt_any (some ⟨g, 0, none⟩) 9 9 (bodyAt l 0) 0 1 V.drew rfl rfl (K0.out.later BD.out) (by omega) (by omega) (by omega) (by omega) (by omega)).mono ?_)); rintro x U1 ⟨rfl, b1⟩; have K1 : Hid (Part.ok U1 ⟨some ⟨g, 0, none⟩, 9, 9, bodyAt l 0⟩) := (show Hid _ from (K0.out.later BD.out).later b1); have B1 : Hid (Below V.heap.size V U1) := (show Hid _ from BD.out.trans (b1.mono BD.out.size)); clear b1)
          | (go_at_call 44; (with_reducible_and_instances (refine (numberAt_any (some ⟨g, 0, none⟩) 9 9 (bodyAt l 0) 0 1 (V.alloc (.cells #[.int .i64 0, .int .i64 0, .int .i64 0, .slice none 0 0] 27)).drew rfl rfl (K0.out.later BA.out) (by omega) (by omega) (by omega) (by omega) (by omega)).mono ?_)); rintro x U1 ⟨rfl, b1⟩; have K1 : Hid (Part.ok U1 ⟨some ⟨g, 0, none⟩, 9, 9, bodyAt l 0⟩) := (show Hid _ from (K0.out.later BA.out).later b1); have B1 : Hid (Below V.heap.size V U1) := (show Hid _ from BA.out.trans (b1.mono BA.out.size)); have N1 : Hid (Box4 27 U1 V.heap.size _ _ _ _) := (show Hid _ from NA.out.below b1 SA.out); have M1 : Hid (V.heap.size < U1.heap.size) := (show Hid _ from Nat.lt_of_lt_of_le SA.out b1.size); clear b1)
          | (go_at_call 44; have N1x := N1; clear N1x; (with_reducible_and_instances (refine (numberAt_any (some ⟨g, 0, none⟩) 9 9 (bodyAt l 0) 1 6 U1 rfl rfl K1.out (by omega) (by omega) (by omega) (by omega) (by omega)).mono ?_)); rintro x U2 ⟨rfl, b2⟩; have K2 : Hid (Part.ok U2 ⟨some ⟨g, 0, none⟩, 9, 9, bodyAt l 0⟩) := (show Hid _ from K1.out.later b2); have B2 : Hid (Below V.heap.size V U2) := (show Hid _ from B1.out.trans (b2.mono B1.out.size)); have N2 : Hid (Box4 27 U2 _ _ _ _ _) := (show Hid _ from N1.out.below b2 M1.out); have M2 : Hid (_ < U2.heap.size) := (show Hid _ from Nat.lt_of_lt_of_le M1.out b2.size); clear b2)
          | (go_at_call 44; (with_reducible_and_instances (refine (numberAt_any (some ⟨g, 0, none⟩) 9 9 (bodyAt l 0) 1 6 U1 rfl rfl K1.out (by omega) (by omega) (by omega) (by omega) (by omega)).mono ?_)); rintro x U2 ⟨rfl, b2⟩; have K2 : Hid (Part.ok U2 ⟨some ⟨g, 0, none⟩, 9, 9, bodyAt l 0⟩) := (show Hid _ from K1.out.later b2); have B2 : Hid (Below V.heap.size V U2) := (show Hid _ from B1.out.trans (b2.mono B1.out.size)); clear b2)
          | (go_at_call 44; (with_reducible_and_instances (refine (numberAt_any (some ⟨g, 0, none⟩) 9 9 (bodyAt l 0) 1 6 (U1.alloc (.cells #[.int .i64 0, .int .i64 0, .int .i64 0, .slice none 0 0] 27)) rfl rfl (K1.out.later ((Below.refl _ U1).alloc (Nat.le_refl _) _)) (by omega) (by omega) (by omega) (by omega) (by omega)).mono ?_)); rintro x U2 ⟨rfl, b2⟩; have K2 : Hid (Part.ok U2 ⟨some ⟨g, 0, none⟩, 9, 9, bodyAt l 0⟩) := (show Hid _ from (K1.out.later ((Below.refl _ U1).alloc (Nat.le_refl _) _)).later b2); have B2 : Hid (Below V.heap.size V U2) := (show Hid _ from B1.out.trans ((((Below.refl _ U1).alloc (Nat.le_refl _) _).trans (b2.mono (by simp))).mono B1.out.size)); have N2 : Hid (Box4 27 U2 U1.heap.size _ _ _ _) := (show Hid _ from (Box4.new _ U1 _ _ _ _).below b2 (by simp)); have M2 : Hid (U1.heap.size < U2.heap.size) := (show Hid _ from Nat.lt_of_lt_of_le (by simp) b2.size); clear b2)
          | (go_at_call 44; have N2x := N2; clear N2x; (with_reducible_and_instances (refine (numberAt_any (some ⟨g, 0, none⟩) 9 9 (bodyAt l 0) 7 2 U2 rfl rfl K2.out (by omega) (by omega) (by omega) (by omega) (by omega)).mono ?_)); rintro x U3 ⟨rfl, b3⟩; have K3 : Hid (Part.ok U3 ⟨some ⟨g, 0, none⟩, 9, 9, bodyAt l 0⟩) := (show Hid _ from K2.out.later b3); have B3 : Hid (Below V.heap.size V U3) := (show Hid _ from B2.out.trans (b3.mono B2.out.size)); have N3 : Hid (Box4 27 U3 _ _ _ _ _) := (show Hid _ from N2.out.below b3 M2.out); have M3 : Hid (_ < U3.heap.size) := (show Hid _ from Nat.lt_of_lt_of_le M2.out b3.size); obtain ⟨c0, c1, c2, c3⟩ := N3.out.cs; have f0 := N3.out.free 0; have f1 := N3.out.free 1; have f2 := N3.out.free 2; have f3 := N3.out.free 3; clear b3)
          | (go_at_call 44; (with_reducible_and_instances (refine (numberAt_any (some ⟨g, 0, none⟩) 9 9 (bodyAt l 0) 7 2 U2 rfl rfl K2.out (by omega) (by omega) (by omega) (by omega) (by omega)).mono ?_)); rintro x U3 ⟨rfl, b3⟩; have K3 : Hid (Part.ok U3 ⟨some ⟨g, 0, none⟩, 9, 9, bodyAt l 0⟩) := (show Hid _ from K2.out.later b3); have B3 : Hid (Below V.heap.size V U3) := (show Hid _ from B2.out.trans (b3.mono B2.out.size)); clear b3)
          | (go_at_call 44; (with_reducible_and_instances (refine (numberAt_any (some ⟨g, 0, none⟩) 9 9 (bodyAt l 0) 7 2 (U2.alloc (.cells #[.int .i64 0, .int .i64 0, .int .i64 0, .slice none 0 0] 27)) rfl rfl (K2.out.later ((Below.refl _ U2).alloc (Nat.le_refl _) _)) (by omega) (by omega) (by omega) (by omega) (by omega)).mono ?_)); rintro x U3 ⟨rfl, b3⟩; have K3 : Hid (Part.ok U3 ⟨some ⟨g, 0, none⟩, 9, 9, bodyAt l 0⟩) := (show Hid _ from (K2.out.later ((Below.refl _ U2).alloc (Nat.le_refl _) _)).later b3); have B3 : Hid (Below V.heap.size V U3) := (show Hid _ from B2.out.trans ((((Below.refl _ U2).alloc (Nat.le_refl _) _).trans (b3.mono (by simp))).mono B2.out.size)); have N3 : Hid (Box4 27 U3 U2.heap.size _ _ _ _) := (show Hid _ from (Box4.new _ U2 _ _ _ _).below b3 (by simp)); have M3 : Hid (U2.heap.size < U3.heap.size) := (show Hid _ from Nat.lt_of_lt_of_le (by simp) b3.size); obtain ⟨c0, c1, c2, c3⟩ := N3.out.cs; have f0 := N3.out.free 0; have f1 := N3.out.free 1; have f2 := N3.out.free 2; have f3 := N3.out.free 3; clear b3))
      · go_wp2_with fail
        go_meet
        exact ⟨U3.heap.size, 0, rfl, (fun hh => absurd hh (by omega)), (show Hid _ from madeQ_of X0.out Z0.out B0.out K0.out (by omega) (fun hh => absurd hh (by omega)) (B3.out.alloc B3.out.size _) B3.out.size (Box4.new _ _ _ _ _ _))⟩
      · go_wp2_with fail
        go_meet
        exact ⟨U2.heap.size, 0, rfl, (fun hh => absurd hh (by omega)), (show Hid _ from madeQ_of X0.out Z0.out B0.out K0.out (by omega) (fun hh => absurd hh (by omega)) (set4_below B3.out B2.out.size _ _ _ _) B2.out.size (N3.out.set4 _ _ _ _))⟩
      · go_wp2_with fail
        go_meet
        exact ⟨U1.heap.size, 0, rfl, (fun hh => absurd hh (by omega)), (show Hid _ from madeQ_of X0.out Z0.out B0.out K0.out (by omega) (fun hh => absurd hh (by omega)) (set4_below B3.out B1.out.size _ _ _ _) B1.out.size (N3.out.set4 _ _ _ _))⟩
      · go_wp2_with fail
        go_meet
        exact ⟨V.heap.size, 0, rfl, (fun hh => absurd hh (by omega)), (show Hid _ from madeQ_of X0.out Z0.out B0.out K0.out (by omega) (fun hh => absurd hh (by omega)) (set4_below B3.out (Nat.le_refl _) _ _ _ _) (Nat.le_refl _) (N3.out.set4 _ _ _ _))⟩
    · have i1 : (9 : Int) ≤ (n : Int) := by omega
      have i2 : (n : Int) ≤ (c : Int) := by omega
      have i3 : (9 : Int) ≤ (c : Int) := by omega
      have i4 : (c == 9) = false := by simpa using hc4
      have i5 : ((c : Int) == 9) = false := by simp; omega
      go_region_with (first
          | (go_at_call 44; (with_reducible_and_instances (refine (numberAt_any (some ⟨g, 0, none⟩) n c (bodyAt l 0) 0 1 V.drew rfl rfl (K0.out.later BD.out) hnc (by omega) (by omega) (by omega) (by omega)).mono ?_)); rintro x U1 ⟨rfl, b1⟩; have K1 : Hid (Part.ok U1 ⟨some ⟨g, 0, none⟩, n, c, bodyAt l 0⟩) := (show Hid _ from (K0.out.later BD.out).later b1); have B1 : Hid (Below V.heap.size V U1) := (show Hid _ from BD.out.trans (b1.mono BD.out.size)); clear b1)
          | (go_at_call 44; (with_reducible_and_instances (refine (numberAt_any (some ⟨g, 0, none⟩) n c (bodyAt l 0) 0 1 (V.alloc (.cells #[.int .i64 0, .int .i64 0, .int .i64 0, .slice none 0 0] 27)).drew rfl rfl (K0.out.later BA.out) hnc (by omega) (by omega) (by omega) (by omega)).mono ?_)); rintro x U1 ⟨rfl, b1⟩; have K1 : Hid (Part.ok U1 ⟨some ⟨g, 0, none⟩, n, c, bodyAt l 0⟩) := (show Hid _ from (K0.out.later BA.out).later b1); have B1 : Hid (Below V.heap.size V U1) := (show Hid _ from BA.out.trans (b1.mono BA.out.size)); have N1 : Hid (Box4 27 U1 V.heap.size _ _ _ _) := (show Hid _ from NA.out.below b1 SA.out); have M1 : Hid (V.heap.size < U1.heap.size) := (show Hid _ from Nat.lt_of_lt_of_le SA.out b1.size); clear b1)
          | (go_at_call 44; have N1x := N1; clear N1x; (with_reducible_and_instances (refine (numberAt_any (some ⟨g, 0, none⟩) n c (bodyAt l 0) 1 6 U1 rfl rfl K1.out hnc (by omega) (by omega) (by omega) (by omega)).mono ?_)); rintro x U2 ⟨rfl, b2⟩; have K2 : Hid (Part.ok U2 ⟨some ⟨g, 0, none⟩, n, c, bodyAt l 0⟩) := (show Hid _ from K1.out.later b2); have B2 : Hid (Below V.heap.size V U2) := (show Hid _ from B1.out.trans (b2.mono B1.out.size)); have N2 : Hid (Box4 27 U2 _ _ _ _ _) := (show Hid _ from N1.out.below b2 M1.out); have M2 : Hid (_ < U2.heap.size) := (show Hid _ from Nat.lt_of_lt_of_le M1.out b2.size); clear b2)
          | (go_at_call 44; (with_reducible_and_instances (refine (numberAt_any (some ⟨g, 0, none⟩) n c (bodyAt l 0) 1 6 U1 rfl rfl K1.out hnc (by omega) (by omega) (by omega) (by omega)).mono ?_)); rintro x U2 ⟨rfl, b2⟩; have K2 : Hid (Part.ok U2 ⟨some ⟨g, 0, none⟩, n, c, bodyAt l 0⟩) := (show Hid _ from K1.out.later b2); have B2 : Hid (Below V.heap.size V U2) := (show Hid _ from B1.out.trans (b2.mono B1.out.size)); clear b2)
          | (go_at_call 44; (with_reducible_and_instances (refine (numberAt_any (some ⟨g, 0, none⟩) n c (bodyAt l 0) 1 6 (U1.alloc (.cells #[.int .i64 0, .int .i64 0, .int .i64 0, .slice none 0 0] 27)) rfl rfl (K1.out.later ((Below.refl _ U1).alloc (Nat.le_refl _) _)) hnc (by omega) (by omega) (by omega) (by omega)).mono ?_)); rintro x U2 ⟨rfl, b2⟩; have K2 : Hid (Part.ok U2 ⟨some ⟨g, 0, none⟩, n, c, bodyAt l 0⟩) := (show Hid _ from (K1.out.later ((Below.refl _ U1).alloc (Nat.le_refl _) _)).later b2); have B2 : Hid (Below V.heap.size V U2) := (show Hid _ from B1.out.trans ((((Below.refl _ U1).alloc (Nat.le_refl _) _).trans (b2.mono (by simp))).mono B1.out.size)); have N2 : Hid (Box4 27 U2 U1.heap.size _ _ _ _) := (show Hid _ from (Box4.new _ U1 _ _ _ _).below b2 (by simp)); have M2 : Hid (U1.heap.size < U2.heap.size) := (show Hid _ from Nat.lt_of_lt_of_le (by simp) b2.size); clear b2)
          | (go_at_call 44; have N2x := N2; clear N2x; (with_reducible_and_instances (refine (numberAt_any (some ⟨g, 0, none⟩) n c (bodyAt l 0) 7 2 U2 rfl rfl K2.out hnc (by omega) (by omega) (by omega) (by omega)).mono ?_)); rintro x U3 ⟨rfl, b3⟩; have K3 : Hid (Part.ok U3 ⟨some ⟨g, 0, none⟩, n, c, bodyAt l 0⟩) := (show Hid _ from K2.out.later b3); have B3 : Hid (Below V.heap.size V U3) := (show Hid _ from B2.out.trans (b3.mono B2.out.size)); have N3 : Hid (Box4 27 U3 _ _ _ _ _) := (show Hid _ from N2.out.below b3 M2.out); have M3 : Hid (_ < U3.heap.size) := (show Hid _ from Nat.lt_of_lt_of_le M2.out b3.size); obtain ⟨c0, c1, c2, c3⟩ := N3.out.cs; have f0 := N3.out.free 0; have f1 := N3.out.free 1; have f2 := N3.out.free 2; have f3 := N3.out.free 3; clear b3)
          | (go_at_call 44; (with_reducible_and_instances (refine (numberAt_any (some ⟨g, 0, none⟩) n c (bodyAt l 0) 7 2 U2 rfl rfl K2.out hnc (by omega) (by omega) (by omega) (by omega)).mono ?_)); rintro x U3 ⟨rfl, b3⟩; have K3 : Hid (Part.ok U3 ⟨some ⟨g, 0, none⟩, n, c, bodyAt l 0⟩) := (show Hid _ from K2.out.later b3); have B3 : Hid (Below V.heap.size V U3) := (show Hid _ from B2.out.trans (b3.mono B2.out.size)); clear b3)
          | (go_at_call 44; (with_reducible_and_instances (refine (numberAt_any (some ⟨g, 0, none⟩) n c (bodyAt l 0) 7 2 (U2.alloc (.cells #[.int .i64 0, .int .i64 0, .int .i64 0, .slice none 0 0] 27)) rfl rfl (K2.out.later ((Below.refl _ U2).alloc (Nat.le_refl _) _)) hnc (by omega) (by omega) (by omega) (by omega)).mono ?_)); rintro x U3 ⟨rfl, b3⟩; have K3 : Hid (Part.ok U3 ⟨some ⟨g, 0, none⟩, n, c, bodyAt l 0⟩) := (show Hid _ from (K2.out.later ((Below.refl _ U2).alloc (Nat.le_refl _) _)).later b3); have B3 : Hid (Below V.heap.size V U3) := (show Hid _ from B2.out.trans ((((Below.refl _ U2).alloc (Nat.le_refl _) _).trans (b3.mono (by simp))).mono B2.out.size)); have N3 : Hid (Box4 27 U3 U2.heap.size _ _ _ _) := (show Hid _ from (Box4.new _ U2 _ _ _ _).below b3 (by simp)); have M3 : Hid (U2.heap.size < U3.heap.size) := (show Hid _ from Nat.lt_of_lt_of_le (by simp) b3.size); obtain ⟨c0, c1, c2, c3⟩ := N3.out.cs; have f0 := N3.out.free 0; have f1 := N3.out.free 1; have f2 := N3.out.free 2; have f3 := N3.out.free 3; clear b3))
      · go_wp2_with fail
        go_meet
        exact ⟨U3.heap.size, 9, rfl, (fun _ => rfl), (show Hid _ from madeQ_of X0.out Z0.out B0.out K0.out (by omega) (fun _ => rfl) (B3.out.alloc B3.out.size _) B3.out.size (Box4.new _ _ _ _ _ _))⟩
      · go_wp2_with fail
        go_meet
        exact ⟨U2.heap.size, 9, rfl, (fun _ => rfl), (show Hid _ from madeQ_of X0.out Z0.out B0.out K0.out (by omega) (fun _ => rfl) (set4_below B3.out B2.out.size _ _ _ _) B2.out.size (N3.out.set4 _ _ _ _))⟩
      · go_wp2_with fail
        go_meet
        exact ⟨U1.heap.size, 9, rfl, (fun _ => rfl), (show Hid _ from madeQ_of X0.out Z0.out B0.out K0.out (by omega) (fun _ => rfl) (set4_below B3.out B1.out.size _ _ _ _) B1.out.size (N3.out.set4 _ _ _ _))⟩
      · go_wp2_with fail
        go_meet
        exact ⟨V.heap.size, 9, rfl, (fun _ => rfl), (show Hid _ from madeQ_of X0.out Z0.out B0.out K0.out (by omega) (fun _ => rfl) (set4_below B3.out (Nat.le_refl _) _ _ _ _) (Nat.le_refl _) (N3.out.set4 _ _ _ _))⟩
  case rest =>
    obtain ⟨G, o, rfl, ho, M⟩ := hcut
    clear X0 K0 B0 Z0 BD BA NA SA
    obtain ⟨q0, q1, q2, q3⟩ := M.out.new.cs
    have HM := HMAY.out (some ⟨g, o, none⟩) (c - 9) wc
    rw [← HC.out.2.2] at HM
    unfold reqV at HM
    cases bb with
    | false =>
      go_wp2_with (go_at_call 34; refine HM.mono ?_; rintro x W5 ⟨rfl, b5⟩; have A5 : Hid (Box4 27 W5 w.heap.size _ _ _ _) := (show Hid _ from M.out.ans.below b5 M.out.sz); obtain ⟨c0, c1, c2, c3⟩ := A5.out.cs; have f0 := A5.out.free 0; have f1 := A5.out.free 1; have f2 := A5.out.free 2; have f3 := A5.out.free 3; have D5 : Hid (Below w.heap.size w W5) := (show Hid _ from M.out.below.trans (b5.mono M.out.below.size)); clear b5 HM)
      refine bodyPost_ret (ret_request Tryz.results15 _ _ w.heap.size 0 0 0 none 0 0 rfl (A5.out.set4 _ _ _ _)) rfl ⟨rfl, ?_⟩
      exact set4_below D5.out (Nat.le_refl _) _ _ _ _
    | true =>
      go_wp2_with (go_at_call 34; refine HM.mono ?_; rintro x W5 ⟨rfl, b5⟩; have A5 : Hid (Box4 27 W5 w.heap.size _ _ _ _) := (show Hid _ from M.out.ans.below b5 M.out.sz); obtain ⟨c0, c1, c2, c3⟩ := A5.out.cs; have f0 := A5.out.free 0; have f1 := A5.out.free 1; have f2 := A5.out.free 2; have f3 := A5.out.free 3; have D5 : Hid (Below w.heap.size w W5) := (show Hid _ from M.out.below.trans (b5.mono M.out.below.size)); have E5 : Hid (Box4 27 W5 G _ _ _ _) := (show Hid _ from M.out.new.below b5 M.out.new.lt); obtain ⟨r0, r1, r2, r3⟩ := E5.out.cs; have P5 : Hid (Part.ok W5 ⟨some ⟨g, o, none⟩, n - 9, c - 9, (bodyAt l 0).drop 9⟩) := (show Hid _ from M.out.part.later b5); clear b5 HM)
      refine bodyPost_ret (ret_request Tryz.results15 _ _ w.heap.size _ _ _ _ _ _ rfl (A5.out.set4 _ _ _ _)) rfl ⟨⟨g, o, n - 9, c - 9, rfl, part_set4 P5.out HC.out.2.1, by omega, Nat.le_of_lt HC.out.2.1⟩, ?_⟩
      exact set4_below D5.out (Nat.le_refl _) _ _ _ _
end Go.Proofs.YtjldflfoncfndaaGreat
