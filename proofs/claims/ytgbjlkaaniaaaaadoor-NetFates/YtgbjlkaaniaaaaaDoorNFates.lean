/- NetFates of the statements of layer 6. -/
import Derived.Test.YtgbjlkaaniaaaaaDoorNKnows
namespace Go.Proofs.YtgbjlkaaniaaaaaDoor
open Go.RowKit

theorem fate_one (c : Int) : fateD (luckD new0 [c]) = restN c := rfl
set_option maxRecDepth 100000 in
set_option maxHeartbeats 4000000 in
theorem netFates_0 (c : Int) (hc : fits c) (hr : restN c = 0) (to : Int) (hto : fits to) (ad : Option Addr) (len cap : Nat) (l : List Nat) (w : World) (hp : Part.ok w ⟨ad, len, cap, l⟩) (hm : len ≤ 140737488355328) (hT : Tab w) :
    Calls Tryd.prog 6 #[.int .i64 c, .int .i64 to, .slice ad len cap] w fun e w' => e = .returned (.bool true) ∧ Below w.heap.size w w' := by
  have h1 : 1 ≤ w.heap.size := hT.1
  have hnew := NAt.new w
  have HP := hide hp
  have HTO := hide hto
  have HK : Hid (∀ W, (NAt w.heap.size W w.heap.size new0 ∧ Below w.heap.size w W) → Calls Tryd.prog 9 #[] W fun e W' => e = .returned (.bool true) ∧ Hid (NAt w.heap.size W' w.heap.size new0 ∧ Below w.heap.size w W')) := fun W ⟨h2, h3⟩ => by
    refine (knows6 W (hT.low h1 h3)).mono ?_
    rintro e W' ⟨rfl, h4⟩
    exact ⟨rfl, h2.later h4, h3.trans (h4.mono h3.size)⟩
  have HL : Hid (∀ W, (NAt w.heap.size W w.heap.size new0 ∧ Below w.heap.size w W) → Calls Tryd.prog 11 #[.pointer (some ⟨w.heap.size, 0, none⟩), .slice (some ⟨W.heap.size, 0, none⟩) 1 1] (W.alloc (.cells #[.int .i64 c] 3)) fun e W' => e = .returned (.tuple #[]) ∧ Hid (NAt w.heap.size W' w.heap.size (luckD new0 [c]) ∧ Below w.heap.size w W')) := fun W ⟨h2, h3⟩ => by
    have b : Below W.heap.size W (W.alloc (.cells #[.int .i64 c] 3)) := (Below.refl _ W).alloc (Nat.le_refl _) _
    have b2 := h3.trans (b.mono h3.size)
    refine ((h2.later b).luckC b2.size _ 1 1 [c] rfl (by intro x hx; simp at hx; subst hx; exact hc) (ints_src W [c] 1) (by simp [new0])).mono ?_
    rintro e W' ⟨rfl, h4, h5⟩
    exact ⟨rfl, h4, b2.trans h5⟩
  have HS : Hid (∀ W W1, (NAt w.heap.size W w.heap.size (luckD new0 [c]) ∧ Below w.heap.size w W) → Below W.heap.size W W1 → ∀ p n cp, Part.ok W1 ⟨p, n, cp, l⟩ → (∀ b off, p = some ⟨b, off, none⟩ → W.heap.size ≤ b) → Calls Tryd.prog 12 #[.pointer (some ⟨w.heap.size, 0, none⟩), .int .i64 to, .slice p n cp] W1 fun e W' => e = .returned (.tuple #[.int .i64 1, .bool true]) ∧ Hid (NAt w.heap.size W' w.heap.size (sendD (luckD new0 [c]) to l) ∧ Below w.heap.size w W')) := fun W W1 ⟨h2, h3⟩ hb p n cp hq hq2 => by
    have b2 := h3.trans (hb.mono h3.size)
    refine (h2.sendC hb h3.size h1 (hT.low h1 b2) to hto p n cp l hq (fun b off e _ => Or.inr (hq2 b off e)) (by simp [luckD, new0])).mono ?_
    rintro e W' ⟨rfl, h4, h5⟩
    rw [fate_one, hr]
    exact ⟨rfl, h4, b2.trans h5⟩
  have hsl : (sendD (luckD new0 [c]) to l).late.length = 0 ∧ (sendD (luckD new0 [c]) to l).luck.length = 0 := by
    unfold sendD
    rw [fate_one, hr]
    exact ⟨rfl, rfl⟩
  have HLt : Hid (∀ W, (NAt w.heap.size W w.heap.size (sendD (luckD new0 [c]) to l) ∧ Below w.heap.size w W) → Calls Tryd.prog 16 #[.pointer (some ⟨w.heap.size, 0, none⟩)] W fun e W' => e = .returned (.int .i64 0) ∧ W' = W) := fun W ⟨h2, h3⟩ => by
    have := h2.lateC
    rw [hsl.1] at this
    exact this
  have HLf : Hid (∀ W, (NAt w.heap.size W w.heap.size (sendD (luckD new0 [c]) to l) ∧ Below w.heap.size w W) → Calls Tryd.prog 17 #[.pointer (some ⟨w.heap.size, 0, none⟩)] W fun e W' => e = .returned (.int .i64 0) ∧ W' = W) := fun W ⟨h2, h3⟩ => by
    have := h2.leftC
    rw [hsl.2] at this
    exact this
  have HB : Hid (∀ W, (NAt w.heap.size W w.heap.size (sendD (luckD new0 [c]) to l) ∧ Below w.heap.size w W) → Below w.heap.size w W) := fun W h => h.2
  have hq0 := Int.tmod_lt_of_pos c (show (0 : Int) < 5 by omega)
  have hq1 := Int.lt_tmod_of_pos c (show (0 : Int) < 5 by omega)
  have hgo : (c.tmod 5 + 5) % 5 = 0 := by
    have h := restN_go c
    rw [hr, Int.tmod_eq_emod_of_nonneg (by omega)] at h
    exact h
  clear hT hp hto hc hr hsl
  go_enter Tryd.func6, Tryd.ntmps6
  go_wp2_with (first
    | (go_at_call 7; refine hnew.mono ?_; rintro e w1 ⟨rfl, hn, hb⟩; have H0 := hide (And.intro hn hb); clear hn hb hnew)
    | (go_at_call 9; (with_reducible_and_instances (refine (HK.out w1 H0.out).mono ?_)); rintro e w2 ⟨rfl, H1⟩; clear HK H0)
    | (go_at_call 11; (with_reducible_and_instances (refine (HL.out w2 H1.out).mono ?_)); rintro e w3 ⟨rfl, H2⟩; clear HL H1)
    | (at_builtin; refine app_any rfl _ _ rfl w3.heap.size (.slice (some ⟨w3.heap.size, 0, none⟩) 0 0) 0 [] rfl (empty_own w3 w3.heap.size (Nat.le_refl _)) ad len cap l rfl HP.out.1 HP.out.2.1 ((HP.out.later H2.out.2).later ((Below.refl _ w3).alloc (Nat.le_refl _) _)).2.2 (by omega) (by simp) ?_; intro v4 w4 o4 g4; have hw4 : Below w3.heap.size w3 w4 := ((Below.refl _ w3).alloc (Nat.le_refl _) _).grown g4 (by simp) (fun k hk => (by simp [Value.ownBlock] at hk; omega)); obtain ⟨p4, c4, hv4, hq4, hq5⟩ : ∃ p c, v4 = .slice p len c ∧ Part.ok w4 ⟨p, len, c, l⟩ ∧ (∀ b off, p = some ⟨b, off, none⟩ → w3.heap.size ≤ b) := part_of HP.out.1 HP.out.2.2.1 o4; subst hv4; have HQ := hide (HS.out w3 w4 H2.out hw4 p4 len c4 hq4 hq5); clear HS hw4 o4 g4 hq4 hq5)
    | (go_at_call 12; (with_reducible_and_instances (refine HQ.out.mono ?_)); rintro e w5 ⟨rfl, H3⟩; have H4 : Hid (NAt w.heap.size (w5.alloc (.cells #[.int .i64 1, .int .i64 0, .int .i64 1, .int .i64 0, .int .i64 2] 3)) w.heap.size (sendD (luckD new0 [c]) to l) ∧ Below w.heap.size w (w5.alloc (.cells #[.int .i64 1, .int .i64 0, .int .i64 1, .int .i64 0, .int .i64 2] 3))) := ⟨H3.out.1.later ((Below.refl _ _).alloc (Nat.le_refl _) _), H3.out.2.alloc H3.out.2.size _⟩; clear HQ)
    | (go_at_call 16; (with_reducible_and_instances (refine (HLt.out _ H4.out).mono ?_)); rintro e w' ⟨rfl, hw'⟩; obtain rfl := hw'.symm)
    | (go_at_call 17; (with_reducible_and_instances (refine (HLf.out _ H4.out).mono ?_)); rintro e w' ⟨rfl, hw'⟩; obtain rfl := hw'.symm))
  go_ret
  exact ⟨rfl, H4.out.2⟩
set_option maxRecDepth 100000 in
set_option maxHeartbeats 4000000 in
theorem netFates_1 (c : Int) (hc : fits c) (hr : restN c = 1) (to : Int) (hto : fits to) (ad : Option Addr) (len cap : Nat) (l : List Nat) (w : World) (hp : Part.ok w ⟨ad, len, cap, l⟩) (hm : len ≤ 140737488355328) (hT : Tab w) :
    Calls Tryd.prog 6 #[.int .i64 c, .int .i64 to, .slice ad len cap] w fun e w' => e = .returned (.bool true) ∧ Below w.heap.size w w' := by
  have h1 : 1 ≤ w.heap.size := hT.1
  have hnew := NAt.new w
  have HP := hide hp
  have HTO := hide hto
  have HK : Hid (∀ W, (NAt w.heap.size W w.heap.size new0 ∧ Below w.heap.size w W) → Calls Tryd.prog 9 #[] W fun e W' => e = .returned (.bool true) ∧ Hid (NAt w.heap.size W' w.heap.size new0 ∧ Below w.heap.size w W')) := fun W ⟨h2, h3⟩ => by
    refine (knows6 W (hT.low h1 h3)).mono ?_
    rintro e W' ⟨rfl, h4⟩
    exact ⟨rfl, h2.later h4, h3.trans (h4.mono h3.size)⟩
  have HL : Hid (∀ W, (NAt w.heap.size W w.heap.size new0 ∧ Below w.heap.size w W) → Calls Tryd.prog 11 #[.pointer (some ⟨w.heap.size, 0, none⟩), .slice (some ⟨W.heap.size, 0, none⟩) 1 1] (W.alloc (.cells #[.int .i64 c] 3)) fun e W' => e = .returned (.tuple #[]) ∧ Hid (NAt w.heap.size W' w.heap.size (luckD new0 [c]) ∧ Below w.heap.size w W')) := fun W ⟨h2, h3⟩ => by
    have b : Below W.heap.size W (W.alloc (.cells #[.int .i64 c] 3)) := (Below.refl _ W).alloc (Nat.le_refl _) _
    have b2 := h3.trans (b.mono h3.size)
    refine ((h2.later b).luckC b2.size _ 1 1 [c] rfl (by intro x hx; simp at hx; subst hx; exact hc) (ints_src W [c] 1) (by simp [new0])).mono ?_
    rintro e W' ⟨rfl, h4, h5⟩
    exact ⟨rfl, h4, b2.trans h5⟩
  have HS : Hid (∀ W W1, (NAt w.heap.size W w.heap.size (luckD new0 [c]) ∧ Below w.heap.size w W) → Below W.heap.size W W1 → ∀ p n cp, Part.ok W1 ⟨p, n, cp, l⟩ → (∀ b off, p = some ⟨b, off, none⟩ → W.heap.size ≤ b) → Calls Tryd.prog 12 #[.pointer (some ⟨w.heap.size, 0, none⟩), .int .i64 to, .slice p n cp] W1 fun e W' => e = .returned (.tuple #[.int .i64 0, .bool false]) ∧ Hid (NAt w.heap.size W' w.heap.size (sendD (luckD new0 [c]) to l) ∧ Below w.heap.size w W')) := fun W W1 ⟨h2, h3⟩ hb p n cp hq hq2 => by
    have b2 := h3.trans (hb.mono h3.size)
    refine (h2.sendC hb h3.size h1 (hT.low h1 b2) to hto p n cp l hq (fun b off e _ => Or.inr (hq2 b off e)) (by simp [luckD, new0])).mono ?_
    rintro e W' ⟨rfl, h4, h5⟩
    rw [fate_one, hr]
    exact ⟨rfl, h4, b2.trans h5⟩
  have hsl : (sendD (luckD new0 [c]) to l).late.length = 0 ∧ (sendD (luckD new0 [c]) to l).luck.length = 0 := by
    unfold sendD
    rw [fate_one, hr]
    exact ⟨rfl, rfl⟩
  have HLt : Hid (∀ W, (NAt w.heap.size W w.heap.size (sendD (luckD new0 [c]) to l) ∧ Below w.heap.size w W) → Calls Tryd.prog 16 #[.pointer (some ⟨w.heap.size, 0, none⟩)] W fun e W' => e = .returned (.int .i64 0) ∧ W' = W) := fun W ⟨h2, h3⟩ => by
    have := h2.lateC
    rw [hsl.1] at this
    exact this
  have HLf : Hid (∀ W, (NAt w.heap.size W w.heap.size (sendD (luckD new0 [c]) to l) ∧ Below w.heap.size w W) → Calls Tryd.prog 17 #[.pointer (some ⟨w.heap.size, 0, none⟩)] W fun e W' => e = .returned (.int .i64 0) ∧ W' = W) := fun W ⟨h2, h3⟩ => by
    have := h2.leftC
    rw [hsl.2] at this
    exact this
  have HB : Hid (∀ W, (NAt w.heap.size W w.heap.size (sendD (luckD new0 [c]) to l) ∧ Below w.heap.size w W) → Below w.heap.size w W) := fun W h => h.2
  have hq0 := Int.tmod_lt_of_pos c (show (0 : Int) < 5 by omega)
  have hq1 := Int.lt_tmod_of_pos c (show (0 : Int) < 5 by omega)
  have hgo : (c.tmod 5 + 5) % 5 = 1 := by
    have h := restN_go c
    rw [hr, Int.tmod_eq_emod_of_nonneg (by omega)] at h
    exact h
  clear hT hp hto hc hr hsl
  go_enter Tryd.func6, Tryd.ntmps6
  go_wp2_with (first
    | (go_at_call 7; refine hnew.mono ?_; rintro e w1 ⟨rfl, hn, hb⟩; have H0 := hide (And.intro hn hb); clear hn hb hnew)
    | (go_at_call 9; (with_reducible_and_instances (refine (HK.out w1 H0.out).mono ?_)); rintro e w2 ⟨rfl, H1⟩; clear HK H0)
    | (go_at_call 11; (with_reducible_and_instances (refine (HL.out w2 H1.out).mono ?_)); rintro e w3 ⟨rfl, H2⟩; clear HL H1)
    | (at_builtin; refine app_any rfl _ _ rfl w3.heap.size (.slice (some ⟨w3.heap.size, 0, none⟩) 0 0) 0 [] rfl (empty_own w3 w3.heap.size (Nat.le_refl _)) ad len cap l rfl HP.out.1 HP.out.2.1 ((HP.out.later H2.out.2).later ((Below.refl _ w3).alloc (Nat.le_refl _) _)).2.2 (by omega) (by simp) ?_; intro v4 w4 o4 g4; have hw4 : Below w3.heap.size w3 w4 := ((Below.refl _ w3).alloc (Nat.le_refl _) _).grown g4 (by simp) (fun k hk => (by simp [Value.ownBlock] at hk; omega)); obtain ⟨p4, c4, hv4, hq4, hq5⟩ : ∃ p c, v4 = .slice p len c ∧ Part.ok w4 ⟨p, len, c, l⟩ ∧ (∀ b off, p = some ⟨b, off, none⟩ → w3.heap.size ≤ b) := part_of HP.out.1 HP.out.2.2.1 o4; subst hv4; have HQ := hide (HS.out w3 w4 H2.out hw4 p4 len c4 hq4 hq5); clear HS hw4 o4 g4 hq4 hq5)
    | (go_at_call 12; (with_reducible_and_instances (refine HQ.out.mono ?_)); rintro e w5 ⟨rfl, H3⟩; have H4 : Hid (NAt w.heap.size (w5.alloc (.cells #[.int .i64 1, .int .i64 0, .int .i64 1, .int .i64 0, .int .i64 2] 3)) w.heap.size (sendD (luckD new0 [c]) to l) ∧ Below w.heap.size w (w5.alloc (.cells #[.int .i64 1, .int .i64 0, .int .i64 1, .int .i64 0, .int .i64 2] 3))) := ⟨H3.out.1.later ((Below.refl _ _).alloc (Nat.le_refl _) _), H3.out.2.alloc H3.out.2.size _⟩; clear HQ)
    | (go_at_call 16; (with_reducible_and_instances (refine (HLt.out _ H4.out).mono ?_)); rintro e w' ⟨rfl, hw'⟩; obtain rfl := hw'.symm)
    | (go_at_call 17; (with_reducible_and_instances (refine (HLf.out _ H4.out).mono ?_)); rintro e w' ⟨rfl, hw'⟩; obtain rfl := hw'.symm))
  go_ret
  exact ⟨rfl, H4.out.2⟩
set_option maxRecDepth 100000 in
set_option maxHeartbeats 4000000 in
theorem netFates_2 (c : Int) (hc : fits c) (hr : restN c = 2) (to : Int) (hto : fits to) (ad : Option Addr) (len cap : Nat) (l : List Nat) (w : World) (hp : Part.ok w ⟨ad, len, cap, l⟩) (hm : len ≤ 140737488355328) (hT : Tab w) :
    Calls Tryd.prog 6 #[.int .i64 c, .int .i64 to, .slice ad len cap] w fun e w' => e = .returned (.bool true) ∧ Below w.heap.size w w' := by
  have h1 : 1 ≤ w.heap.size := hT.1
  have hnew := NAt.new w
  have HP := hide hp
  have HTO := hide hto
  have HK : Hid (∀ W, (NAt w.heap.size W w.heap.size new0 ∧ Below w.heap.size w W) → Calls Tryd.prog 9 #[] W fun e W' => e = .returned (.bool true) ∧ Hid (NAt w.heap.size W' w.heap.size new0 ∧ Below w.heap.size w W')) := fun W ⟨h2, h3⟩ => by
    refine (knows6 W (hT.low h1 h3)).mono ?_
    rintro e W' ⟨rfl, h4⟩
    exact ⟨rfl, h2.later h4, h3.trans (h4.mono h3.size)⟩
  have HL : Hid (∀ W, (NAt w.heap.size W w.heap.size new0 ∧ Below w.heap.size w W) → Calls Tryd.prog 11 #[.pointer (some ⟨w.heap.size, 0, none⟩), .slice (some ⟨W.heap.size, 0, none⟩) 1 1] (W.alloc (.cells #[.int .i64 c] 3)) fun e W' => e = .returned (.tuple #[]) ∧ Hid (NAt w.heap.size W' w.heap.size (luckD new0 [c]) ∧ Below w.heap.size w W')) := fun W ⟨h2, h3⟩ => by
    have b : Below W.heap.size W (W.alloc (.cells #[.int .i64 c] 3)) := (Below.refl _ W).alloc (Nat.le_refl _) _
    have b2 := h3.trans (b.mono h3.size)
    refine ((h2.later b).luckC b2.size _ 1 1 [c] rfl (by intro x hx; simp at hx; subst hx; exact hc) (ints_src W [c] 1) (by simp [new0])).mono ?_
    rintro e W' ⟨rfl, h4, h5⟩
    exact ⟨rfl, h4, b2.trans h5⟩
  have HS : Hid (∀ W W1, (NAt w.heap.size W w.heap.size (luckD new0 [c]) ∧ Below w.heap.size w W) → Below W.heap.size W W1 → ∀ p n cp, Part.ok W1 ⟨p, n, cp, l⟩ → (∀ b off, p = some ⟨b, off, none⟩ → W.heap.size ≤ b) → Calls Tryd.prog 12 #[.pointer (some ⟨w.heap.size, 0, none⟩), .int .i64 to, .slice p n cp] W1 fun e W' => e = .returned (.tuple #[.int .i64 1, .bool false]) ∧ Hid (NAt w.heap.size W' w.heap.size (sendD (luckD new0 [c]) to l) ∧ Below w.heap.size w W')) := fun W W1 ⟨h2, h3⟩ hb p n cp hq hq2 => by
    have b2 := h3.trans (hb.mono h3.size)
    refine (h2.sendC hb h3.size h1 (hT.low h1 b2) to hto p n cp l hq (fun b off e _ => Or.inr (hq2 b off e)) (by simp [luckD, new0])).mono ?_
    rintro e W' ⟨rfl, h4, h5⟩
    rw [fate_one, hr]
    exact ⟨rfl, h4, b2.trans h5⟩
  have hsl : (sendD (luckD new0 [c]) to l).late.length = 0 ∧ (sendD (luckD new0 [c]) to l).luck.length = 0 := by
    unfold sendD
    rw [fate_one, hr]
    exact ⟨rfl, rfl⟩
  have HLt : Hid (∀ W, (NAt w.heap.size W w.heap.size (sendD (luckD new0 [c]) to l) ∧ Below w.heap.size w W) → Calls Tryd.prog 16 #[.pointer (some ⟨w.heap.size, 0, none⟩)] W fun e W' => e = .returned (.int .i64 0) ∧ W' = W) := fun W ⟨h2, h3⟩ => by
    have := h2.lateC
    rw [hsl.1] at this
    exact this
  have HLf : Hid (∀ W, (NAt w.heap.size W w.heap.size (sendD (luckD new0 [c]) to l) ∧ Below w.heap.size w W) → Calls Tryd.prog 17 #[.pointer (some ⟨w.heap.size, 0, none⟩)] W fun e W' => e = .returned (.int .i64 0) ∧ W' = W) := fun W ⟨h2, h3⟩ => by
    have := h2.leftC
    rw [hsl.2] at this
    exact this
  have HB : Hid (∀ W, (NAt w.heap.size W w.heap.size (sendD (luckD new0 [c]) to l) ∧ Below w.heap.size w W) → Below w.heap.size w W) := fun W h => h.2
  have hq0 := Int.tmod_lt_of_pos c (show (0 : Int) < 5 by omega)
  have hq1 := Int.lt_tmod_of_pos c (show (0 : Int) < 5 by omega)
  have hgo : (c.tmod 5 + 5) % 5 = 2 := by
    have h := restN_go c
    rw [hr, Int.tmod_eq_emod_of_nonneg (by omega)] at h
    exact h
  clear hT hp hto hc hr hsl
  go_enter Tryd.func6, Tryd.ntmps6
  go_wp2_with (first
    | (go_at_call 7; refine hnew.mono ?_; rintro e w1 ⟨rfl, hn, hb⟩; have H0 := hide (And.intro hn hb); clear hn hb hnew)
    | (go_at_call 9; (with_reducible_and_instances (refine (HK.out w1 H0.out).mono ?_)); rintro e w2 ⟨rfl, H1⟩; clear HK H0)
    | (go_at_call 11; (with_reducible_and_instances (refine (HL.out w2 H1.out).mono ?_)); rintro e w3 ⟨rfl, H2⟩; clear HL H1)
    | (at_builtin; refine app_any rfl _ _ rfl w3.heap.size (.slice (some ⟨w3.heap.size, 0, none⟩) 0 0) 0 [] rfl (empty_own w3 w3.heap.size (Nat.le_refl _)) ad len cap l rfl HP.out.1 HP.out.2.1 ((HP.out.later H2.out.2).later ((Below.refl _ w3).alloc (Nat.le_refl _) _)).2.2 (by omega) (by simp) ?_; intro v4 w4 o4 g4; have hw4 : Below w3.heap.size w3 w4 := ((Below.refl _ w3).alloc (Nat.le_refl _) _).grown g4 (by simp) (fun k hk => (by simp [Value.ownBlock] at hk; omega)); obtain ⟨p4, c4, hv4, hq4, hq5⟩ : ∃ p c, v4 = .slice p len c ∧ Part.ok w4 ⟨p, len, c, l⟩ ∧ (∀ b off, p = some ⟨b, off, none⟩ → w3.heap.size ≤ b) := part_of HP.out.1 HP.out.2.2.1 o4; subst hv4; have HQ := hide (HS.out w3 w4 H2.out hw4 p4 len c4 hq4 hq5); clear HS hw4 o4 g4 hq4 hq5)
    | (go_at_call 12; (with_reducible_and_instances (refine HQ.out.mono ?_)); rintro e w5 ⟨rfl, H3⟩; have H4 : Hid (NAt w.heap.size (w5.alloc (.cells #[.int .i64 1, .int .i64 0, .int .i64 1, .int .i64 0, .int .i64 2] 3)) w.heap.size (sendD (luckD new0 [c]) to l) ∧ Below w.heap.size w (w5.alloc (.cells #[.int .i64 1, .int .i64 0, .int .i64 1, .int .i64 0, .int .i64 2] 3))) := ⟨H3.out.1.later ((Below.refl _ _).alloc (Nat.le_refl _) _), H3.out.2.alloc H3.out.2.size _⟩; clear HQ)
    | (go_at_call 16; (with_reducible_and_instances (refine (HLt.out _ H4.out).mono ?_)); rintro e w' ⟨rfl, hw'⟩; obtain rfl := hw'.symm)
    | (go_at_call 17; (with_reducible_and_instances (refine (HLf.out _ H4.out).mono ?_)); rintro e w' ⟨rfl, hw'⟩; obtain rfl := hw'.symm))
  go_ret
  exact ⟨rfl, H4.out.2⟩
set_option maxRecDepth 100000 in
set_option maxHeartbeats 4000000 in
theorem netFates_3 (c : Int) (hc : fits c) (hr : restN c = 3) (to : Int) (hto : fits to) (ad : Option Addr) (len cap : Nat) (l : List Nat) (w : World) (hp : Part.ok w ⟨ad, len, cap, l⟩) (hm : len ≤ 140737488355328) (hT : Tab w) :
    Calls Tryd.prog 6 #[.int .i64 c, .int .i64 to, .slice ad len cap] w fun e w' => e = .returned (.bool true) ∧ Below w.heap.size w w' := by
  have h1 : 1 ≤ w.heap.size := hT.1
  have hnew := NAt.new w
  have HP := hide hp
  have HTO := hide hto
  have HK : Hid (∀ W, (NAt w.heap.size W w.heap.size new0 ∧ Below w.heap.size w W) → Calls Tryd.prog 9 #[] W fun e W' => e = .returned (.bool true) ∧ Hid (NAt w.heap.size W' w.heap.size new0 ∧ Below w.heap.size w W')) := fun W ⟨h2, h3⟩ => by
    refine (knows6 W (hT.low h1 h3)).mono ?_
    rintro e W' ⟨rfl, h4⟩
    exact ⟨rfl, h2.later h4, h3.trans (h4.mono h3.size)⟩
  have HL : Hid (∀ W, (NAt w.heap.size W w.heap.size new0 ∧ Below w.heap.size w W) → Calls Tryd.prog 11 #[.pointer (some ⟨w.heap.size, 0, none⟩), .slice (some ⟨W.heap.size, 0, none⟩) 1 1] (W.alloc (.cells #[.int .i64 c] 3)) fun e W' => e = .returned (.tuple #[]) ∧ Hid (NAt w.heap.size W' w.heap.size (luckD new0 [c]) ∧ Below w.heap.size w W')) := fun W ⟨h2, h3⟩ => by
    have b : Below W.heap.size W (W.alloc (.cells #[.int .i64 c] 3)) := (Below.refl _ W).alloc (Nat.le_refl _) _
    have b2 := h3.trans (b.mono h3.size)
    refine ((h2.later b).luckC b2.size _ 1 1 [c] rfl (by intro x hx; simp at hx; subst hx; exact hc) (ints_src W [c] 1) (by simp [new0])).mono ?_
    rintro e W' ⟨rfl, h4, h5⟩
    exact ⟨rfl, h4, b2.trans h5⟩
  have HS : Hid (∀ W W1, (NAt w.heap.size W w.heap.size (luckD new0 [c]) ∧ Below w.heap.size w W) → Below W.heap.size W W1 → ∀ p n cp, Part.ok W1 ⟨p, n, cp, l⟩ → (∀ b off, p = some ⟨b, off, none⟩ → W.heap.size ≤ b) → Calls Tryd.prog 12 #[.pointer (some ⟨w.heap.size, 0, none⟩), .int .i64 to, .slice p n cp] W1 fun e W' => e = .returned (.tuple #[.int .i64 0, .bool false]) ∧ Hid (NAt w.heap.size W' w.heap.size (sendD (luckD new0 [c]) to l) ∧ Below w.heap.size w W')) := fun W W1 ⟨h2, h3⟩ hb p n cp hq hq2 => by
    have b2 := h3.trans (hb.mono h3.size)
    refine (h2.sendC hb h3.size h1 (hT.low h1 b2) to hto p n cp l hq (fun b off e _ => Or.inr (hq2 b off e)) (by simp [luckD, new0])).mono ?_
    rintro e W' ⟨rfl, h4, h5⟩
    rw [fate_one, hr]
    exact ⟨rfl, h4, b2.trans h5⟩
  have hsl : (sendD (luckD new0 [c]) to l).late.length = 1 ∧ (sendD (luckD new0 [c]) to l).luck.length = 0 := by
    unfold sendD
    rw [fate_one, hr]
    exact ⟨rfl, rfl⟩
  have HLt : Hid (∀ W, (NAt w.heap.size W w.heap.size (sendD (luckD new0 [c]) to l) ∧ Below w.heap.size w W) → Calls Tryd.prog 16 #[.pointer (some ⟨w.heap.size, 0, none⟩)] W fun e W' => e = .returned (.int .i64 1) ∧ W' = W) := fun W ⟨h2, h3⟩ => by
    have := h2.lateC
    rw [hsl.1] at this
    exact this
  have HLf : Hid (∀ W, (NAt w.heap.size W w.heap.size (sendD (luckD new0 [c]) to l) ∧ Below w.heap.size w W) → Calls Tryd.prog 17 #[.pointer (some ⟨w.heap.size, 0, none⟩)] W fun e W' => e = .returned (.int .i64 0) ∧ W' = W) := fun W ⟨h2, h3⟩ => by
    have := h2.leftC
    rw [hsl.2] at this
    exact this
  have HB : Hid (∀ W, (NAt w.heap.size W w.heap.size (sendD (luckD new0 [c]) to l) ∧ Below w.heap.size w W) → Below w.heap.size w W) := fun W h => h.2
  have hq0 := Int.tmod_lt_of_pos c (show (0 : Int) < 5 by omega)
  have hq1 := Int.lt_tmod_of_pos c (show (0 : Int) < 5 by omega)
  have hgo : (c.tmod 5 + 5) % 5 = 3 := by
    have h := restN_go c
    rw [hr, Int.tmod_eq_emod_of_nonneg (by omega)] at h
    exact h
  clear hT hp hto hc hr hsl
  go_enter Tryd.func6, Tryd.ntmps6
  go_wp2_with (first
    | (go_at_call 7; refine hnew.mono ?_; rintro e w1 ⟨rfl, hn, hb⟩; have H0 := hide (And.intro hn hb); clear hn hb hnew)
    | (go_at_call 9; (with_reducible_and_instances (refine (HK.out w1 H0.out).mono ?_)); rintro e w2 ⟨rfl, H1⟩; clear HK H0)
    | (go_at_call 11; (with_reducible_and_instances (refine (HL.out w2 H1.out).mono ?_)); rintro e w3 ⟨rfl, H2⟩; clear HL H1)
    | (at_builtin; refine app_any rfl _ _ rfl w3.heap.size (.slice (some ⟨w3.heap.size, 0, none⟩) 0 0) 0 [] rfl (empty_own w3 w3.heap.size (Nat.le_refl _)) ad len cap l rfl HP.out.1 HP.out.2.1 ((HP.out.later H2.out.2).later ((Below.refl _ w3).alloc (Nat.le_refl _) _)).2.2 (by omega) (by simp) ?_; intro v4 w4 o4 g4; have hw4 : Below w3.heap.size w3 w4 := ((Below.refl _ w3).alloc (Nat.le_refl _) _).grown g4 (by simp) (fun k hk => (by simp [Value.ownBlock] at hk; omega)); obtain ⟨p4, c4, hv4, hq4, hq5⟩ : ∃ p c, v4 = .slice p len c ∧ Part.ok w4 ⟨p, len, c, l⟩ ∧ (∀ b off, p = some ⟨b, off, none⟩ → w3.heap.size ≤ b) := part_of HP.out.1 HP.out.2.2.1 o4; subst hv4; have HQ := hide (HS.out w3 w4 H2.out hw4 p4 len c4 hq4 hq5); clear HS hw4 o4 g4 hq4 hq5)
    | (go_at_call 12; (with_reducible_and_instances (refine HQ.out.mono ?_)); rintro e w5 ⟨rfl, H3⟩; have H4 : Hid (NAt w.heap.size (w5.alloc (.cells #[.int .i64 1, .int .i64 0, .int .i64 1, .int .i64 0, .int .i64 2] 3)) w.heap.size (sendD (luckD new0 [c]) to l) ∧ Below w.heap.size w (w5.alloc (.cells #[.int .i64 1, .int .i64 0, .int .i64 1, .int .i64 0, .int .i64 2] 3))) := ⟨H3.out.1.later ((Below.refl _ _).alloc (Nat.le_refl _) _), H3.out.2.alloc H3.out.2.size _⟩; clear HQ)
    | (go_at_call 16; (with_reducible_and_instances (refine (HLt.out _ H4.out).mono ?_)); rintro e w' ⟨rfl, hw'⟩; obtain rfl := hw'.symm)
    | (go_at_call 17; (with_reducible_and_instances (refine (HLf.out _ H4.out).mono ?_)); rintro e w' ⟨rfl, hw'⟩; obtain rfl := hw'.symm))
  go_ret
  exact ⟨rfl, H4.out.2⟩
set_option maxRecDepth 100000 in
set_option maxHeartbeats 4000000 in
theorem netFates_4 (c : Int) (hc : fits c) (hr : restN c = 4) (to : Int) (hto : fits to) (ad : Option Addr) (len cap : Nat) (l : List Nat) (w : World) (hp : Part.ok w ⟨ad, len, cap, l⟩) (hm : len ≤ 140737488355328) (hT : Tab w) :
    Calls Tryd.prog 6 #[.int .i64 c, .int .i64 to, .slice ad len cap] w fun e w' => e = .returned (.bool true) ∧ Below w.heap.size w w' := by
  have h1 : 1 ≤ w.heap.size := hT.1
  have hnew := NAt.new w
  have HP := hide hp
  have HTO := hide hto
  have HK : Hid (∀ W, (NAt w.heap.size W w.heap.size new0 ∧ Below w.heap.size w W) → Calls Tryd.prog 9 #[] W fun e W' => e = .returned (.bool true) ∧ Hid (NAt w.heap.size W' w.heap.size new0 ∧ Below w.heap.size w W')) := fun W ⟨h2, h3⟩ => by
    refine (knows6 W (hT.low h1 h3)).mono ?_
    rintro e W' ⟨rfl, h4⟩
    exact ⟨rfl, h2.later h4, h3.trans (h4.mono h3.size)⟩
  have HL : Hid (∀ W, (NAt w.heap.size W w.heap.size new0 ∧ Below w.heap.size w W) → Calls Tryd.prog 11 #[.pointer (some ⟨w.heap.size, 0, none⟩), .slice (some ⟨W.heap.size, 0, none⟩) 1 1] (W.alloc (.cells #[.int .i64 c] 3)) fun e W' => e = .returned (.tuple #[]) ∧ Hid (NAt w.heap.size W' w.heap.size (luckD new0 [c]) ∧ Below w.heap.size w W')) := fun W ⟨h2, h3⟩ => by
    have b : Below W.heap.size W (W.alloc (.cells #[.int .i64 c] 3)) := (Below.refl _ W).alloc (Nat.le_refl _) _
    have b2 := h3.trans (b.mono h3.size)
    refine ((h2.later b).luckC b2.size _ 1 1 [c] rfl (by intro x hx; simp at hx; subst hx; exact hc) (ints_src W [c] 1) (by simp [new0])).mono ?_
    rintro e W' ⟨rfl, h4, h5⟩
    exact ⟨rfl, h4, b2.trans h5⟩
  have HS : Hid (∀ W W1, (NAt w.heap.size W w.heap.size (luckD new0 [c]) ∧ Below w.heap.size w W) → Below W.heap.size W W1 → ∀ p n cp, Part.ok W1 ⟨p, n, cp, l⟩ → (∀ b off, p = some ⟨b, off, none⟩ → W.heap.size ≤ b) → Calls Tryd.prog 12 #[.pointer (some ⟨w.heap.size, 0, none⟩), .int .i64 to, .slice p n cp] W1 fun e W' => e = .returned (.tuple #[.int .i64 2, .bool true]) ∧ Hid (NAt w.heap.size W' w.heap.size (sendD (luckD new0 [c]) to l) ∧ Below w.heap.size w W')) := fun W W1 ⟨h2, h3⟩ hb p n cp hq hq2 => by
    have b2 := h3.trans (hb.mono h3.size)
    refine (h2.sendC hb h3.size h1 (hT.low h1 b2) to hto p n cp l hq (fun b off e _ => Or.inr (hq2 b off e)) (by simp [luckD, new0])).mono ?_
    rintro e W' ⟨rfl, h4, h5⟩
    rw [fate_one, hr]
    exact ⟨rfl, h4, b2.trans h5⟩
  have hsl : (sendD (luckD new0 [c]) to l).late.length = 0 ∧ (sendD (luckD new0 [c]) to l).luck.length = 0 := by
    unfold sendD
    rw [fate_one, hr]
    exact ⟨rfl, rfl⟩
  have HLt : Hid (∀ W, (NAt w.heap.size W w.heap.size (sendD (luckD new0 [c]) to l) ∧ Below w.heap.size w W) → Calls Tryd.prog 16 #[.pointer (some ⟨w.heap.size, 0, none⟩)] W fun e W' => e = .returned (.int .i64 0) ∧ W' = W) := fun W ⟨h2, h3⟩ => by
    have := h2.lateC
    rw [hsl.1] at this
    exact this
  have HLf : Hid (∀ W, (NAt w.heap.size W w.heap.size (sendD (luckD new0 [c]) to l) ∧ Below w.heap.size w W) → Calls Tryd.prog 17 #[.pointer (some ⟨w.heap.size, 0, none⟩)] W fun e W' => e = .returned (.int .i64 0) ∧ W' = W) := fun W ⟨h2, h3⟩ => by
    have := h2.leftC
    rw [hsl.2] at this
    exact this
  have HB : Hid (∀ W, (NAt w.heap.size W w.heap.size (sendD (luckD new0 [c]) to l) ∧ Below w.heap.size w W) → Below w.heap.size w W) := fun W h => h.2
  have hq0 := Int.tmod_lt_of_pos c (show (0 : Int) < 5 by omega)
  have hq1 := Int.lt_tmod_of_pos c (show (0 : Int) < 5 by omega)
  have hgo : (c.tmod 5 + 5) % 5 = 4 := by
    have h := restN_go c
    rw [hr, Int.tmod_eq_emod_of_nonneg (by omega)] at h
    exact h
  clear hT hp hto hc hr hsl
  go_enter Tryd.func6, Tryd.ntmps6
  go_wp2_with (first
    | (go_at_call 7; refine hnew.mono ?_; rintro e w1 ⟨rfl, hn, hb⟩; have H0 := hide (And.intro hn hb); clear hn hb hnew)
    | (go_at_call 9; (with_reducible_and_instances (refine (HK.out w1 H0.out).mono ?_)); rintro e w2 ⟨rfl, H1⟩; clear HK H0)
    | (go_at_call 11; (with_reducible_and_instances (refine (HL.out w2 H1.out).mono ?_)); rintro e w3 ⟨rfl, H2⟩; clear HL H1)
    | (at_builtin; refine app_any rfl _ _ rfl w3.heap.size (.slice (some ⟨w3.heap.size, 0, none⟩) 0 0) 0 [] rfl (empty_own w3 w3.heap.size (Nat.le_refl _)) ad len cap l rfl HP.out.1 HP.out.2.1 ((HP.out.later H2.out.2).later ((Below.refl _ w3).alloc (Nat.le_refl _) _)).2.2 (by omega) (by simp) ?_; intro v4 w4 o4 g4; have hw4 : Below w3.heap.size w3 w4 := ((Below.refl _ w3).alloc (Nat.le_refl _) _).grown g4 (by simp) (fun k hk => (by simp [Value.ownBlock] at hk; omega)); obtain ⟨p4, c4, hv4, hq4, hq5⟩ : ∃ p c, v4 = .slice p len c ∧ Part.ok w4 ⟨p, len, c, l⟩ ∧ (∀ b off, p = some ⟨b, off, none⟩ → w3.heap.size ≤ b) := part_of HP.out.1 HP.out.2.2.1 o4; subst hv4; have HQ := hide (HS.out w3 w4 H2.out hw4 p4 len c4 hq4 hq5); clear HS hw4 o4 g4 hq4 hq5)
    | (go_at_call 12; (with_reducible_and_instances (refine HQ.out.mono ?_)); rintro e w5 ⟨rfl, H3⟩; have H4 : Hid (NAt w.heap.size (w5.alloc (.cells #[.int .i64 1, .int .i64 0, .int .i64 1, .int .i64 0, .int .i64 2] 3)) w.heap.size (sendD (luckD new0 [c]) to l) ∧ Below w.heap.size w (w5.alloc (.cells #[.int .i64 1, .int .i64 0, .int .i64 1, .int .i64 0, .int .i64 2] 3))) := ⟨H3.out.1.later ((Below.refl _ _).alloc (Nat.le_refl _) _), H3.out.2.alloc H3.out.2.size _⟩; clear HQ)
    | (go_at_call 16; (with_reducible_and_instances (refine (HLt.out _ H4.out).mono ?_)); rintro e w' ⟨rfl, hw'⟩; obtain rfl := hw'.symm)
    | (go_at_call 17; (with_reducible_and_instances (refine (HLf.out _ H4.out).mono ?_)); rintro e w' ⟨rfl, hw'⟩; obtain rfl := hw'.symm))
  go_ret
  exact ⟨rfl, H4.out.2⟩
theorem netFates_any (c : Int) (hc : fits c) (to : Int) (hto : fits to) (ad : Option Addr) (len cap : Nat) (l : List Nat) (w : World) (hp : Part.ok w ⟨ad, len, cap, l⟩) (hm : len ≤ 140737488355328) (hT : Tab w) :
    Calls Tryd.prog 6 #[.int .i64 c, .int .i64 to, .slice ad len cap] w fun e w' => e = .returned (.bool true) ∧ Below w.heap.size w w' := by
  have h := restN_lt c
  rcases (show restN c = 0 ∨ restN c = 1 ∨ restN c = 2 ∨ restN c = 3 ∨ restN c = 4 by omega) with hr | hr | hr | hr | hr
  · exact netFates_0 c hc hr to hto ad len cap l w hp hm hT
  · exact netFates_1 c hc hr to hto ad len cap l w hp hm hT
  · exact netFates_2 c hc hr to hto ad len cap l w hp hm hT
  · exact netFates_3 c hc hr to hto ad len cap l w hp hm hT
  · exact netFates_4 c hc hr to hto ad len cap l w hp hm hT
end Go.Proofs.YtgbjlkaaniaaaaaDoor
