/- knows of the statements of layer 15: what must come. -/
import Derived.Test.YtipgociofjokeaaGreatPGNew
import Derived.Test.YtipgociofjokeaaGreatGKnM
namespace Go.Proofs.YtipgociofjokeaaGreat
open Go.RowKit Go.Shelf
variable {w w' : World}

/-- A group that a caller made: all of it lies from B on. -/
def GOf (B : Nat) (w : World) (g n : Nat) (G : Gp) : Prop := ∃ F, GAt w F g n G ∧ ∀ b ∈ F, B ≤ b
variable {B g n : Nat} {G : Gp}
theorem GOf.later (h : GOf B w g n G) (hb : Below w.heap.size w w') : GOf B w' g n G := by
  obtain ⟨F, h1, h2⟩ := h
  exact ⟨F, h1.later hb, h2⟩
theorem GOf.apply (h : GOf B w g n G) (hB : B ≤ w.heap.size) (x : Ev) (hn : n + 400 ≤ 4611686018427387904) (hk : x.kind ≠ 6 ∧ x.kind ≠ 7) (y : Int) (hy : (G.dec x).2 = y) (G' : Gp) (hG : G.app x = G') :
    Calls Tryz.prog 7 #[.pointer (some ⟨g, 0, none⟩), .agg (evA x)] w fun r w' => r = .returned (.int .i64 y) ∧ GOf B w' g (n + 102) G' ∧ Below B w w' := by
  obtain ⟨F, h1, h2⟩ := h
  refine (Apply_any h1 x hn (fun _ e => absurd e hk.2) (fun _ e => absurd e hk.1) (fun _ e => absurd e hk.2)).mono ?_
  rintro r w' ⟨rfl, F', h3, h4, h5⟩
  rw [hy, ← hG]
  exact ⟨rfl, ⟨F', h3, fun b hb => (h5 b hb).elim (h2 b) (fun h => Nat.le_trans hB h)⟩, h4.below (fun k hk => h2 k hk) hB⟩
theorem ints3 (W : World) (a b c : Int) : ArgK kZ (W.alloc (.cells #[.int .i64 a, .int .i64 b, .int .i64 c] 3)) [a, b, c] (some ⟨W.heap.size, 0, none⟩) 3 3 := by
  have hb : Blk (W.alloc (.cells #[.int .i64 a, .int .i64 b, .int .i64 c] 3)) W.heap.size _ _ := heap_alloc_new W _
  refine ⟨rfl, (fun e => by cases e), Nat.le_refl _, by unfold maxLen; omega, Or.inr ⟨_, 0, rfl, by simp, fun i hi c hc => ?_⟩⟩
  have h1 : kZ.sz = 1 := rfl
  obtain rfl : c = 0 := by omega
  rw [h1, Nat.mul_one, Nat.zero_add, Nat.add_zero, hb.cell i]
  rcases (show i = 0 ∨ i = 1 ∨ i = 2 by simp at hi; omega) with rfl | rfl | rfl <;> rfl
theorem text1 (W : World) (a : Nm) : ArgK kS (W.alloc (.cells #[.string (nmS a)] 9)) [a] (some ⟨W.heap.size, 0, none⟩) 1 1 := by
  have hb : Blk (W.alloc (.cells #[.string (nmS a)] 9)) W.heap.size _ _ := heap_alloc_new W _
  refine ⟨rfl, (fun e => by cases e), Nat.le_refl _, by unfold maxLen; omega, Or.inr ⟨_, 0, rfl, by simp, fun i hi c hc => ?_⟩⟩
  have h1 : kS.sz = 1 := rfl
  obtain rfl : c = 0 := by omega
  rw [h1, Nat.mul_one, Nat.zero_add, Nat.add_zero, hb.cell i]
  obtain rfl : i = 0 := by simp at hi; omega
  rfl
theorem ints_kn (W V : World) {v : Value} {base : Nat} (h : OwnK kZ W base v [0, 1, 2]) (hb : Below W.heap.size W V) : ∃ a c, v = .slice a 3 c ∧ Calls Tryz.prog 12 #[.slice a 3 c, .slice (some ⟨V.heap.size, 0, none⟩) 3 3] (V.alloc (.cells #[.int .i64 0, .int .i64 1, .int .i64 2] 3)) fun e w' => e = .returned (.bool true) ∧ Below V.heap.size V w' := by
  obtain ⟨a, c, e, hA⟩ := h.form kZ_ok.tofit
  refine ⟨a, c, e, ?_⟩
  have b1 : Below V.heap.size V (V.alloc (.cells #[.int .i64 0, .int .i64 1, .int .i64 2] 3)) := (Below.refl _ _).alloc (Nat.le_refl _) _
  refine (Ints_any ((hA.later hb).later b1) (ints3 V 0 1 2)).mono ?_
  rintro r w' ⟨rfl, hb2⟩
  exact ⟨by simp, b1.trans (hb2.mono b1.size)⟩
theorem texts_kn (W V : World) {v : Value} {base : Nat} (h : OwnK kS W base v [[98]]) (hb : Below W.heap.size W V) : ∃ a c, v = .slice a 1 c ∧ Calls Tryz.prog 13 #[.slice a 1 c, .slice (some ⟨V.heap.size, 0, none⟩) 1 1] (V.alloc (.cells #[.string ⟨#[98]⟩] 9)) fun e w' => e = .returned (.bool true) ∧ Below V.heap.size V w' := by
  obtain ⟨a, c, e, hA⟩ := h.form kS_ok.tofit
  refine ⟨a, c, e, ?_⟩
  have b1 : Below V.heap.size V (V.alloc (.cells #[.string (nmS [98])] 9)) := (Below.refl _ _).alloc (Nat.le_refl _) _
  refine (show Calls Tryz.prog 13 #[.slice a 1 c, .slice (some ⟨V.heap.size, 0, none⟩) 1 1] (V.alloc (.cells #[.string (nmS [98])] 9)) _ from Texts_any ((hA.later hb).later b1) (text1 V [98])).mono ?_
  rintro r w' ⟨rfl, hb2⟩
  exact ⟨by simp, b1.trans (hb2.mono b1.size)⟩
set_option maxRecDepth 100000 in
set_option maxHeartbeats 4000000 in
theorem knows15 (w : World) : Calls Tryz.prog 6 #[] w fun e w' => e = .returned (.bool true) ∧ Below w.heap.size w w' := by
  obtain ⟨a1, -⟩ := kn1
  obtain ⟨a2, -⟩ := kn2
  obtain ⟨a3, a3'⟩ := kn3
  obtain ⟨a4, -⟩ := kn4
  obtain ⟨a5, v1, v2, v3, v4⟩ := kn5
  have HN := hid (New_ok 3 10 (by omega) (by omega) w)
  have HA : Hid (∀ W g n, GOf w.heap.size W g n (gp0 3 10) → w.heap.size ≤ W.heap.size → n ≤ 1000 → Calls Tryz.prog 7 #[.pointer (some ⟨g, 0, none⟩), .agg #[.int .i64 1, .string ⟨#[97]⟩, .int .i64 0, .int .i64 0, .int .i64 0, .int .i64 0, .int .i64 0, .int .i64 0, .bool false]] W fun r w' => r = .returned (.int .i64 0) ∧ GOf w.heap.size w' g (n + 102) kG1 ∧ Below w.heap.size W w') := fun W g n h hB hn => h.apply hB xA (by omega) ⟨by decide, by decide⟩ 0 (by rw [a1]) _ rfl
  have HAb : Hid (∀ W g n, GOf w.heap.size W g n kG1 → w.heap.size ≤ W.heap.size → n ≤ 1000 → Calls Tryz.prog 7 #[.pointer (some ⟨g, 0, none⟩), .agg #[.int .i64 1, .string ⟨#[98]⟩, .int .i64 0, .int .i64 0, .int .i64 0, .int .i64 0, .int .i64 0, .int .i64 1, .bool false]] W fun r w' => r = .returned (.int .i64 0) ∧ GOf w.heap.size w' g (n + 102) kG2 ∧ Below w.heap.size W w') := fun W g n h hB hn => h.apply hB xB (by omega) ⟨by decide, by decide⟩ 0 (by rw [a2]) _ rfl
  have HAc : Hid (∀ W g n, GOf w.heap.size W g n kG2 → w.heap.size ≤ W.heap.size → n ≤ 1000 → Calls Tryz.prog 7 #[.pointer (some ⟨g, 0, none⟩), .agg #[.int .i64 4, .string ⟨#[97]⟩, .int .i64 1, .int .i64 0, .int .i64 5, .int .i64 0, .int .i64 0, .int .i64 0, .bool false]] W fun r w' => r = .returned (.int .i64 60) ∧ GOf w.heap.size w' g (n + 102) kG2 ∧ Below w.heap.size W w') := fun W g n h hB hn => h.apply hB xC (by omega) ⟨by decide, by decide⟩ 60 (by rw [a3]) _ a3'
  have HAd : Hid (∀ W g n, GOf w.heap.size W g n kG2 → w.heap.size ≤ W.heap.size → n ≤ 1000 → Calls Tryz.prog 7 #[.pointer (some ⟨g, 0, none⟩), .agg #[.int .i64 4, .string ⟨#[97]⟩, .int .i64 2, .int .i64 0, .int .i64 5, .int .i64 0, .int .i64 0, .int .i64 0, .bool false]] W fun r w' => r = .returned (.int .i64 0) ∧ GOf w.heap.size w' g (n + 102) kG4 ∧ Below w.heap.size W w') := fun W g n h hB hn => h.apply hB xD (by omega) ⟨by decide, by decide⟩ 0 (by rw [a4]) _ rfl
  have HAe : Hid (∀ W g n, GOf w.heap.size W g n kG4 → w.heap.size ≤ W.heap.size → n ≤ 1000 → Calls Tryz.prog 7 #[.pointer (some ⟨g, 0, none⟩), .agg #[.int .i64 5, .string ⟨#[]⟩, .int .i64 0, .int .i64 0, .int .i64 0, .int .i64 0, .int .i64 0, .int .i64 10, .bool false]] W fun r w' => r = .returned (.int .i64 0) ∧ GOf w.heap.size w' g (n + 102) kG5 ∧ Below w.heap.size W w') := fun W g n h hB hn => h.apply hB xE (by omega) ⟨by decide, by decide⟩ 0 (by rw [a5]) _ rfl
  have HOf : Hid (∀ W g n, GOf w.heap.size W g n kG5 → Calls Tryz.prog 10 #[.pointer (some ⟨g, 0, none⟩), .int .i64 0] W fun r w' => r = .returned (.tuple #[.int .i64 5, .bool true]) ∧ w' = W) := fun W g n h => by
    obtain ⟨F, h1, -⟩ := h
    have h2 := Offset_any h1 0 (by omega)
    rw [v3] at h2
    exact h2
  have HGe : Hid (∀ W g n, GOf w.heap.size W g n kG5 → Calls Tryz.prog 11 #[.pointer (some ⟨g, 0, none⟩)] W fun r w' => r = .returned (.int .i64 3) ∧ w' = W) := fun W g n h => by
    obtain ⟨F, h1, -⟩ := h
    have h2 := Generation_any h1
    rw [v2] at h2
    exact h2
  have HSh : Hid (∀ W g n, GOf w.heap.size W g n kG5 → Calls Tryz.prog 9 #[.pointer (some ⟨g, 0, none⟩), .string ⟨#[98]⟩] W fun r w' => ∃ v, r = .returned v ∧ OwnK kZ w' W.heap.size v [0, 1, 2] ∧ Below W.heap.size W w') := fun W g n h => by
    obtain ⟨F, h1, -⟩ := h
    have h2 := Share_any h1 [98] (by decide)
    rw [v4] at h2
    exact h2
  have HMe : Hid (∀ W g n, GOf w.heap.size W g n kG5 → Calls Tryz.prog 8 #[.pointer (some ⟨g, 0, none⟩)] W fun r w' => ∃ v, r = .returned v ∧ OwnK kS w' W.heap.size v [[98]] ∧ Below W.heap.size W w') := fun W g n h => by
    obtain ⟨F, h1, -⟩ := h
    have h2 := Members_at h1
    rw [v1] at h2
    exact h2
  clear a1 a2 a3 a3' a4 a5 v1 v2 v3 v4
  go_enter Tryz.func6, Tryz.ntmps6
  go_wp2_with (first
    | (go_at_call 4; (with_reducible_and_instances (refine HN.out.mono ?_)); rintro r w1 ⟨F, g, rfl, h1, hb1, hF1⟩; have HB1 := hid hb1; have HA1 := hid (HA.out w1 g 0 ⟨F, h1, hF1⟩ hb1.size (by omega)); clear h1 hb1 hF1)
    | (go_at_call 5; (with_reducible_and_instances (refine (num15_any _ _).mono ?_)); rintro r w9 ⟨rfl, hw9⟩; obtain rfl := hw9.symm)
    | (go_at_call 7; (with_reducible_and_instances (refine HA1.out.mono ?_)); rintro r w2 ⟨rfl, h2, hb2⟩; have HB2 := hid (HB1.out.trans hb2); have HA2 := hid (HAb.out w2 g _ h2 HB2.out.size (by omega)); clear h2 hb2)
    | (go_at_call 7; (with_reducible_and_instances (refine HA2.out.mono ?_)); rintro r w3 ⟨rfl, h3, hb3⟩; have HB3 := hid (HB2.out.trans hb3); have HA3 := hid (HAc.out w3 g _ h3 HB3.out.size (by omega)); clear h3 hb3)
    | (go_at_call 7; (with_reducible_and_instances (refine HA3.out.mono ?_)); rintro r w4 ⟨rfl, h4, hb4⟩; have HB4 := hid (HB3.out.trans hb4); have HA4 := hid (HAd.out w4 g _ h4 HB4.out.size (by omega)); clear h4 hb4)
    | (go_at_call 7; (with_reducible_and_instances (refine HA4.out.mono ?_)); rintro r w5 ⟨rfl, h5, hb5⟩; have HB5 := hid (HB4.out.trans hb5); have HA5 := hid (HAe.out w5 g _ h5 HB5.out.size (by omega)); clear h5 hb5)
    | (go_at_call 7; (with_reducible_and_instances (refine HA5.out.mono ?_)); rintro r w6 ⟨rfl, h6, hb6⟩; have HB6 := hid (HB5.out.trans hb6); have HO6 := hid (HOf.out w6 g _ h6); have HG6 := hid (HGe.out w6 g _ h6); have HS6 := hid (HSh.out w6 g _ h6); have HK6 := hid h6; clear h6 hb6)
    | (go_at_call 10; (with_reducible_and_instances (refine HO6.out.mono ?_)); rintro r w9 ⟨rfl, hw9⟩; obtain rfl := hw9.symm)
    | (go_at_call 11; (with_reducible_and_instances (refine HG6.out.mono ?_)); rintro r w9 ⟨rfl, hw9⟩; obtain rfl := hw9.symm)
    | (go_at_call 9; (with_reducible_and_instances (refine HS6.out.mono ?_)); rintro r w7 ⟨v, rfl, hO7, hb7⟩; obtain ⟨sa, sc, hv, hI7⟩ := ints_kn w7 w7 hO7 (Below.refl _ _); subst hv; have HI7 := hid hI7; have HB7 := hid hb7; clear hO7 hb7 hI7)
    | (go_at_call 12; (with_reducible_and_instances (refine HI7.out.mono ?_)); rintro r w8 ⟨rfl, hb8⟩; have HB8 := hid (HB7.out.trans (hb8.mono HB7.out.size)); have HM8 := hid (HMe.out w8 g _ (HK6.out.later HB8.out)); clear hb8)
    | (go_at_call 8; (with_reducible_and_instances (refine HM8.out.mono ?_)); rintro r w10 ⟨v2, rfl, hO9, hb9⟩; obtain ⟨ta, tc, hv2, hT9⟩ := texts_kn w10 w10 hO9 (Below.refl _ _); subst hv2; have HT9 := hid hT9; have HB9 := hid (HB8.out.trans (hb9.mono HB8.out.size)); clear hO9 hb9 hT9)
    | (go_at_call 13; (with_reducible_and_instances (refine HT9.out.mono ?_)); rintro r w11 ⟨rfl, hb11⟩; have HB11 := hid (HB9.out.trans (hb11.mono HB9.out.size)); clear hb11))
  go_ret
  exact ⟨rfl, HB6.out.trans (HB11.out.mono HB6.out.size)⟩
end Go.Proofs.YtipgociofjokeaaGreat
