/- Sticky of package assign. -/
import Derived.Test.YtakpdhmfbgfblaaASteps
import Derived.Test.YtakpdhmfbgfblaaANames
namespace Go.Proofs.Ytakpdhmfbgfblaa
open Go.RowKit Go.Sort
variable {w w' : World} {ad : Option Addr} {m c : Nat} {l : List Nm} {A : List ShA} {P : List (List Int)} {oa : Option Addr} {om oc : Nat}

/-- The four steps, by their place. -/
def stickF (base : Nat) (ns : List Nm) (P : List (List Int)) : Nat → Stp Dk
  | 0 => fKeep base ns P
  | 1 => fOne base ns P
  | 2 => fFill base
  | _ => fLast base
/-- The partitions that Sticky gives, member by member. -/
def stickyP (ons : List Nm) (P : List (List Int)) (l : List Nm) (p : Nat) : List (List Int) := (stepsN (stickF (p / l.length) (risN l) (hadN ons P (allP p) (risN l)).2) (risN l) ((allP p, p % l.length), List.replicate l.length []) 4).2.map risZ
theorem sticky_deal {w1 w2 w3 w5 : World} {D b M : Nat} {H : List ShA} {p : Nat} (hA : ArgK kS w l ad m c) (hm : m ≤ 1000) (hnl : ∀ s ∈ l, s.length ≤ 64) (hnd : (risN l).Nodup) (hp : p ≤ 32) (hw1 : Below w.heap.size w w1) (hD : D = w1.heap.size) (hd : DeckP w2 D b (allP p)) (hbD : D ≤ b) (hb2 : b < w2.heap.size) (hw2 : Below w1.heap.size w1 w2)
    (hM : w2.heap.size ≤ M) (hM3 : M < w3.heap.size) (hmap : MapF w3 9 M m (hdF H)) (hH : H.map (·.1) = risN l) (hrows : ∀ i, i < H.length → OwnK kZ w3 w2.heap.size (H.getD i sh0).2.v ((hadN (A.map (·.1)) P (allP p) (risN l)).2.getD i [])) (hw3 : Below w2.heap.size w2 w3)
    (hw5 : Below (w3.heap.size + 1 + 1) ((w3.alloc (.cells #[.pointer (some ⟨D, 0, none⟩)] 43)).alloc (.cells #[.map (some M)] TMp)) w5) (q : Nat) (hq : q = p / m) (r : Nat) (hr : r = if m = 0 then 0 else p % m) (f1 f2 f3 f4 : Value)
    (hf1 : f1 = .func (.func 17) #[] #[.pointer (some ⟨w3.heap.size + 1, 0, none⟩), .pointer (some ⟨w3.heap.size, 0, none⟩), .pointer (some ⟨w5.heap.size, 0, none⟩)])
    (hf2 : f2 = .func (.func 19) #[] #[.pointer (some ⟨w3.heap.size + 1, 0, none⟩), .pointer (some ⟨w5.heap.size, 0, none⟩), .pointer (some ⟨w5.heap.size + 1, 0, none⟩), .pointer (some ⟨w3.heap.size, 0, none⟩)])
    (hf3 : f3 = .func (.func 20) #[] #[.pointer (some ⟨w3.heap.size, 0, none⟩), .pointer (some ⟨w5.heap.size, 0, none⟩)])
    (hf4 : f4 = .func (.func 22) #[] #[.pointer (some ⟨w3.heap.size, 0, none⟩), .pointer (some ⟨w5.heap.size, 0, none⟩)]) :
    Calls Try.prog 23 #[.slice ad m c, .slice (some ⟨w5.heap.size + 1 + 1, 0, none⟩) 4 4] (((w5.alloc (.cells #[.int .i64 (q : Int)] 3)).alloc (.cells #[.int .i64 (r : Int)] 3)).alloc (.cells #[f1, f2, f3, f4] 74)) fun e w' => ∃ v A', e = .returned v ∧ Shs w' w.heap.size v A' (stickyP (A.map (·.1)) P l p) ∧ A'.map (·.1) = risN l ∧ Below w.heap.size w w' := by
  obtain ⟨V1, hV1⟩ : ∃ V1, w3.alloc (.cells #[.pointer (some ⟨D, 0, none⟩)] 43) = V1 := ⟨_, rfl⟩
  rw [hV1] at hw5
  have t1 : V1.heap.size = w3.heap.size + 1 := by rw [← hV1]; simp
  have b3 : Below w3.heap.size w3 V1 := by rw [← hV1]; exact (Below.refl _ _).alloc (Nat.le_refl _) _
  have xf : Blk V1 w3.heap.size #[.pointer (some ⟨D, 0, none⟩)] 43 := by rw [← hV1]; exact heap_alloc_new w3 _
  obtain ⟨V2, hV2⟩ : ∃ V2, V1.alloc (.cells #[.map (some M)] TMp) = V2 := ⟨_, rfl⟩
  rw [hV2] at hw5
  have t2 : V2.heap.size = w3.heap.size + 1 + 1 := by rw [← hV2, ← t1]; simp
  have b4 : Below V1.heap.size V1 V2 := by rw [← hV2]; exact (Below.refl _ _).alloc (Nat.le_refl _) _
  have xh : Blk V2 (w3.heap.size + 1) #[.map (some M)] TMp := by rw [← hV2, ← t1]; exact heap_alloc_new V1 _
  have b5 : Below V2.heap.size V2 w5 := by rw [t2]; exact hw5
  obtain ⟨W5, hW5⟩ : ∃ W5, w5.alloc (.cells #[.int .i64 (q : Int)] 3) = W5 := ⟨_, rfl⟩
  have s5 : W5.heap.size = w5.heap.size + 1 := by rw [← hW5]; simp
  have b45 : Below w5.heap.size w5 W5 := by rw [← hW5]; exact (Below.refl _ _).alloc (Nat.le_refl _) _
  have xb : Blk W5 w5.heap.size #[.int .i64 (q : Int)] 3 := by rw [← hW5]; exact heap_alloc_new w5 _
  rw [hW5]
  obtain ⟨W6, hW6⟩ : ∃ W6, W5.alloc (.cells #[.int .i64 (r : Int)] 3) = W6 := ⟨_, rfl⟩
  have s6 : W6.heap.size = w5.heap.size + 1 + 1 := by rw [← hW6, ← s5]; simp
  have b56 : Below W5.heap.size W5 W6 := by rw [← hW6]; exact (Below.refl _ _).alloc (Nat.le_refl _) _
  have xr : Blk W6 (w5.heap.size + 1) #[.int .i64 (r : Int)] 3 := by rw [← hW6, ← s5]; exact heap_alloc_new W5 _
  rw [hW6]
  obtain ⟨W7, hW7⟩ : ∃ W7, W6.alloc (.cells #[f1, f2, f3, f4] 74) = W7 := ⟨_, rfl⟩
  have s7 : W7.heap.size = w5.heap.size + 1 + 1 + 1 := by rw [← hW7, ← s6]; simp
  have b67 : Below W6.heap.size W6 W7 := by rw [← hW7]; exact (Below.refl _ _).alloc (Nat.le_refl _) _
  have xs : Blk W7 (w5.heap.size + 1 + 1) #[f1, f2, f3, f4] 74 := by rw [← hW7, ← s6]; exact heap_alloc_new W6 _
  rw [hW7]
  have z1 := hw1.size
  have z2 := hw2.size
  have z3 := hw3.size
  have z4 := b5.size
  have b57 : Below W5.heap.size W5 W7 := b56.trans (b67.mono b56.size)
  have b47 : Below w5.heap.size w5 W7 := b45.trans (b57.mono b45.size)
  have bV2 : Below V2.heap.size V2 W7 := b5.trans (b47.mono z4)
  have bV1 : Below V1.heap.size V1 W7 := b4.trans (bV2.mono b4.size)
  have b37 : Below w3.heap.size w3 W7 := b3.trans (bV1.mono b3.size)
  have b27 : Below w2.heap.size w2 W7 := hw3.trans (b37.mono z3)
  have b17 : Below w1.heap.size w1 W7 := hw2.trans (b27.mono z2)
  have b07 : Below w.heap.size w W7 := hw1.trans (b17.mono z1)
  let pl : Pl := ⟨D, b, w3.heap.size, w5.heap.size, w5.heap.size + 1⟩
  have hpl : pl.ok W7.heap.size := ⟨by show D < _; omega, by show b < _; omega, by show w3.heap.size < _; omega, by show w5.heap.size < _; omega, by show w5.heap.size + 1 < _; omega, by show w3.heap.size ≠ D; omega, by show w3.heap.size ≠ b; omega, by show w5.heap.size ≠ D; omega, by show w5.heap.size ≠ b; omega, by show w5.heap.size + 1 ≠ D; omega, by show w5.heap.size + 1 ≠ b; omega, by show w5.heap.size + 1 ≠ w3.heap.size; omega, by show w5.heap.size + 1 ≠ w5.heap.size; omega⟩
  have hrs : r ≤ 1048576 := by rw [hr]; split; omega; exact Nat.le_trans (Nat.mod_le _ _) (by omega)
  obtain ⟨HP, hHP⟩ : ∃ HP, (hadN (A.map (·.1)) P (allP p) (risN l)).2 = HP := ⟨_, rfl⟩
  have hl := hA.len
  have hHl : H.length = m := by have := congrArg List.length hH; rw [List.length_map, risN_len, hl] at this; exact this
  have hPl : HP.length = m := by rw [← hHP, (hadN_inv _ P p _).2.2, risN_len, hl]
  rw [hHP] at hrows
  have hO : HadO pl (w3.heap.size + 1) M w2.heap.size W7.heap.size H := ⟨by rw [hH]; exact hnd, by omega, by omega, ⟨by show w3.heap.size + 1 ≠ D; omega, by show w3.heap.size + 1 ≠ b; omega, by show w3.heap.size + 1 ≠ w5.heap.size + 1; omega⟩, ⟨by show M ≠ D; omega, by show M ≠ b; omega, by show M ≠ w5.heap.size + 1; omega⟩, fun i g hi hg => by
    obtain ⟨h1, h2, -⟩ := (hrows i hi).block g hg
    exact ⟨by omega, by show g ≠ D; omega, by show g ≠ b; omega, by show g ≠ w5.heap.size + 1; omega⟩⟩
  have hI : SInv pl q (w3.heap.size + 1) M w2.heap.size H HP (allP p, r) W7 := ⟨⟨xf.later bV1, xb.later b57, xr.later b67, hd.later b27, allP_rise p, by rw [allP_len]; exact hp, hrs⟩, ⟨xh.later bV2, (hmap.mono hm).keep (b37.block _ hM3), by omega, fun i hi => (hrows i hi).later b37⟩, hpl.lb⟩
  have hq2 : q ≤ 1048576 := by rw [hq]; exact Nat.le_trans (Nat.div_le_self _ _) (by omega)
  let gfs : Nat → Nat := fun j => match j with | 0 => 17 | 1 => 19 | 2 => 20 | _ => 22
  let lbs : Nat → Array Value := fun j => match j with | 0 => #[.pointer (some ⟨w3.heap.size + 1, 0, none⟩), .pointer (some ⟨w3.heap.size, 0, none⟩), .pointer (some ⟨w5.heap.size, 0, none⟩)] | 1 => #[.pointer (some ⟨w3.heap.size + 1, 0, none⟩), .pointer (some ⟨w5.heap.size, 0, none⟩), .pointer (some ⟨w5.heap.size + 1, 0, none⟩), .pointer (some ⟨w3.heap.size, 0, none⟩)] | _ => #[.pointer (some ⟨w3.heap.size, 0, none⟩), .pointer (some ⟨w5.heap.size, 0, none⟩)]
  have hsteps : ∀ j, j < 4 → StepL (stickF q (H.map (·.1)) HP j) (gfs j) (lbs j) pl.F (SInv pl q (w3.heap.size + 1) M w2.heap.size H HP) := fun j hj => by
    rcases (show j = 0 ∨ j = 1 ∨ j = 2 ∨ j = 3 by omega) with rfl | rfl | rfl | rfl
    · exact step1 pl q _ M _ _ H HP hpl hO
    · exact step2 pl q _ M _ _ H HP hpl hO hq2
    · exact step3 pl q _ M _ _ H HP hpl hO hq2
    · exact step4 pl q _ M _ _ H HP hpl hO hq2
  have hDl := deal_any (w := W7) (hA.later b07) hm hnl (stickF q (H.map (·.1)) HP) 4 (by omega) gfs lbs (w5.heap.size + 1 + 1) (by omega)
    (fun j hj => by
      rcases (show j = 0 ∨ j = 1 ∨ j = 2 ∨ j = 3 by omega) with rfl | rfl | rfl | rfl
      · rw [xs.cell 0, hf1]; rfl
      · rw [xs.cell 1, hf2]; rfl
      · rw [xs.cell 2, hf3]; rfl
      · rw [xs.cell 3, hf4]; rfl) pl.F (fun g hg => by simp [Pl.F] at hg; rcases hg with rfl | rfl | rfl; exact hpl.lD; exact hpl.lb; exact hpl.lr) (by simp [Pl.F, pl]; omega) (SInv pl q (w3.heap.size + 1) M w2.heap.size H HP) (fun s W W' G h hc hG => h.keep hpl hO hc hG) hsteps (allP p, r) hI
  refine hDl.mono ?_
  rintro e w' ⟨v, A', rfl, hS, hN, -, hC⟩
  refine ⟨v, A', rfl, ?_, hN, b07.trans (hC.below (fun k hk => ?_) b07.size)⟩
  · have hS2 := hS.mono b07.size
    have e : (stepsN (stickF q (H.map (·.1)) HP) (risN l) ((allP p, r), List.replicate m []) 4).2.map risZ = stickyP (A.map (·.1)) P l p := by
      unfold stickyP
      rw [hl, ← hq, hHP, hH]
      by_cases h0 : m = 0
      · have hz : risN l = [] := no_member (by omega)
        rw [hz, h0]
        rfl
      · rw [hr, if_neg h0]
    rw [e] at hS2
    exact hS2
  · simp [Pl.F] at hk
    rcases hk with hk | hk | hk
    · have hk' : k = D := hk
      omega
    · have hk' : k = b := hk
      omega
    · have hk' : k = w5.heap.size + 1 := hk
      omega
set_option maxHeartbeats 1000000 in
theorem sticky_any (ho : OldA w A P oa om oc) (h : ArgK kS w l ad m c) (p : Int) (hp : -9223372036854775808 ≤ p ∧ p ≤ 9223372036854775807) : Calls Try.prog 6 #[.slice oa om oc, .slice ad m c, .int .i64 p] w fun e w' => AnsP w (mayN l p) (risN l) (stickyP (A.map (·.1)) P l p.toNat) e w' := by
  have HM := hid (may_any h p)
  cases hmy : mayN l p with
  | false =>
    rw [hmy] at HM
    clear h hmy ho
    go_enter Try.func6, Try.ntmps6
    go_wp2_with (go_at_call 13; (with_reducible_and_instances (refine HM.out.mono ?_)); rintro e w1 ⟨rfl, hb⟩; have HB := hid hb; clear hb)
    refine bodyPost_ret (results_tmp2 Try.results6 _ _ _) rfl ⟨?_, HB.out⟩
    rfl
  | true =>
    rw [hmy] at HM
    obtain ⟨h1, h2, h3⟩ := may_bounds hmy
    obtain ⟨n, rfl⟩ : ∃ n : Nat, p = (n : Int) := ⟨p.toNat, by omega⟩
    have hl := h.len
    have hm : m ≤ 1000 := by omega
    have hn : n ≤ 32 := by omega
    rw [Int.toNat_natCast]
    have HR := hid (fun (w1 w2 w3 w5 : World) (b M : Nat) (H : List ShA) (a1 : Below w.heap.size w w1) (a2 : DeckP w2 w1.heap.size b (allP n)) (a3 : w1.heap.size ≤ b) (a4 : b < w2.heap.size) (a5 : Below w1.heap.size w1 w2) (c1 : w2.heap.size ≤ M) (c2 : M < w3.heap.size) (c3 : MapF w3 9 M m (hdF H)) (c4 : H.map (·.1) = risN l) (c5 : ∀ i, i < H.length → OwnK kZ w3 w2.heap.size (H.getD i sh0).2.v ((hadN (A.map (·.1)) P (allP n) (risN l)).2.getD i [])) (c6 : Below w2.heap.size w2 w3) (a6 : Below (w3.heap.size + 1 + 1) ((w3.alloc (.cells #[.pointer (some ⟨w1.heap.size, 0, none⟩)] 43)).alloc (.cells #[.map (some M)] TMp)) w5) (r : Nat) (a7 : r = if m = 0 then 0 else n % m) => sticky_deal (D := w1.heap.size) (p := n) h hm (may_names hmy) (may_nodup hmy) hn a1 rfl a2 a3 a4 a5 c1 c2 c3 c4 c5 c6 a6 (n / m) rfl r a7 _ _ _ _ rfl rfl rfl rfl)
    have HWh : Hid (∀ W, Below w.heap.size w W → Calls Try.prog 15 #[.slice oa om oc, .slice ad m c, .int .i64 (n : Int)] W fun e w' => WhPost W A P (risN l) m n e w') := fun W hb => whoHad_any (ho.later hb) (h.later hb) hm (may_names hmy) n hn
    have hmf : ∀ (fn : Fn) (first cap : Array Value) (w : World), (Instr.makeFunc fn first cap).run Try.prog w = .ok (.func fn first cap) w := fun _ _ _ _ => rfl
    obtain ⟨r, hr⟩ : ∃ r : Nat, r = if m = 0 then 0 else n % m := ⟨_, rfl⟩
    have hr2 : (if m = 0 then (0 : Int) else ((n % m : Nat) : Int)) = (r : Int) := by rw [hr]; split <;> rfl
    have HRr := hid hr
    have hql : n / m ≤ 1048576 := Nat.le_trans (Nat.div_le_self _ _) (by omega)
    have HSp : Hid (∀ W, Calls Try.prog 16 #[.int .i64 (n : Int), .int .i64 (m : Int)] W fun e w' => e = .returned (.tuple #[.int .i64 ((n / m : Nat) : Int), .int .i64 (r : Int)]) ∧ Below W.heap.size W w') := fun W => by rw [← hr2]; exact split_any n m (by omega) (by omega) W
    clear h hmy h1 hl hr hr2 hp ho
    generalize n / m = q at *
    go_enter Try.func6, Try.ntmps6
    go_wp2_with (first
      | (go_at_call 13; (with_reducible_and_instances (refine HM.out.mono ?_)); rintro e w1 ⟨rfl, hb⟩; have HB := hid hb; have HPa := hid (parts_any n (by omega) w1); clear hb)
      | (go_at_call 14; (with_reducible_and_instances (refine HPa.out.mono ?_)); rintro e w2 ⟨b, rfl, a2, a3, a4, a5⟩; have HA2 := hid a2; have HA3 := hid a3; have HA4 := hid a4; have HA5 := hid a5; have HW2 := hid (HWh.out w2 (HB.out.trans (a5.mono HB.out.size))); clear a2 a3 a4 a5)
      | (go_at_call 15; (with_reducible_and_instances (refine HW2.out.mono ?_)); rintro e w3 ⟨M, H, rfl, c1, c2, c3, c4, c5, c6⟩; have HC1 := hid c1; have HC2 := hid c2; have HC3 := hid c3; have HC4 := hid c4; have HC5 := hid c5; have HC6 := hid c6; clear c1 c2 c3 c4 c5 c6)
      | (go_at_call 16; (with_reducible_and_instances (refine (HSp.out _).mono ?_)); rintro e w5 ⟨rfl, hb5⟩; have HB5 : Hid (Below (w3.heap.size + 1 + 1) ((w3.alloc (.cells #[.pointer (some ⟨w1.heap.size, 0, none⟩)] 43)).alloc (.cells #[.map (some M)] TMp)) w5) := (by have h := hb5; rw [World.size_alloc, World.size_alloc] at h; exact h); have HDl := hid (HR.out w1 w2 w3 w5 b M H HB.out HA2.out HA3.out HA4.out HA5.out HC1.out HC2.out HC3.out HC4.out HC5.out HC6.out HB5.out r HRr.out); clear hb5)
      | (go_at_call 23; (with_reducible_and_instances (refine HDl.out.mono ?_)); rintro e w6 ⟨v, A', rfl, hS, hN, hb⟩; have HS := hid hS; have HN := hid hN; have HB6 := hid hb; clear hS hN hb))
    refine bodyPost_ret (results_tmp2 Try.results6 _ _ _) rfl ⟨?_, HB6.out⟩
    exact ⟨v, A', rfl, HS.out, HN.out⟩
end Go.Proofs.Ytakpdhmfbgfblaa
