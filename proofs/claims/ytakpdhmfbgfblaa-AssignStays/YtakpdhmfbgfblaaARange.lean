/- Range of package assign. -/
import Derived.Test.YtakpdhmfbgfblaaARange0
namespace Go.Proofs.Ytakpdhmfbgfblaa
open Go.RowKit Go.Sort
variable {w w' : World} {ad : Option Addr} {m c : Nat} {l : List Nm}

theorem enters_range1 : ∀ args w, (callFunc 29 args).run Try.prog w = .ok (.enter 29 args) w := fun _ _ => by kernel_rfl
set_option maxHeartbeats 1000000 in
theorem range1_step (p : Pl) (base N : Nat) (hp : p.ok N) (hb : base ≤ 1048576) : StepL (fRange base) 29 #[.pointer (some ⟨p.rb, 0, none⟩), .pointer (some ⟨p.fb, 0, none⟩), .pointer (some ⟨p.bb, 0, none⟩)] p.F (RInv p base) := by
  refine ⟨enters_range1, fun s W nm ad m c h _ hm => ⟨?_, ?_⟩⟩
  · unfold fRange
    have := h.len
    split
    · exact Nat.le_trans (drawN_len _ _) (by omega)
    · exact Nat.le_trans (drawN_len _ _) (by show s.1.length ≤ _; omega)
  · obtain ⟨W1, hW1⟩ : ∃ W1, W.alloc (.cells #[.string (nmS nm), .slice ad m c] 35) = W1 := ⟨_, rfl⟩
    have hb1 : Below W.heap.size W W1 := by rw [← hW1]; exact (Below.refl _ _).alloc (Nat.le_refl _) _
    have h1 := h.later hb1
    have c0 := h1.free.cell 0
    have c1 := h1.bas.cell 0
    have c2 := h1.rst.cell 0
    have f2 := h1.rst.free 0
    simp only [List.getElem?_toArray, List.getElem?_cons_zero] at c0 c1 c2
    obtain ⟨dk, r⟩ := s
    have hs : r ≤ 1048576 := h.small
    have HB1 := hid hb1
    show Calls Try.prog 29 #[.agg #[.string (nmS nm), .slice ad m c], .pointer (some ⟨p.rb, 0, none⟩), .pointer (some ⟨p.fb, 0, none⟩), .pointer (some ⟨p.bb, 0, none⟩)] W _
    by_cases h0 : r = 0
    · have HV : Hid (fRange base (dk, r) nm m = drawN base (dk, r)) := by unfold fRange; rw [if_pos h0]; exact rfl
      have HD := hid (draw_inv h1 hp (base : Int))
      rw [HV.out]
      subst h0
      clear h h1 hb1 HV
      generalize nmS nm = ns at *
      go_enter Try.func29, Try.ntmps29
      go_wp2_with (go_at_call 21; (with_reducible_and_instances (refine HD.out.mono ?_)); rintro e W2 ⟨v, rfl, hO, hI, hc⟩; have HO := hid hO; have HI := hid hI; have HC := hid hc; clear hO hI hc)
      go_ret
      exact ⟨v, rfl, HO.out.mono HB1.out.size, HI.out, (Chg.of HB1.out).trans HC.out (fun k hk => Or.inl hk)⟩
    · have HV : Hid (fRange base (dk, r) nm m = drawN ((base : Int) + 1) (dk, r - 1)) := by unfold fRange; rw [if_neg h0]; exact rfl
      obtain ⟨h2, hc2⟩ := h1.rest hp (r := r - 1) (by omega)
      rw [show ((r - 1 : Nat) : Int) = (r : Int) - 1 by omega] at h2 hc2
      have HD := hid (draw_inv h2 hp ((base : Int) + 1))
      have HC2 := hid hc2
      have c3 := h2.free.cell 0
      have c4 := h2.bas.cell 0
      simp only [List.getElem?_toArray, List.getElem?_cons_zero] at c3 c4
      have hz : ((r : Int) == 0) = false := by simp; omega
      rw [HV.out]
      clear h h1 h2 hc2 hb1 HV h0
      generalize nmS nm = ns at *
      go_enter Try.func29, Try.ntmps29
      go_wp2_with (go_at_call 21; (with_reducible_and_instances (refine HD.out.mono ?_)); rintro e W2 ⟨v, rfl, hO, hI, hc⟩; have HO := hid hO; have HI := hid hI; have HC := hid hc; clear hO hI hc)
      go_ret
      exact ⟨v, rfl, HO.out.mono (by have h := HB1.out.size; simp [World.setCell]; exact h), HI.out, ((Chg.of HB1.out).trans HC2.out (fun k hk => Or.inl hk)).trans HC.out (fun k hk => Or.inl hk)⟩
/-- The world at the dealing: boxes of base and rest, and the steps. -/
theorem range_deal {w1 w2 w4 : World} {D b : Nat} {p : Nat} (hA : ArgK kS w l ad m c) (hm : m ≤ 1000) (hnl : ∀ s ∈ l, s.length ≤ 64) (hp : p ≤ 32) (hw1 : Below w.heap.size w w1) (hD : D = w1.heap.size) (hd : DeckP w2 D b (allP p)) (hbD : D ≤ b) (hb2 : b < w2.heap.size) (hw2 : Below w1.heap.size w1 w2)
    (hw4 : Below (w2.heap.size + 1) (w2.alloc (.cells #[.pointer (some ⟨D, 0, none⟩)] 43)) w4) (q : Nat) (hq : q = p / m) (r : Nat) (hr : r = if m = 0 then 0 else p % m) (fv : Value)
    (hfv : fv = .func (.func 29) #[] #[.pointer (some ⟨w4.heap.size + 1, 0, none⟩), .pointer (some ⟨w2.heap.size, 0, none⟩), .pointer (some ⟨w4.heap.size, 0, none⟩)]) :
    Calls Try.prog 23 #[.slice ad m c, .slice (some ⟨w4.heap.size + 1 + 1, 0, none⟩) 1 1] (((w4.alloc (.cells #[.int .i64 (q : Int)] 3)).alloc (.cells #[.int .i64 (r : Int)] 3)).alloc (.cells #[fv] 74)) fun e w' => ∃ v A, e = .returned v ∧ Shs w' w.heap.size v A (rangeP l p) ∧ A.map (·.1) = risN l ∧ Below w.heap.size w w' := by
  obtain ⟨W3, hW3⟩ : ∃ W3, w2.alloc (.cells #[.pointer (some ⟨D, 0, none⟩)] 43) = W3 := ⟨_, rfl⟩
  rw [hW3] at hw4
  have s3 : W3.heap.size = w2.heap.size + 1 := by rw [← hW3]; simp
  have b23 : Below w2.heap.size w2 W3 := by rw [← hW3]; exact (Below.refl _ _).alloc (Nat.le_refl _) _
  have xf : Blk W3 w2.heap.size #[.pointer (some ⟨D, 0, none⟩)] 43 := by rw [← hW3]; exact heap_alloc_new w2 _
  have b34 : Below W3.heap.size W3 w4 := by rw [s3]; exact hw4
  obtain ⟨W5, hW5⟩ : ∃ W5, w4.alloc (.cells #[.int .i64 (q : Int)] 3) = W5 := ⟨_, rfl⟩
  have s5 : W5.heap.size = w4.heap.size + 1 := by rw [← hW5]; simp
  have b45 : Below w4.heap.size w4 W5 := by rw [← hW5]; exact (Below.refl _ _).alloc (Nat.le_refl _) _
  have xb : Blk W5 w4.heap.size #[.int .i64 (q : Int)] 3 := by rw [← hW5]; exact heap_alloc_new w4 _
  rw [hW5]
  obtain ⟨W6, hW6⟩ : ∃ W6, W5.alloc (.cells #[.int .i64 (r : Int)] 3) = W6 := ⟨_, rfl⟩
  have s6 : W6.heap.size = w4.heap.size + 1 + 1 := by rw [← hW6, ← s5]; simp
  have b56 : Below W5.heap.size W5 W6 := by rw [← hW6]; exact (Below.refl _ _).alloc (Nat.le_refl _) _
  have xr : Blk W6 (w4.heap.size + 1) #[.int .i64 (r : Int)] 3 := by rw [← hW6, ← s5]; exact heap_alloc_new W5 _
  rw [hW6]
  obtain ⟨W7, hW7⟩ : ∃ W7, W6.alloc (.cells #[fv] 74) = W7 := ⟨_, rfl⟩
  have s7 : W7.heap.size = w4.heap.size + 1 + 1 + 1 := by rw [← hW7, ← s6]; simp
  have b67 : Below W6.heap.size W6 W7 := by rw [← hW7]; exact (Below.refl _ _).alloc (Nat.le_refl _) _
  have xs : Blk W7 (w4.heap.size + 1 + 1) #[fv] 74 := by rw [← hW7, ← s6]; exact heap_alloc_new W6 _
  rw [hW7]
  have z1 := hw1.size
  have z2 := hw2.size
  have z3 := b23.size
  have z4 := b34.size
  have b35 : Below W3.heap.size W3 W5 := b34.trans (b45.mono z4)
  have b36 : Below W3.heap.size W3 W6 := b35.trans (b56.mono b35.size)
  have b37 : Below W3.heap.size W3 W7 := b36.trans (b67.mono b36.size)
  have b57 : Below W5.heap.size W5 W7 := b56.trans (b67.mono b56.size)
  have b27 : Below w2.heap.size w2 W7 := b23.trans (b37.mono z3)
  have b17 : Below w1.heap.size w1 W7 := hw2.trans (b27.mono z2)
  have b07 : Below w.heap.size w W7 := hw1.trans (b17.mono z1)
  let pl : Pl := ⟨D, b, w2.heap.size, w4.heap.size, w4.heap.size + 1⟩
  have hDl : D < w2.heap.size := by obtain ⟨v, hb, _⟩ := hd; exact hb.lt
  have hpl : pl.ok W7.heap.size := ⟨by show D < _; omega, by show b < _; omega, by show w2.heap.size < _; omega, by show w4.heap.size < _; omega, by show w4.heap.size + 1 < _; omega, by show w2.heap.size ≠ D; omega, by show w2.heap.size ≠ b; omega, by show w4.heap.size ≠ D; omega, by show w4.heap.size ≠ b; omega, by show w4.heap.size + 1 ≠ D; omega, by show w4.heap.size + 1 ≠ b; omega, by show w4.heap.size + 1 ≠ w2.heap.size; omega, by show w4.heap.size + 1 ≠ w4.heap.size; omega⟩
  have hrs : r ≤ 1048576 := by rw [hr]; split; omega; exact Nat.le_trans (Nat.mod_le _ _) (by omega)
  have hI : RInv pl q (allP p, r) W7 := ⟨xf.later b37, xb.later b57, xr.later b67, hd.later b27, allP_rise p, by rw [allP_len]; exact hp, hrs⟩
  have hq2 : q ≤ 1048576 := by rw [hq]; exact Nat.le_trans (Nat.div_le_self _ _) (by omega)
  have hl := hA.len
  have hD := deal_any (w := W7) (hA.later b07) hm hnl (fun _ => fRange q) 1 (by omega) (fun _ => 29) (fun _ => #[.pointer (some ⟨w4.heap.size + 1, 0, none⟩), .pointer (some ⟨w2.heap.size, 0, none⟩), .pointer (some ⟨w4.heap.size, 0, none⟩)]) (w4.heap.size + 1 + 1) (by omega)
    (fun j hj => by obtain rfl : j = 0 := by omega
                    rw [xs.cell 0, hfv]; rfl) pl.F (fun g hg => by simp [Pl.F] at hg; rcases hg with rfl | rfl | rfl; exact hpl.lD; exact hpl.lb; exact hpl.lr) (by simp [Pl.F, pl]; omega) (RInv pl q) (fun s W W' G h hc hG => h.keep hpl hc hG) (fun j _ => range1_step pl q W7.heap.size hpl hq2) (allP p, r) hI
  refine hD.mono ?_
  rintro e w' ⟨v, A, rfl, hS, hN, -, hC⟩
  refine ⟨v, A, rfl, ?_, hN, b07.trans (hC.below (fun k hk => ?_) b07.size)⟩
  · have hS2 := hS.mono b07.size
    have e : (stepsN (fun _ => fRange q) (risN l) ((allP p, r), List.replicate m []) 1).2.map risZ = rangeP l p := by
      unfold rangeP
      rw [hl, ← hq]
      by_cases h0 : m = 0
      · have hz : risN l = [] := no_member (by omega)
        rw [hz, h0]
        rfl
      · rw [hr, if_neg h0]
    rw [e] at hS2
    exact hS2
  · simp [Pl.F] at hk
    rcases hk with hk | hk | hk
    · have hk' : k = D := hk
      omega
    · have hk' : k = b := hk
      omega
    · have hk' : k = w4.heap.size + 1 := hk
      omega
set_option maxHeartbeats 1000000 in
theorem range_any (h : ArgK kS w l ad m c) (p : Int) (hp : -9223372036854775808 ≤ p ∧ p ≤ 9223372036854775807) : Calls Try.prog 11 #[.slice ad m c, .int .i64 p] w fun e w' => AnsP w (mayN l p) (risN l) (rangeP l p.toNat) e w' := by
  have HM := hid (may_any h p)
  cases hmy : mayN l p with
  | false =>
    rw [hmy] at HM
    clear h hmy
    go_enter Try.func11, Try.ntmps11
    go_wp2_with (go_at_call 13; (with_reducible_and_instances (refine HM.out.mono ?_)); rintro e w1 ⟨rfl, hb⟩; have HB := hid hb; clear hb)
    refine bodyPost_ret (results_tmp2 Try.results11 _ _ _) rfl ⟨?_, HB.out⟩
    rfl
  | true =>
    rw [hmy] at HM
    obtain ⟨h1, h2, h3⟩ := may_bounds hmy
    obtain ⟨n, rfl⟩ : ∃ n : Nat, p = (n : Int) := ⟨p.toNat, by omega⟩
    have hl := h.len
    have hm : m ≤ 1000 := by omega
    have hn : n ≤ 32 := by omega
    rw [Int.toNat_natCast]
    have HR := hid (fun (w1 w2 w4 : World) (b : Nat) (a1 : Below w.heap.size w w1) (a2 : DeckP w2 w1.heap.size b (allP n)) (a3 : w1.heap.size ≤ b) (a4 : b < w2.heap.size) (a5 : Below w1.heap.size w1 w2) (a6 : Below (w2.heap.size + 1) (w2.alloc (.cells #[.pointer (some ⟨w1.heap.size, 0, none⟩)] 43)) w4) (r : Nat) (a7 : r = if m = 0 then 0 else n % m) => range_deal (D := w1.heap.size) (p := n) h hm (may_names hmy) hn a1 rfl a2 a3 a4 a5 a6 (n / m) rfl r a7 _ rfl)
    have hmf : ∀ (fn : Fn) (first cap : Array Value) (w : World), (Instr.makeFunc fn first cap).run Try.prog w = .ok (.func fn first cap) w := fun _ _ _ _ => rfl
    obtain ⟨r, hr⟩ : ∃ r : Nat, r = if m = 0 then 0 else n % m := ⟨_, rfl⟩
    have hr2 : (if m = 0 then (0 : Int) else ((n % m : Nat) : Int)) = (r : Int) := by rw [hr]; split <;> rfl
    have HRr := hid hr
    have hql : n / m ≤ 1048576 := Nat.le_trans (Nat.div_le_self _ _) (by omega)
    have HSp : Hid (∀ W, Calls Try.prog 16 #[.int .i64 (n : Int), .int .i64 (m : Int)] W fun e w' => e = .returned (.tuple #[.int .i64 ((n / m : Nat) : Int), .int .i64 (r : Int)]) ∧ Below W.heap.size W w') := fun W => by rw [← hr2]; exact split_any n m (by omega) (by omega) W
    clear h hmy h1 hl hr hr2 hp
    generalize n / m = q at *
    go_enter Try.func11, Try.ntmps11
    go_wp2_with (first
      | (go_at_call 13; (with_reducible_and_instances (refine HM.out.mono ?_)); rintro e w1 ⟨rfl, hb⟩; have HB := hid hb; have HPa := hid (parts_any n (by omega) w1); clear hb)
      | (go_at_call 14; (with_reducible_and_instances (refine HPa.out.mono ?_)); rintro e w2 ⟨b, rfl, a2, a3, a4, a5⟩; have HA2 := hid a2; have HA3 := hid a3; have HA4 := hid a4; have HA5 := hid a5; clear a2 a3 a4 a5)
      | (go_at_call 16; (with_reducible_and_instances (refine (HSp.out _).mono ?_)); rintro e w4 ⟨rfl, hb4⟩; have HB4 : Hid (Below (w2.heap.size + 1) (w2.alloc (.cells #[.pointer (some ⟨w1.heap.size, 0, none⟩)] 43)) w4) := (by have h := hb4; rw [World.size_alloc] at h; exact h); have HDl := hid (HR.out w1 w2 w4 b HB.out HA2.out HA3.out HA4.out HA5.out HB4.out r HRr.out); clear hb4)
      | (go_at_call 23; (with_reducible_and_instances (refine HDl.out.mono ?_)); rintro e w5 ⟨v, A, rfl, hS, hN, hb⟩; have HS := hid hS; have HN := hid hN; have HB5 := hid hb; clear hS hN hb))
    refine bodyPost_ret (results_tmp2 Try.results11 _ _ _) rfl ⟨?_, HB5.out⟩
    exact ⟨v, A, rfl, HS.out, HN.out⟩
end Go.Proofs.Ytakpdhmfbgfblaa
