/- Names that may be: rising, no two alike. Sticky of package assign. P1405 over plain data: what Range and Sticky give covers all partitions, evenly. -/
import Derived.Test.YtipgociofjokeaaGreatPGXA2
import Derived.Test.YtipgociofjokeaaGreatPGXA3
namespace Go.Proofs.YtipgociofjokeaaGreat
open Go.RowKit Go.Sort Go.Lib
variable {l : List Nm}

theorem nm_trans {a b c : Nm} (h1 : a ≤ b) (h2 : b ≤ c) : a ≤ c := List.le_trans h1 h2
theorem nm_total (a b : Nm) : a ≤ b ∨ b ≤ a := List.le_total a b
theorem nm_anti {a b : Nm} (h1 : a ≤ b) (h2 : b ≤ a) : a = b := List.le_antisymm h1 h2
theorem risN_sorted (l : List Nm) : (risN l).Pairwise (· ≤ ·) := by
  have h := List.pairwise_mergeSort (le := fun x y : Nm => decide (x ≤ y)) (fun a b c h1 h2 => by simp only [decide_eq_true_eq] at *; exact nm_trans h1 h2) (fun a b => by simp only [Bool.or_eq_true, decide_eq_true_eq]; exact nm_total a b) l
  exact h.imp (fun h => by simpa using h)
theorem risZ_sorted (l : List Int) : (risZ l).Pairwise (· ≤ ·) := by
  have h := List.pairwise_mergeSort (le := fun x y : Int => decide (x ≤ y)) (fun a b c h1 h2 => by simp only [decide_eq_true_eq] at *; omega) (fun a b => by simp only [Bool.or_eq_true, decide_eq_true_eq]; omega) l
  exact h.imp (fun h => by simpa using h)
theorem compact_keeps {s : List Nm} (h : (compact s).length = s.length) : ∀ j, 0 < j → j < s.length → s.getD j [] ≠ s.getD (j - 1) [] := by
  intro j h0 hj
  unfold compact compactUpTo at h
  rw [List.length_map] at h
  have hf : ((List.range s.length).filter (keeps s.toArray)) = List.range s.length := by
    refine (List.filter_sublist).eq_of_length ?_
    rw [h, List.length_range]
  have hk := List.filter_eq_self.1 hf j (by simpa using hj)
  unfold keeps at hk
  simp only [decide_eq_true_eq] at hk
  rcases hk with hk | hk
  · omega
  · intro e
    apply hk
    have e1 : s.toArray[j]! = s.getD j [] := by simp [List.getD_eq_getElem?_getD, hj]
    have e2 : s.toArray[j - 1]! = s.getD (j - 1) [] := by
      have : j - 1 < s.length := by omega
      simp [List.getD_eq_getElem?_getD, this]
    rw [e1, e2]
    exact e
theorem getD_at {α : Type} (l : List α) (z : α) (i : Nat) (h : i < l.length) : l.getD i z = l[i] := by rw [List.getD_eq_getElem?_getD, List.getElem?_eq_getElem h]; rfl
theorem sorted_nodup {s : List Nm} (hs : s.Pairwise (· ≤ ·)) (h : (compact s).length = s.length) : s.Nodup := by
  have hk := compact_keeps h
  unfold List.Nodup
  rw [List.pairwise_iff_getElem] at hs ⊢
  intro i j hi hj hij e
  have h1 := hk j (by omega) hj
  rw [getD_at _ _ _ hj, getD_at _ _ _ (show j - 1 < s.length by omega)] at h1
  apply h1
  have h2 : s[j - 1] ≤ s[j] := hs (j - 1) j (by omega) hj (by omega)
  refine nm_anti ?_ h2
  by_cases e2 : i = j - 1
  · subst e2; rw [e]; exact List.le_refl _
  · rw [← e]; exact hs i (j - 1) hi (by omega) (by omega)
theorem may_nodup {p : Int} (h : mayN l p = true) : (risN l).Nodup := by
  refine sorted_nodup (risN_sorted l) ?_
  unfold mayN at h
  simp only [Bool.and_eq_true] at h
  have := h.2.2
  rw [risN_len]
  simpa using this
end Go.Proofs.YtipgociofjokeaaGreat
namespace Go.Proofs.YtipgociofjokeaaGreat
open Go.RowKit Go.Sort
variable {w w' : World} {ad : Option Addr} {m c : Nat} {l : List Nm} {A : List ShA} {P : List (List Int)} {oa : Option Addr} {om oc : Nat}

/-- The four steps, by their place. -/
def stickF (base : Nat) (ns : List Nm) (P : List (List Int)) : Nat → Stp Dk
  | 0 => fKeep base ns P
  | 1 => fOne base ns P
  | 2 => fFill base
  | _ => fLast base
/-- The partitions that Sticky gives, member by member. -/
def stickyP (ons : List Nm) (P : List (List Int)) (l : List Nm) (p : Nat) : List (List Int) := (stepsN (stickF (p / l.length) (risN l) (hadN ons P (allP p) (risN l)).2) (risN l) ((allP p, p % l.length), List.replicate l.length []) 4).2.map risZ
theorem sticky_deal {w1 w2 w3 w5 : World} {D b M : Nat} {H : List ShA} {p : Nat} (hA : ArgK kS w l ad m c) (hm : m ≤ 1000) (hnl : ∀ s ∈ l, s.length ≤ 64) (hnd : (risN l).Nodup) (hp : p ≤ 32) (hw1 : Below w.heap.size w w1) (hD : D = w1.heap.size) (hd : DeckP w2 D b (allP p)) (hbD : D ≤ b) (hb2 : b < w2.heap.size) (hw2 : Below w1.heap.size w1 w2)
    (hM : w2.heap.size ≤ M) (hM3 : M < w3.heap.size) (hmap : MapF w3 9 M m (hdF H)) (hH : H.map (·.1) = risN l) (hrows : ∀ i, i < H.length → OwnK kZ w3 w2.heap.size (H.getD i sh0).2.v ((hadN (A.map (·.1)) P (allP p) (risN l)).2.getD i [])) (hw3 : Below w2.heap.size w2 w3)
    (hw5 : Below (w3.heap.size + 1 + 1) ((w3.alloc (.cells #[.pointer (some ⟨D, 0, none⟩)] 104)).alloc (.cells #[.map (some M)] TMp)) w5) (q : Nat) (hq : q = p / m) (r : Nat) (hr : r = if m = 0 then 0 else p % m) (f1 f2 f3 f4 : Value)
    (hf1 : f1 = .func (.func 76) #[] #[.pointer (some ⟨w3.heap.size + 1, 0, none⟩), .pointer (some ⟨w3.heap.size, 0, none⟩), .pointer (some ⟨w5.heap.size, 0, none⟩)])
    (hf2 : f2 = .func (.func 78) #[] #[.pointer (some ⟨w3.heap.size + 1, 0, none⟩), .pointer (some ⟨w5.heap.size, 0, none⟩), .pointer (some ⟨w5.heap.size + 1, 0, none⟩), .pointer (some ⟨w3.heap.size, 0, none⟩)])
    (hf3 : f3 = .func (.func 79) #[] #[.pointer (some ⟨w3.heap.size, 0, none⟩), .pointer (some ⟨w5.heap.size, 0, none⟩)])
    (hf4 : f4 = .func (.func 81) #[] #[.pointer (some ⟨w3.heap.size, 0, none⟩), .pointer (some ⟨w5.heap.size, 0, none⟩)]) :
    Calls Tryz.prog 82 #[.slice ad m c, .slice (some ⟨w5.heap.size + 1 + 1, 0, none⟩) 4 4] (((w5.alloc (.cells #[.int .i64 (q : Int)] 3)).alloc (.cells #[.int .i64 (r : Int)] 3)).alloc (.cells #[f1, f2, f3, f4] 131)) fun e w' => ∃ v A', e = .returned v ∧ Shs w' w.heap.size v A' (stickyP (A.map (·.1)) P l p) ∧ A'.map (·.1) = risN l ∧ Below w.heap.size w w' := by
  obtain ⟨V1, hV1⟩ : ∃ V1, w3.alloc (.cells #[.pointer (some ⟨D, 0, none⟩)] 104) = V1 := ⟨_, rfl⟩
  rw [hV1] at hw5
  have t1 : V1.heap.size = w3.heap.size + 1 := by rw [← hV1]; simp
  have b3 : Below w3.heap.size w3 V1 := by rw [← hV1]; exact (Below.refl _ _).alloc (Nat.le_refl _) _
  have xf : Blk V1 w3.heap.size #[.pointer (some ⟨D, 0, none⟩)] 104 := by rw [← hV1]; exact heap_alloc_new w3 _
  obtain ⟨V2, hV2⟩ : ∃ V2, V1.alloc (.cells #[.map (some M)] TMp) = V2 := ⟨_, rfl⟩
  rw [hV2] at hw5
  have t2 : V2.heap.size = w3.heap.size + 1 + 1 := by rw [← hV2, ← t1]; simp
  have b4 : Below V1.heap.size V1 V2 := by rw [← hV2]; exact (Below.refl _ _).alloc (Nat.le_refl _) _
  have xh : Blk V2 (w3.heap.size + 1) #[.map (some M)] TMp := by rw [← hV2, ← t1]; exact heap_alloc_new V1 _
  have b5 : Below V2.heap.size V2 w5 := by rw [t2]; exact hw5
  obtain ⟨W5, hW5⟩ : ∃ W5, w5.alloc (.cells #[.int .i64 (q : Int)] 3) = W5 := ⟨_, rfl⟩
  have s5 : W5.heap.size = w5.heap.size + 1 := by rw [← hW5]; simp
  have b45 : Below w5.heap.size w5 W5 := by rw [← hW5]; exact (Below.refl _ _).alloc (Nat.le_refl _) _
  have xb : Blk W5 w5.heap.size #[.int .i64 (q : Int)] 3 := by rw [← hW5]; exact heap_alloc_new w5 _
  rw [hW5]
  obtain ⟨W6, hW6⟩ : ∃ W6, W5.alloc (.cells #[.int .i64 (r : Int)] 3) = W6 := ⟨_, rfl⟩
  have s6 : W6.heap.size = w5.heap.size + 1 + 1 := by rw [← hW6, ← s5]; simp
  have b56 : Below W5.heap.size W5 W6 := by rw [← hW6]; exact (Below.refl _ _).alloc (Nat.le_refl _) _
  have xr : Blk W6 (w5.heap.size + 1) #[.int .i64 (r : Int)] 3 := by rw [← hW6, ← s5]; exact heap_alloc_new W5 _
  rw [hW6]
  obtain ⟨W7, hW7⟩ : ∃ W7, W6.alloc (.cells #[f1, f2, f3, f4] 131) = W7 := ⟨_, rfl⟩
  have s7 : W7.heap.size = w5.heap.size + 1 + 1 + 1 := by rw [← hW7, ← s6]; simp
  have b67 : Below W6.heap.size W6 W7 := by rw [← hW7]; exact (Below.refl _ _).alloc (Nat.le_refl _) _
  have xs : Blk W7 (w5.heap.size + 1 + 1) #[f1, f2, f3, f4] 131 := by rw [← hW7, ← s6]; exact heap_alloc_new W6 _
  rw [hW7]
  have z1 := hw1.size
  have z2 := hw2.size
  have z3 := hw3.size
  have z4 := b5.size
  have b57 : Below W5.heap.size W5 W7 := b56.trans (b67.mono b56.size)
  have b47 : Below w5.heap.size w5 W7 := b45.trans (b57.mono b45.size)
  have bV2 : Below V2.heap.size V2 W7 := b5.trans (b47.mono z4)
  have bV1 : Below V1.heap.size V1 W7 := b4.trans (bV2.mono b4.size)
  have b37 : Below w3.heap.size w3 W7 := b3.trans (bV1.mono b3.size)
  have b27 : Below w2.heap.size w2 W7 := hw3.trans (b37.mono z3)
  have b17 : Below w1.heap.size w1 W7 := hw2.trans (b27.mono z2)
  have b07 : Below w.heap.size w W7 := hw1.trans (b17.mono z1)
  let pl : Pl := ⟨D, b, w3.heap.size, w5.heap.size, w5.heap.size + 1⟩
  have hpl : pl.ok W7.heap.size := ⟨by show D < _; omega, by show b < _; omega, by show w3.heap.size < _; omega, by show w5.heap.size < _; omega, by show w5.heap.size + 1 < _; omega, by show w3.heap.size ≠ D; omega, by show w3.heap.size ≠ b; omega, by show w5.heap.size ≠ D; omega, by show w5.heap.size ≠ b; omega, by show w5.heap.size + 1 ≠ D; omega, by show w5.heap.size + 1 ≠ b; omega, by show w5.heap.size + 1 ≠ w3.heap.size; omega, by show w5.heap.size + 1 ≠ w5.heap.size; omega⟩
  have hrs : r ≤ 1048576 := by rw [hr]; split; omega; exact Nat.le_trans (Nat.mod_le _ _) (by omega)
  obtain ⟨HP, hHP⟩ : ∃ HP, (hadN (A.map (·.1)) P (allP p) (risN l)).2 = HP := ⟨_, rfl⟩
  have hl := hA.len
  have hHl : H.length = m := by have := congrArg List.length hH; rw [List.length_map, risN_len, hl] at this; exact this
  have hPl : HP.length = m := by rw [← hHP, (hadN_inv _ P p _).2.2, risN_len, hl]
  rw [hHP] at hrows
  have hO : HadO pl (w3.heap.size + 1) M w2.heap.size W7.heap.size H := ⟨by rw [hH]; exact hnd, by omega, by omega, ⟨by show w3.heap.size + 1 ≠ D; omega, by show w3.heap.size + 1 ≠ b; omega, by show w3.heap.size + 1 ≠ w5.heap.size + 1; omega⟩, ⟨by show M ≠ D; omega, by show M ≠ b; omega, by show M ≠ w5.heap.size + 1; omega⟩, fun i g hi hg => by
    obtain ⟨h1, h2, -⟩ := (hrows i hi).block g hg
    exact ⟨by omega, by show g ≠ D; omega, by show g ≠ b; omega, by show g ≠ w5.heap.size + 1; omega⟩⟩
  have hI : SInv pl q (w3.heap.size + 1) M w2.heap.size H HP (allP p, r) W7 := ⟨⟨xf.later bV1, xb.later b57, xr.later b67, hd.later b27, allP_rise p, by rw [allP_len]; exact hp, hrs⟩, ⟨xh.later bV2, (hmap.mono hm).keep (b37.block _ hM3), by omega, fun i hi => (hrows i hi).later b37⟩, hpl.lb⟩
  have hq2 : q ≤ 1048576 := by rw [hq]; exact Nat.le_trans (Nat.div_le_self _ _) (by omega)
  let gfs : Nat → Nat := fun j => match j with | 0 => 76 | 1 => 78 | 2 => 79 | _ => 81
  let lbs : Nat → Array Value := fun j => match j with | 0 => #[.pointer (some ⟨w3.heap.size + 1, 0, none⟩), .pointer (some ⟨w3.heap.size, 0, none⟩), .pointer (some ⟨w5.heap.size, 0, none⟩)] | 1 => #[.pointer (some ⟨w3.heap.size + 1, 0, none⟩), .pointer (some ⟨w5.heap.size, 0, none⟩), .pointer (some ⟨w5.heap.size + 1, 0, none⟩), .pointer (some ⟨w3.heap.size, 0, none⟩)] | _ => #[.pointer (some ⟨w3.heap.size, 0, none⟩), .pointer (some ⟨w5.heap.size, 0, none⟩)]
  have hsteps : ∀ j, j < 4 → StepL (stickF q (H.map (·.1)) HP j) (gfs j) (lbs j) pl.F (SInv pl q (w3.heap.size + 1) M w2.heap.size H HP) := fun j hj => by
    rcases (show j = 0 ∨ j = 1 ∨ j = 2 ∨ j = 3 by omega) with rfl | rfl | rfl | rfl
    · exact step1 pl q _ M _ _ H HP hpl hO
    · exact step2 pl q _ M _ _ H HP hpl hO hq2
    · exact step3 pl q _ M _ _ H HP hpl hO hq2
    · exact step4 pl q _ M _ _ H HP hpl hO hq2
  have hDl := deal_any (w := W7) (hA.later b07) hm hnl (stickF q (H.map (·.1)) HP) 4 (by omega) gfs lbs (w5.heap.size + 1 + 1) (by omega)
    (fun j hj => by
      rcases (show j = 0 ∨ j = 1 ∨ j = 2 ∨ j = 3 by omega) with rfl | rfl | rfl | rfl
      · rw [xs.cell 0, hf1]; rfl
      · rw [xs.cell 1, hf2]; rfl
      · rw [xs.cell 2, hf3]; rfl
      · rw [xs.cell 3, hf4]; rfl) pl.F (fun g hg => by simp [Pl.F] at hg; rcases hg with rfl | rfl | rfl; exact hpl.lD; exact hpl.lb; exact hpl.lr) (by simp [Pl.F, pl]; omega) (SInv pl q (w3.heap.size + 1) M w2.heap.size H HP) (fun s W W' G h hc hG => h.keep hpl hO hc hG) hsteps (allP p, r) hI
  refine hDl.mono ?_
  rintro e w' ⟨v, A', rfl, hS, hN, -, hC⟩
  refine ⟨v, A', rfl, ?_, hN, b07.trans (hC.below (fun k hk => ?_) b07.size)⟩
  · have hS2 := hS.mono b07.size
    have e : (stepsN (stickF q (H.map (·.1)) HP) (risN l) ((allP p, r), List.replicate m []) 4).2.map risZ = stickyP (A.map (·.1)) P l p := by
      unfold stickyP
      rw [hl, ← hq, hHP, hH]
      by_cases h0 : m = 0
      · have hz : risN l = [] := no_member (by omega)
        rw [hz, h0]
        rfl
      · rw [hr, if_neg h0]
    rw [e] at hS2
    exact hS2
  · simp [Pl.F] at hk
    rcases hk with hk | hk | hk
    · have hk' : k = D := hk
      omega
    · have hk' : k = b := hk
      omega
    · have hk' : k = w5.heap.size + 1 := hk
      omega
set_option maxHeartbeats 1000000 in
theorem sticky_any (ho : OldA w A P oa om oc) (h : ArgK kS w l ad m c) (p : Int) (hp : -9223372036854775808 ≤ p ∧ p ≤ 9223372036854775807) : Calls Tryz.prog 57 #[.slice oa om oc, .slice ad m c, .int .i64 p] w fun e w' => AnsP w (mayN l p) (risN l) (stickyP (A.map (·.1)) P l p.toNat) e w' := by
  have HM := hid (may_any h p)
  cases hmy : mayN l p with
  | false =>
    rw [hmy] at HM
    clear h hmy ho
    go_enter Tryz.func57, Tryz.ntmps57
    go_wp2_with (go_at_call 72; (with_reducible_and_instances (refine HM.out.mono ?_)); rintro e w1 ⟨rfl, hb⟩; have HB := hid hb; clear hb)
    refine bodyPost_ret (results_tmp2 Tryz.results57 _ _ _) rfl ⟨?_, HB.out⟩
    rfl
  | true =>
    rw [hmy] at HM
    obtain ⟨h1, h2, h3⟩ := may_bounds hmy
    obtain ⟨n, rfl⟩ : ∃ n : Nat, p = (n : Int) := ⟨p.toNat, by omega⟩
    have hl := h.len
    have hm : m ≤ 1000 := by omega
    have hn : n ≤ 32 := by omega
    rw [Int.toNat_natCast]
    have HR := hid (fun (w1 w2 w3 w5 : World) (b M : Nat) (H : List ShA) (a1 : Below w.heap.size w w1) (a2 : DeckP w2 w1.heap.size b (allP n)) (a3 : w1.heap.size ≤ b) (a4 : b < w2.heap.size) (a5 : Below w1.heap.size w1 w2) (c1 : w2.heap.size ≤ M) (c2 : M < w3.heap.size) (c3 : MapF w3 9 M m (hdF H)) (c4 : H.map (·.1) = risN l) (c5 : ∀ i, i < H.length → OwnK kZ w3 w2.heap.size (H.getD i sh0).2.v ((hadN (A.map (·.1)) P (allP n) (risN l)).2.getD i [])) (c6 : Below w2.heap.size w2 w3) (a6 : Below (w3.heap.size + 1 + 1) ((w3.alloc (.cells #[.pointer (some ⟨w1.heap.size, 0, none⟩)] 104)).alloc (.cells #[.map (some M)] TMp)) w5) (r : Nat) (a7 : r = if m = 0 then 0 else n % m) => sticky_deal (D := w1.heap.size) (p := n) h hm (may_names hmy) (may_nodup hmy) hn a1 rfl a2 a3 a4 a5 c1 c2 c3 c4 c5 c6 a6 (n / m) rfl r a7 _ _ _ _ rfl rfl rfl rfl)
    have HWh : Hid (∀ W, Below w.heap.size w W → Calls Tryz.prog 74 #[.slice oa om oc, .slice ad m c, .int .i64 (n : Int)] W fun e w' => WhPost W A P (risN l) m n e w') := fun W hb => whoHad_any (ho.later hb) (h.later hb) hm (may_names hmy) n hn
    have hmf : ∀ (fn : Fn) (first cap : Array Value) (w : World), (Instr.makeFunc fn first cap).run Tryz.prog w = .ok (.func fn first cap) w := fun _ _ _ _ => rfl
    obtain ⟨r, hr⟩ : ∃ r : Nat, r = if m = 0 then 0 else n % m := ⟨_, rfl⟩
    have hr2 : (if m = 0 then (0 : Int) else ((n % m : Nat) : Int)) = (r : Int) := by rw [hr]; split <;> rfl
    have HRr := hid hr
    have hql : n / m ≤ 1048576 := Nat.le_trans (Nat.div_le_self _ _) (by omega)
    have HSp : Hid (∀ W, Calls Tryz.prog 75 #[.int .i64 (n : Int), .int .i64 (m : Int)] W fun e w' => e = .returned (.tuple #[.int .i64 ((n / m : Nat) : Int), .int .i64 (r : Int)]) ∧ Below W.heap.size W w') := fun W => by rw [← hr2]; exact split_any n m (by omega) (by omega) W
    clear h hmy h1 hl hr hr2 hp ho
    generalize n / m = q at *
    go_enter Tryz.func57, Tryz.ntmps57
    go_wp2_with (first
      | (go_at_call 72; (with_reducible_and_instances (refine HM.out.mono ?_)); rintro e w1 ⟨rfl, hb⟩; have HB := hid hb; have HPa := hid (parts_any n (by omega) w1); clear hb)
      | (go_at_call 73; (with_reducible_and_instances (refine HPa.out.mono ?_)); rintro e w2 ⟨b, rfl, a2, a3, a4, a5⟩; have HA2 := hid a2; have HA3 := hid a3; have HA4 := hid a4; have HA5 := hid a5; have HW2 := hid (HWh.out w2 (HB.out.trans (a5.mono HB.out.size))); clear a2 a3 a4 a5)
      | (go_at_call 74; (with_reducible_and_instances (refine HW2.out.mono ?_)); rintro e w3 ⟨M, H, rfl, c1, c2, c3, c4, c5, c6⟩; have HC1 := hid c1; have HC2 := hid c2; have HC3 := hid c3; have HC4 := hid c4; have HC5 := hid c5; have HC6 := hid c6; clear c1 c2 c3 c4 c5 c6)
      | (go_at_call 75; (with_reducible_and_instances (refine (HSp.out _).mono ?_)); rintro e w5 ⟨rfl, hb5⟩; have HB5 : Hid (Below (w3.heap.size + 1 + 1) ((w3.alloc (.cells #[.pointer (some ⟨w1.heap.size, 0, none⟩)] 104)).alloc (.cells #[.map (some M)] TMp)) w5) := (by have h := hb5; rw [World.size_alloc, World.size_alloc] at h; exact h); have HDl := hid (HR.out w1 w2 w3 w5 b M H HB.out HA2.out HA3.out HA4.out HA5.out HC1.out HC2.out HC3.out HC4.out HC5.out HC6.out HB5.out r HRr.out); clear hb5)
      | (go_at_call 82; (with_reducible_and_instances (refine HDl.out.mono ?_)); rintro e w6 ⟨v, A', rfl, hS, hN, hb⟩; have HS := hid hS; have HN := hid hN; have HB6 := hid hb; clear hS hN hb))
    refine bodyPost_ret (results_tmp2 Tryz.results57 _ _ _) rfl ⟨?_, HB6.out⟩
    exact ⟨v, A', rfl, HS.out, HN.out⟩
end Go.Proofs.YtipgociofjokeaaGreat
namespace Go.Proofs.YtipgociofjokeaaGreat
open Go.RowKit

/-- A step with all members, one behind the other. -/
def runS (f : Stp Dk) : Dk → List Nm → List (List Int) → Dk × List (List Int)
  | s, nm :: ns, q :: P => ((runS f (f s nm q.length).2 ns P).1, (q ++ (f s nm q.length).1) :: (runS f (f s nm q.length).2 ns P).2)
  | s, _, P => (s, P)
theorem stp_succ (f : Stp Dk) (nm : Nm) (ns : List Nm) (s : Dk) (q : List Int) (P : List (List Int)) (i : Nat) : stp f (nm :: ns) (s, q :: P) (i + 1) = ((stp f ns (s, P) i).1, q :: (stp f ns (s, P) i).2) := by
  simp [stp]
theorem fold_succ (f : Stp Dk) (nm : Nm) (ns : List Nm) (q : List Int) : ∀ (is : List Nat) (s : Dk) (P : List (List Int)), (is.map (· + 1)).foldl (stp f (nm :: ns)) (s, q :: P) = ((is.foldl (stp f ns) (s, P)).1, q :: (is.foldl (stp f ns) (s, P)).2)
  | [], s, P => rfl
  | i :: is, s, P => by
    rw [List.map_cons, List.foldl_cons, stp_succ, List.foldl_cons]
    exact fold_succ f nm ns q is _ _
theorem allS_run (f : Stp Dk) : ∀ (ns : List Nm) (P : List (List Int)) (s : Dk), ns.length = P.length → allS f ns (s, P) ns.length = runS f s ns P
  | [], [], s, _ => rfl
  | nm :: ns, q :: P, s, h => by
    unfold allS
    rw [List.length_cons, List.range_succ_eq_map, List.foldl_cons]
    have e0 : stp f (nm :: ns) (s, q :: P) 0 = ((f s nm q.length).2, (q ++ (f s nm q.length).1) :: P) := by simp [stp]
    rw [e0, show List.map Nat.succ (List.range ns.length) = (List.range ns.length).map (· + 1) from rfl, fold_succ]
    have ih := allS_run f ns P (f s nm q.length).2 (by simpa using h)
    unfold allS at ih
    rw [ih]
    rfl
  | [], _ :: _, _, h => by simp at h
  | _ :: _, [], _, h => by simp at h
theorem runS_len (f : Stp Dk) : ∀ (ns : List Nm) (P : List (List Int)) (s : Dk), (runS f s ns P).2.length = P.length
  | [], _, _ => rfl
  | _ :: _, [], _ => rfl
  | nm :: ns, q :: P, s => by show (runS f _ ns P).2.length + 1 = _; rw [runS_len f ns P]; rfl
/-- Nothing is lost. -/
theorem runS_perm (f : Stp Dk) (hf : ∀ s nm m, ((f s nm m).1 ++ (f s nm m).2.1).Perm s.1) : ∀ (ns : List Nm) (P : List (List Int)) (s : Dk), ((runS f s ns P).2.flatten ++ (runS f s ns P).1.1).Perm (P.flatten ++ s.1)
  | [], _, _ => List.Perm.refl _
  | _ :: _, [], _ => List.Perm.refl _
  | nm :: ns, q :: P, s => by
    show (((q ++ (f s nm q.length).1) ++ (runS f (f s nm q.length).2 ns P).2.flatten) ++ (runS f (f s nm q.length).2 ns P).1.1).Perm ((q ++ P.flatten) ++ s.1)
    have ih := runS_perm f hf ns P (f s nm q.length).2
    have h := hf s nm q.length
    rw [List.append_assoc, List.append_assoc, List.append_assoc]
    refine List.Perm.append_left q ?_
    refine (List.Perm.append_left _ ih).trans ?_
    refine List.perm_append_comm_assoc _ _ _ |>.trans ?_
    exact List.Perm.append_left _ h
theorem erase_perm {z : Int} {xs : List Int} (h : z ∈ xs) : (z :: xs.erase z).Perm xs := (List.perm_cons_erase h).symm
theorem pickS_perm (s : List Int × List Int) (z : Int) : ((pickS s z).2 ++ (pickS s z).1).Perm (s.2 ++ s.1) := by
  unfold pickS
  by_cases h : s.1.contains z = true
  · rw [if_pos h]
    have hm : z ∈ s.1 := by simpa using h
    show ((s.2 ++ [z]) ++ s.1.erase z).Perm _
    rw [List.append_assoc]
    exact List.Perm.append_left _ (erase_perm hm)
  · rw [if_neg h]
theorem fold_perm (ws : List Int) (s : List Int × List Int) : ((ws.foldl pickS s).2 ++ (ws.foldl pickS s).1).Perm (s.2 ++ s.1) := by
  induction ws generalizing s with
  | nil => exact List.Perm.refl _
  | cons z ws ih => rw [List.foldl_cons]; exact (ih _).trans (pickS_perm s z)
theorem pickD_perm (ws : List Int) (s : Dk) : ((pickD ws s).1 ++ (pickD ws s).2.1).Perm s.1 := by
  have h := fold_perm ws (s.1, [])
  show (risZ (pickN s.1 ws).2 ++ (pickN s.1 ws).1).Perm s.1
  exact (List.Perm.append_right _ (risZ_perm _)).trans (by simpa [pickN] using h)
theorem pickS_few (s : List Int × List Int) (z : Int) : (pickS s z).2.length ≤ s.2.length + 1 := by
  unfold pickS; split <;> simp
theorem fold_few (ws : List Int) (s : List Int × List Int) : (ws.foldl pickS s).2.length ≤ s.2.length + ws.length := by
  induction ws generalizing s with
  | nil => simp
  | cons z ws ih => rw [List.foldl_cons, List.length_cons]; have := ih (pickS s z); have := pickS_few s z; omega
theorem pickD_few (ws : List Int) (s : Dk) : (pickD ws s).1.length ≤ ws.length := by
  show (risZ (pickN s.1 ws).2).length ≤ _
  rw [risZ_len]
  have := fold_few ws (s.1, [])
  simpa [pickN] using this
theorem drawN_perm (n : Int) (s : Dk) : ((drawN n s).1 ++ (drawN n s).2.1).Perm s.1 := by
  show (s.1.take _ ++ s.1.drop _).Perm s.1
  rw [List.take_append_drop]
theorem fKeep_perm (b : Nat) (ns : List Nm) (P : List (List Int)) (s : Dk) (nm : Nm) (m : Nat) : ((fKeep b ns P s nm m).1 ++ (fKeep b ns P s nm m).2.1).Perm s.1 := pickD_perm _ _
theorem fOne_perm (b : Nat) (ns : List Nm) (P : List (List Int)) (s : Dk) (nm : Nm) (m : Nat) : ((fOne b ns P s nm m).1 ++ (fOne b ns P s nm m).2.1).Perm s.1 := by
  unfold fOne; split
  · exact List.Perm.refl _
  · exact pickD_perm _ (s.1, s.2 - 1)
theorem fRange_perm (b : Nat) (s : Dk) (nm : Nm) (m : Nat) : ((fRange b s nm m).1 ++ (fRange b s nm m).2.1).Perm s.1 := by
  unfold fRange; split
  · exact drawN_perm _ _
  · exact drawN_perm _ (s.1, s.2 - 1)
/-- How many have more than base. -/
def overs (b : Nat) (P : List (List Int)) : Nat := P.countP (fun q => decide (b < q.length))
/-- How many lack to base. -/
def lacks (b : Nat) (P : List (List Int)) : Nat := (P.map (fun q => b - q.length)).sum
theorem keep_run (b : Nat) (hs : List Nm) (HP : List (List Int)) : ∀ (ns : List Nm) (P : List (List Int)) (s : Dk), (∀ q ∈ P, q = []) → (∀ q ∈ (runS (fKeep b hs HP) s ns P).2, q.length ≤ b) ∧ (runS (fKeep b hs HP) s ns P).1.2 = s.2
  | [], P, s, h => ⟨fun q hq => by rw [h q hq]; simp, rfl⟩
  | _ :: _, [], s, h => ⟨(fun q hq => by cases hq), rfl⟩
  | nm :: ns, q :: P, s, h => by
    obtain ⟨h1, h2⟩ := keep_run b hs HP ns P (fKeep b hs HP s nm q.length).2 (fun q hq => h q (List.mem_cons_of_mem _ hq))
    refine ⟨fun x hx => ?_, h2⟩
    rcases List.mem_cons.1 (show x ∈ (q ++ (fKeep b hs HP s nm q.length).1) :: _ from hx) with rfl | hx
    · rw [h q (by simp), List.nil_append]
      have := pickD_few ((lstd hs HP nm).take b) s
      rw [List.length_take] at this
      exact Nat.le_trans this (by omega)
    · exact h1 x hx
theorem one_run (b : Nat) (hs : List Nm) (HP : List (List Int)) : ∀ (ns : List Nm) (P : List (List Int)) (s : Dk), (∀ q ∈ P, q.length ≤ b) → (∀ q ∈ (runS (fOne b hs HP) s ns P).2, q.length ≤ b + 1) ∧ overs b (runS (fOne b hs HP) s ns P).2 + (runS (fOne b hs HP) s ns P).1.2 ≤ s.2
  | [], P, s, h => ⟨fun q hq => by have := h q hq; omega, by
      show overs b P + s.2 ≤ s.2
      have : overs b P = 0 := List.countP_eq_zero.2 (fun q hq => by have := h q hq; simp; omega)
      omega⟩
  | _ :: _, [], s, h => ⟨(fun q hq => by cases hq), by show 0 + s.2 ≤ s.2; omega⟩
  | nm :: ns, q :: P, s, h => by
    obtain ⟨h1, h2⟩ := one_run b hs HP ns P (fOne b hs HP s nm q.length).2 (fun q hq => h q (List.mem_cons_of_mem _ hq))
    have hq := h q (by simp)
    have hf : (fOne b hs HP s nm q.length).1.length ≤ 1 ∧ (fOne b hs HP s nm q.length).1.length + (fOne b hs HP s nm q.length).2.2 ≤ s.2 := by
      unfold fOne
      split
      · exact ⟨by simp, by simp⟩
      · rename_i hc
        have h3 := pickD_few (((lstd hs HP nm).drop b).take 1) (s.1, s.2 - 1)
        have h4 : (((lstd hs HP nm).drop b).take 1).length ≤ 1 := by rw [List.length_take]; omega
        have h5 : (pickD (((lstd hs HP nm).drop b).take 1) (s.1, s.2 - 1)).2.2 = s.2 - 1 := rfl
        exact ⟨by omega, by omega⟩
    refine ⟨fun x hx => ?_, ?_⟩
    · rcases List.mem_cons.1 (show x ∈ (q ++ (fOne b hs HP s nm q.length).1) :: _ from hx) with rfl | hx
      · rw [List.length_append]; omega
      · exact h1 x hx
    · show overs b ((q ++ (fOne b hs HP s nm q.length).1) :: (runS (fOne b hs HP) (fOne b hs HP s nm q.length).2 ns P).2) + (runS (fOne b hs HP) (fOne b hs HP s nm q.length).2 ns P).1.2 ≤ s.2
      have h6 : overs b ((q ++ (fOne b hs HP s nm q.length).1) :: (runS (fOne b hs HP) (fOne b hs HP s nm q.length).2 ns P).2) ≤ overs b (runS (fOne b hs HP) (fOne b hs HP s nm q.length).2 ns P).2 + (fOne b hs HP s nm q.length).1.length := by
        unfold overs
        rw [List.countP_cons]
        split
        · rename_i hc
          simp only [List.length_append, decide_eq_true_eq] at hc
          omega
        · omega
      omega
theorem fill_run (b : Nat) : ∀ (ns : List Nm) (P : List (List Int)) (s : Dk), ns.length = P.length → (∀ q ∈ P, q.length ≤ b + 1) → lacks b P ≤ s.1.length → (∀ q ∈ (runS (fFill b) s ns P).2, b ≤ q.length ∧ q.length ≤ b + 1) ∧ overs b (runS (fFill b) s ns P).2 = overs b P
  | [], [], s, _, _, _ => ⟨(fun q hq => by cases hq), rfl⟩
  | [], _ :: _, _, h, _, _ => by simp at h
  | _ :: _, [], _, h, _, _ => by simp at h
  | nm :: ns, q :: P, s, hl, h, hn => by
    have hq := h q (by simp)
    have hlk : lacks b (q :: P) = (b - q.length) + lacks b P := by simp [lacks]
    have hk : drawK ((b : Int) - (q.length : Int)) s.1.length = b - q.length := by unfold drawK; omega
    have hg : (fFill b s nm q.length).1.length = b - q.length := by
      show (s.1.take (drawK _ _)).length = _
      rw [hk, List.length_take]; omega
    have hd : (fFill b s nm q.length).2.1.length = s.1.length - (b - q.length) := by
      show (s.1.drop (drawK _ _)).length = _
      rw [hk, List.length_drop]
    obtain ⟨h1, h2⟩ := fill_run b ns P (fFill b s nm q.length).2 (by simpa using hl) (fun q hq => h q (List.mem_cons_of_mem _ hq)) (by omega)
    refine ⟨fun x hx => ?_, ?_⟩
    · rcases List.mem_cons.1 (show x ∈ (q ++ (fFill b s nm q.length).1) :: _ from hx) with rfl | hx
      · rw [List.length_append, hg]; omega
      · exact h1 x hx
    · show overs b ((q ++ (fFill b s nm q.length).1) :: (runS (fFill b) (fFill b s nm q.length).2 ns P).2) = _
      unfold overs at h2 ⊢
      rw [List.countP_cons, List.countP_cons, h2]
      congr 1
      have : (decide (b < (q ++ (fFill b s nm q.length).1).length)) = decide (b < q.length) := by
        rw [List.length_append, hg]
        by_cases e : b < q.length
        · simp [e]; omega
        · have : ¬ b < q.length + (b - q.length) := by omega
          simp [e, this]
      rw [this]
theorem last_run (b : Nat) : ∀ (ns : List Nm) (P : List (List Int)) (s : Dk), ns.length = P.length → (∀ q ∈ P, b ≤ q.length ∧ q.length ≤ b + 1) → s.1.length + overs b P ≤ P.length → (∀ q ∈ (runS (fLast b) s ns P).2, b ≤ q.length ∧ q.length ≤ b + 1) ∧ (runS (fLast b) s ns P).1.1 = []
  | [], [], s, _, _, h => ⟨(fun q hq => by cases hq), List.eq_nil_of_length_eq_zero (by show s.1.length = 0; simp [overs] at h; simp [h])⟩
  | [], _ :: _, _, h, _, _ => by simp at h
  | _ :: _, [], _, h, _, _ => by simp at h
  | nm :: ns, q :: P, s, hl, h, hn => by
    have hq := h q (by simp)
    have ho : overs b (q :: P) = overs b P + if b < q.length then 1 else 0 := by unfold overs; rw [List.countP_cons]; simp
    have hd : (fLast b s nm q.length).2.1.length = s.1.length - drawK ((b : Int) + 1 - (q.length : Int)) s.1.length := by
      show (s.1.drop (drawK _ _)).length = _
      rw [List.length_drop]
    have hg : (fLast b s nm q.length).1.length = drawK ((b : Int) + 1 - (q.length : Int)) s.1.length := by
      show (s.1.take (drawK _ _)).length = _
      rw [List.length_take]; unfold drawK; omega
    have hk : drawK ((b : Int) + 1 - (q.length : Int)) s.1.length = min (b + 1 - q.length) s.1.length := by unfold drawK; omega
    rw [ho, List.length_cons] at hn
    obtain ⟨h1, h2⟩ := last_run b ns P (fLast b s nm q.length).2 (by simpa using hl) (fun q hq => h q (List.mem_cons_of_mem _ hq)) (by
      rw [hd, hk]
      have hov : overs b P ≤ P.length := List.countP_le_length
      split at hn <;> omega)
    refine ⟨fun x hx => ?_, h2⟩
    rcases List.mem_cons.1 (show x ∈ (q ++ (fLast b s nm q.length).1) :: _ from hx) with rfl | hx
    · rw [List.length_append, hg, hk]; omega
    · exact h1 x hx
theorem lacks_le (b : Nat) : ∀ (P : List (List Int)), (∀ q ∈ P, q.length ≤ b + 1) → lacks b P + P.flatten.length ≤ P.length * b + overs b P
  | [], _ => by simp [lacks, overs]
  | q :: P, h => by
    have ih := lacks_le b P (fun q hq => h q (List.mem_cons_of_mem _ hq))
    have hq := h q (by simp)
    have e1 : lacks b (q :: P) = (b - q.length) + lacks b P := by simp [lacks]
    have e2 : (q :: P).flatten.length = q.length + P.flatten.length := by simp
    have e3 : overs b (q :: P) = overs b P + if b < q.length then 1 else 0 := by unfold overs; rw [List.countP_cons]; simp
    rw [e1, e2, e3, List.length_cons, Nat.add_mul]
    split <;> omega
theorem even_len (b : Nat) : ∀ (P : List (List Int)), (∀ q ∈ P, b ≤ q.length ∧ q.length ≤ b + 1) → P.flatten.length = P.length * b + overs b P
  | [], _ => by simp [overs]
  | q :: P, h => by
    have ih := even_len b P (fun q hq => h q (List.mem_cons_of_mem _ hq))
    have hq := h q (by simp)
    have e2 : (q :: P).flatten.length = q.length + P.flatten.length := by simp
    have e3 : overs b (q :: P) = overs b P + if b < q.length then 1 else 0 := by unfold overs; rw [List.countP_cons]; simp
    rw [e2, e3, List.length_cons, Nat.add_mul, ih]
    split <;> omega
/-- All partitions, once each, rising in each share, and no share has two more than another. -/
structure CovP (P : List (List Int)) (p : Nat) : Prop where
  perm : P.flatten.Perm (allP p)
  rise : ∀ q ∈ P, q.Pairwise (· < ·)
  even : ∃ b, ∀ q ∈ P, b ≤ q.length ∧ q.length ≤ b + 1
theorem flatten_ris : ∀ (P : List (List Int)), (P.map risZ).flatten.Perm P.flatten
  | [] => List.Perm.refl _
  | q :: P => by
    show (risZ q ++ (P.map risZ).flatten).Perm (q ++ P.flatten)
    exact (List.Perm.append_right _ (risZ_perm q)).trans (List.Perm.append_left _ (flatten_ris P))
theorem lt_of_le {l : List Int} (h1 : l.Pairwise (· ≤ ·)) (h2 : l.Nodup) : l.Pairwise (· < ·) :=
  (h1.and h2).imp (fun h => by have := h.1; have := h.2; omega)
theorem sub_flatten {P : List (List Int)} {q : List Int} (h : q ∈ P) : q.Sublist P.flatten := by
  induction P with
  | nil => cases h
  | cons x P ih =>
    rcases List.mem_cons.1 h with rfl | h
    · exact List.sublist_append_left _ _
    · exact (ih h).trans (List.sublist_append_right _ _)
theorem allP_nodup (p : Nat) : (allP p).Nodup := (allP_rise p).imp (fun h e => by omega)
theorem cov_ris {P : List (List Int)} {p b : Nat} (h : P.flatten.Perm (allP p)) (he : ∀ q ∈ P, b ≤ q.length ∧ q.length ≤ b + 1) : CovP (P.map risZ) p := by
  have hn : P.flatten.Nodup := h.nodup_iff.2 (allP_nodup p)
  refine ⟨(flatten_ris P).trans h, fun q hq => ?_, b, fun q hq => ?_⟩
  · obtain ⟨x, hx, rfl⟩ := List.mem_map.1 hq
    exact lt_of_le (risZ_sorted x) ((risZ_perm x).nodup_iff.2 (hn.sublist (sub_flatten hx)))
  · obtain ⟨x, hx, rfl⟩ := List.mem_map.1 hq
    rw [risZ_len]
    exact he x hx
theorem repl_nil (n : Nat) : ∀ q ∈ (List.replicate n [] : List (List Int)), q = [] := fun _ hq => (List.mem_replicate.1 hq).2
theorem repl_flat (n : Nat) : (List.replicate n [] : List (List Int)).flatten = [] := by induction n with
  | zero => rfl
  | succ n ih => rw [List.replicate_succ]; simp
/-- P1405 of Sticky. -/
theorem sticky_cov (ons : List Nm) (OP : List (List Int)) (l : List Nm) (p : Nat) (hl : l ≠ []) : CovP (stickyP ons OP l p) p := by
  unfold stickyP
  have hn : 0 < l.length := List.length_pos_iff.2 hl
  obtain ⟨n, hnn⟩ : ∃ n, l.length = n := ⟨_, rfl⟩
  obtain ⟨ns, hns⟩ : ∃ ns, risN l = ns := ⟨_, rfl⟩
  have hnl : ns.length = n := by rw [← hns, risN_len]; exact hnn
  rw [hnn, hns]
  rw [hnn] at hn
  obtain ⟨HP, hHP⟩ : ∃ HP, (hadN ons OP (allP p) ns).2 = HP := ⟨_, rfl⟩
  rw [hHP]
  obtain ⟨b, hb⟩ : ∃ b, p / n = b := ⟨_, rfl⟩
  obtain ⟨r, hr⟩ : ∃ r, p % n = r := ⟨_, rfl⟩
  have hrl : r < n := by rw [← hr]; exact Nat.mod_lt _ hn
  have hpe : p = n * b + r := by rw [← hb, ← hr]; exact (Nat.div_add_mod p n).symm
  rw [hb, hr]
  show CovP ((allS (fLast b) ns (allS (fFill b) ns (allS (fOne b ns HP) ns (allS (fKeep b ns HP) ns ((allP p, r), List.replicate n []) ns.length) ns.length) ns.length) ns.length).2.map risZ) p
  rw [allS_run (fKeep b ns HP) ns _ _ (by simp [hnl])]
  obtain ⟨⟨s1, P1⟩, e1⟩ : ∃ t, runS (fKeep b ns HP) (allP p, r) ns (List.replicate n []) = t := ⟨_, rfl⟩
  have k1 := keep_run b ns HP ns (List.replicate n []) (allP p, r) (repl_nil n)
  have m1 := runS_perm (fKeep b ns HP) (fKeep_perm b ns HP) ns (List.replicate n []) (allP p, r)
  have l1 := runS_len (fKeep b ns HP) ns (List.replicate n []) (allP p, r)
  rw [e1] at k1 m1 l1 ⊢
  rw [allS_run (fOne b ns HP) ns P1 s1 (by rw [hnl]; simpa using l1.symm)]
  obtain ⟨⟨s2, P2⟩, e2⟩ : ∃ t, runS (fOne b ns HP) s1 ns P1 = t := ⟨_, rfl⟩
  have k2 := one_run b ns HP ns P1 s1 k1.1
  have m2 := runS_perm (fOne b ns HP) (fOne_perm b ns HP) ns P1 s1
  have l2 := runS_len (fOne b ns HP) ns P1 s1
  rw [e2] at k2 m2 l2 ⊢
  rw [allS_run (fFill b) ns P2 s2 (by rw [hnl, l2]; simpa using l1.symm)]
  obtain ⟨⟨s3, P3⟩, e3⟩ : ∃ t, runS (fFill b) s2 ns P2 = t := ⟨_, rfl⟩
  have hP2 : P2.length = n := by rw [l2]; simpa using l1
  have t2 : (P2.flatten ++ s2.1).Perm (allP p) := m2.trans (m1.trans (by rw [repl_flat]; exact List.Perm.refl _))
  have c2 : P2.flatten.length + s2.1.length = p := by have := t2.length_eq; rw [List.length_append, allP_len] at this; exact this
  have hr1 : s1.2 = r := k1.2
  have w2 := lacks_le b P2 k2.1
  have k3 := fill_run b ns P2 s2 (by rw [hnl, hP2]) k2.1 (by rw [hP2] at w2; have := k2.2; simp only at this; omega)
  have m3 := runS_perm (fFill b) (fun s nm m => drawN_perm _ s) ns P2 s2
  have l3 := runS_len (fFill b) ns P2 s2
  rw [e3] at k3 m3 l3 ⊢
  rw [allS_run (fLast b) ns P3 s3 (by rw [hnl, l3, hP2])]
  obtain ⟨⟨s4, P4⟩, e4⟩ : ∃ t, runS (fLast b) s3 ns P3 = t := ⟨_, rfl⟩
  have hP3 : P3.length = n := by rw [l3]; exact hP2
  have t3 : (P3.flatten ++ s3.1).Perm (allP p) := m3.trans t2
  have c3 : P3.flatten.length + s3.1.length = p := by have := t3.length_eq; rw [List.length_append, allP_len] at this; exact this
  have w3 := even_len b P3 k3.1
  have k4 := last_run b ns P3 s3 (by rw [hnl, hP3]) k3.1 (by rw [hP3] at w3 ⊢; omega)
  have m4 := runS_perm (fLast b) (fun s nm m => drawN_perm _ s) ns P3 s3
  rw [e4] at k4 m4 ⊢
  refine cov_ris (b := b) ?_ k4.1
  have t4 := m4.trans t3
  rw [k4.2, List.append_nil] at t4
  exact t4
theorem range_run (b : Nat) : ∀ (ns : List Nm) (P : List (List Int)) (s : Dk), ns.length = P.length → (∀ q ∈ P, q = []) → s.2 ≤ ns.length → s.1.length = ns.length * b + s.2 → (∀ q ∈ (runS (fRange b) s ns P).2, b ≤ q.length ∧ q.length ≤ b + 1) ∧ (runS (fRange b) s ns P).1.1 = []
  | [], [], s, _, _, h1, h2 => ⟨(fun q hq => by cases hq), List.eq_nil_of_length_eq_zero (by show s.1.length = 0; simp at h1 h2; omega)⟩
  | [], _ :: _, _, h, _, _, _ => by simp at h
  | _ :: _, [], _, h, _, _, _ => by simp at h
  | nm :: ns, q :: P, s, hl, h, h1, h2 => by
    rw [List.length_cons] at h1 h2
    rw [Nat.add_mul, Nat.one_mul] at h2
    have hq : q = [] := h q (by simp)
    by_cases h0 : s.2 = 0
    · have hf : fRange b s nm q.length = drawN (b : Int) s := by unfold fRange; rw [if_pos h0]
      have hk : drawK (b : Int) s.1.length = b := by unfold drawK; omega
      have hg : (fRange b s nm q.length).1.length = b := by rw [hf]; show (s.1.take (drawK _ _)).length = _; rw [hk, List.length_take]; omega
      have hd : (fRange b s nm q.length).2.1.length = s.1.length - b := by rw [hf]; show (s.1.drop (drawK _ _)).length = _; rw [hk, List.length_drop]
      have hr : (fRange b s nm q.length).2.2 = s.2 := by rw [hf]; rfl
      obtain ⟨a1, a2⟩ := range_run b ns P (fRange b s nm q.length).2 (by simpa using hl) (fun q hq => h q (List.mem_cons_of_mem _ hq)) (by rw [hr]; omega) (by rw [hr, hd]; omega)
      refine ⟨fun x hx => ?_, a2⟩
      rcases List.mem_cons.1 (show x ∈ (q ++ (fRange b s nm q.length).1) :: _ from hx) with rfl | hx
      · rw [List.length_append, hg, hq]; simp
      · exact a1 x hx
    · have hf : fRange b s nm q.length = drawN ((b : Int) + 1) (s.1, s.2 - 1) := by unfold fRange; rw [if_neg h0]
      have hk : drawK ((b : Int) + 1) s.1.length = b + 1 := by unfold drawK; omega
      have hg : (fRange b s nm q.length).1.length = b + 1 := by rw [hf]; show (s.1.take (drawK _ _)).length = _; rw [hk, List.length_take]; omega
      have hd : (fRange b s nm q.length).2.1.length = s.1.length - (b + 1) := by rw [hf]; show (s.1.drop (drawK _ _)).length = _; rw [hk, List.length_drop]
      have hr : (fRange b s nm q.length).2.2 = s.2 - 1 := by rw [hf]; rfl
      obtain ⟨a1, a2⟩ := range_run b ns P (fRange b s nm q.length).2 (by simpa using hl) (fun q hq => h q (List.mem_cons_of_mem _ hq)) (by rw [hr]; omega) (by rw [hr, hd]; omega)
      refine ⟨fun x hx => ?_, a2⟩
      rcases List.mem_cons.1 (show x ∈ (q ++ (fRange b s nm q.length).1) :: _ from hx) with rfl | hx
      · rw [List.length_append, hg, hq]; simp
      · exact a1 x hx
/-- P1405 of Range. -/
theorem range_cov (l : List Nm) (p : Nat) (hl : l ≠ []) : CovP (rangeP l p) p := by
  unfold rangeP
  have hn : 0 < l.length := List.length_pos_iff.2 hl
  obtain ⟨n, hnn⟩ : ∃ n, l.length = n := ⟨_, rfl⟩
  obtain ⟨ns, hns⟩ : ∃ ns, risN l = ns := ⟨_, rfl⟩
  have hnl : ns.length = n := by rw [← hns, risN_len]; exact hnn
  rw [hnn, hns]
  rw [hnn] at hn
  show CovP ((allS (fRange (p / n)) ns ((allP p, p % n), List.replicate n []) ns.length).2.map risZ) p
  rw [allS_run (fRange (p / n)) ns _ _ (by simp [hnl])]
  have hrl : p % n < n := Nat.mod_lt _ hn
  have hpe : n * (p / n) + p % n = p := Nat.div_add_mod p n
  have k1 := range_run (p / n) ns (List.replicate n []) (allP p, p % n) (by simp [hnl]) (repl_nil n) (by rw [hnl]; exact Nat.le_of_lt hrl) (by show (allP p).length = _; rw [allP_len, hnl]; exact hpe.symm)
  have m1 := runS_perm (fRange (p / n)) (fRange_perm (p / n)) ns (List.replicate n []) (allP p, p % n)
  refine cov_ris (b := p / n) ?_ k1.1
  rw [k1.2, List.append_nil, repl_flat, List.nil_append] at m1
  exact m1
end Go.Proofs.YtipgociofjokeaaGreat
