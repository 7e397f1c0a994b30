/- Range of the document's package (by genrrange.py). -/
import Derived.Test.YtopbmopfahjhlaaARRight
namespace Go.Proofs.Ytopbmopfahjhlaa
open Go.RowKit Go.Sort Go.Lib
variable {w w' : World} {ad : Option Addr} {m c : Nat} {l : List Nm}

/-- How many partitions member i gets, from where on, and which. -/
def rgN (n m i : Nat) : Nat := n / m + (if i < n % m then 1 else 0)
def rgA (n m i : Nat) : Nat := i * (n / m) + min i (n % m)
def rowQ (a k : Nat) : List Int := (List.range k).map (fun j => (a : Int) + (j : Nat))
def rgP (n m i : Nat) : List (List Int) := (List.range i).map (fun j => rowQ (rgA n m j) (rgN n m j))
theorem rgA_succ (n m i : Nat) : rgA n m (i + 1) = rgA n m i + rgN n m i := by
  unfold rgA rgN
  rw [Nat.succ_mul]
  generalize i * (n / m) = a
  generalize n / m = q
  generalize n % m = r
  split <;> omega
theorem rgA_le (n m i : Nat) (hn : n ≤ 32) (hi : i ≤ 1000) : rgA n m i ≤ 33000 := by
  unfold rgA
  have h1 : n / m ≤ 32 := Nat.le_trans (Nat.div_le_self _ _) hn
  have h2 := Nat.mul_le_mul hi h1
  omega
theorem rowQ_len (a k : Nat) : (rowQ a k).length = k := by simp [rowQ]
theorem rowQ_succ (a k : Nat) : rowQ a (k + 1) = rowQ a k ++ [(a : Int) + (k : Int)] := by simp [rowQ, List.range_succ]
theorem rgP_succ (n m i : Nat) : rgP n m (i + 1) = rgP n m i ++ [rowQ (rgA n m i) (rgN n m i)] := by simp [rgP, List.range_succ]
theorem rgP_len (n m i : Nat) : (rgP n m i).length = i := by simp [rgP]
abbrev TR : TypeId := 54
theorem shareR_row (Y : World) (nm : Nm) (ns : ByteArray) (h : nmS nm = ns) (s : Sl) : RowK kR (Y.alloc (.cells #[.string ns, .slice s.ad s.m s.c] TR)) (some ⟨Y.heap.size, 0, none⟩) [(nm, s)] := by
  subst h
  refine Or.inr ⟨_, 0, rfl, by simp, fun i hi c hc => ?_⟩
  obtain rfl : i = 0 := by simp at hi; omega
  have hb : Blk (Y.alloc (.cells #[.string (nmS nm), .slice s.ad s.m s.c] TR)) Y.heap.size _ _ := heap_alloc_new Y _
  have : kR.sz = 2 := rfl
  rw [Nat.zero_mul, Nat.zero_add, hb.cell c]
  rcases (show c = 0 ∨ c = 1 by omega) with rfl | rfl <;> rfl
/-- The document's shares, made from base on. -/
structure ShR (w : World) (base : Nat) (v : Value) (A : List ShA) (P : List (List Int)) : Prop where
  row : OwnK kR w base v A
  len : A.length = P.length
  part : ∀ i, i < A.length → OwnK kZ w base (A.getD i sh0).2.v (P.getD i [])
theorem ShR.view {base : Nat} {v : Value} {A : List ShA} {P : List (List Int)} (h : ShR w base v A P) : ∃ a c, v = .slice a A.length c ∧ ShV kR w A P a A.length c := by
  obtain ⟨a, c, e, hA⟩ := h.row.form kR_ok.tofit
  refine ⟨a, c, e, hA, h.len, fun i hi => ?_⟩
  obtain ⟨a2, c2, e2, h2⟩ := (h.part i hi).form kZ_ok.tofit
  unfold Sl.v at e2
  injection e2 with e3 e4 e5
  rw [e3, e4, e5]
  exact h2
theorem getDapp_left {α : Type} (l k : List α) (z : α) (i : Nat) (h : i < l.length) : (l ++ k).getD i z = l.getD i z := by
  rw [List.getD_eq_getElem?_getD, List.getElem?_append_left h, ← List.getD_eq_getElem?_getD]
theorem getDapp_last {α : Type} (l : List α) (x z : α) (i : Nat) (h : i = l.length) : (l ++ [x]).getD i z = x := by
  subst h
  rw [List.getD_eq_getElem?_getD, List.getElem?_append_right (Nat.le_refl _), Nat.sub_self]
  rfl
/-- One share more. -/
theorem ShR.more {W W3 W4 W5 : World} {base : Nat} {v v5 : Value} {A : List ShA} {P : List (List Int)} {nm : Nm} {s : Sl} {q : List Int} (h : ShR W base v A P) (hb : base ≤ W.heap.size) (h3 : Below W.heap.size W W3) (h4 : Below W3.heap.size W3 W4) (hO : OwnK kZ W3 W.heap.size s.v q) (hG : W4.grownBy W5 v.ownBlock) (h5 : OwnK kR W5 base v5 (A ++ [(nm, s)])) : ShR W5 base v5 (A ++ [(nm, s)]) (P ++ [q]) := by
  have h04 := h3.trans (h4.mono h3.size)
  have hneP : ∀ i g, i < A.length → (A.getD i sh0).2.v.ownBlock = some g → v.ownBlock ≠ some g := fun i g hi hg e => by
    obtain ⟨cur, hgc⟩ := (h.row.block g e).2.2
    obtain ⟨cur2, h2⟩ := ((h.part i hi).block g hg).2.2
    have hgc' : W.heap[g]? = some (.cells cur TR (0, 0)) := hgc
    rw [hgc'] at h2
    simp [TR] at h2
  have hl := h.len
  refine ⟨h5, by rw [List.length_append, List.length_append, hl]; rfl, fun i hi => ?_⟩
  by_cases e : i < A.length
  · rw [getDapp_left _ _ _ _ e, getDapp_left _ _ _ _ (by omega)]
    have hp := h.part i e
    refine (hp.later h04).keep (fun g hg => hG.block g ?_ (fun e2 => hneP i g e hg e2.symm))
    have := (hp.block g hg).2.1
    have := h04.size
    omega
  · have e0 : i = A.length := by rw [List.length_append] at hi; simp at hi; omega
    rw [getDapp_last _ _ _ _ e0, getDapp_last _ _ _ _ (by omega)]
    refine ((hO.later h4).mono hb).keep (fun g hg => hG.block g ?_ (fun e2 => ?_))
    · have := (hO.block g hg).2.1
      have := h4.size
      omega
    · have h1 := (hO.block g hg).1
      have h2 := (h.row.block g e2.symm).2.1
      omega
/-- What one append into a share that lies in a box leaves. -/
theorem box_step {W w3 : World} {v v' u : Value} {l : List Int} {d : Int} {o : Obj} (hb : Below w.heap.size w W) (hsz : w.heap.size + 1 ≤ W.heap.size) (hbox : Blk W w.heap.size #[u, v] TR) (hown : OwnK kZ W (w.heap.size + 1) v l)
    (hO : OwnK kZ w3 (w.heap.size + 1) v' (l ++ [d])) (hg : (W.alloc o).grownBy w3 v.ownBlock) :
    (∃ ad c, v' = .slice ad (l.length + 1) c) ∧ w3.cell? ⟨w.heap.size, 1, none⟩ = some v ∧ w3.frozen? ⟨w.heap.size, 1, none⟩ = false ∧ Below w.heap.size w (w3.setCell ⟨w.heap.size, 1, none⟩ v') ∧ w.heap.size + 1 ≤ (w3.setCell ⟨w.heap.size, 1, none⟩ v').heap.size ∧ Blk (w3.setCell ⟨w.heap.size, 1, none⟩ v') w.heap.size #[u, v'] TR ∧ OwnK kZ (w3.setCell ⟨w.heap.size, 1, none⟩ v') (w.heap.size + 1) v' (l ++ [d]) := by
  have hblk : w3.heap[w.heap.size]? = W.heap[w.heap.size]? := by
    rw [hg.block _ (by simp; omega) (fun e => by have := (hown.block _ e.symm).1; omega)]
    exact Below.heap_alloc _ _ _ (by omega)
  have hb3 : Blk w3 w.heap.size #[u, v] TR := hblk.trans hbox
  have hbw : Below w.heap.size w w3 := (hb.alloc hb.size o).grown hg (by simp; omega) (fun k hk => by have := (hown.block k hk).1; omega)
  have hs : Chg [w.heap.size] w3 (w3.setCell ⟨w.heap.size, 1, none⟩ v') := (Chg.refl _ _).set (Or.inl (by simp)) _ _
  obtain ⟨ad, c, hv, -⟩ := hO.form kZ_ok.tofit
  refine ⟨⟨ad, c, by rw [hv]; simp⟩, hb3.cell 1, hb3.free 1, hbw.setCell (p := ⟨w.heap.size, 1, none⟩) (Nat.le_refl _) _, by have := hg.size; simp [World.setCell] at this ⊢; omega, hb3.set 1 v', hO.chg hs (fun g hg hm => by have := (hO.block g hg).1; simp at hm; omega)⟩
/-- What the document's Range answers. -/
def RAns (w : World) (may : Bool) (names : List Nm) (P : List (List Int)) (e : Ending) (w' : World) : Prop :=
  (if may then ∃ a c A, e = .returned (.tuple #[.slice a names.length c, .int .i64 0]) ∧ ShV kR w' A P a names.length c ∧ A.map (·.1) = names else e = .returned (.tuple #[.slice none 0 0, .int .i64 1])) ∧ Below w.heap.size w w'
set_option maxHeartbeats 4000000 in
theorem refRange_any (h : ArgK kS w l ad m c) (p : Int) : Calls Try.prog 9 #[.slice ad m c, .int .i64 p] w fun e w' => RAns w (mayN l p) (risN l) (rgP p.toNat l.length l.length) e w' := by
  have HM := hid (refright_any h p)
  cases hmy : mayN l p with
  | false =>
    rw [hmy] at HM
    clear h hmy
    go_enter Try.func9, Try.ntmps9
    go_wp2_with (go_at_call 26; (with_reducible_and_instances (refine HM.out.mono ?_)); rintro e w1 ⟨rfl, hb⟩; have HB := hid hb; clear hb)
    refine bodyPost_ret (results_tmp2 Try.results9 _ _ _) rfl ⟨?_, HB.out⟩
    rfl
  | true =>
    rw [hmy] at HM
    obtain ⟨h1, h2, h3⟩ := may_bounds hmy
    obtain ⟨n, rfl⟩ : ∃ n : Nat, p = (n : Int) := ⟨p.toNat, by omega⟩
    have hl := h.len
    have hm : m ≤ 1000 := by omega
    have hn : n ≤ 32 := by omega
    rw [Int.toNat_natCast]
    have HR : Hid (∀ W, Below w.heap.size w W → Calls Try.prog 27 #[.slice ad m c] W fun e w' => ∃ v, e = .returned v ∧ OwnK kS w' W.heap.size v (risN l) ∧ Below W.heap.size W w') := fun W hb => refsorted_any (h.later hb) hm
    have HLn : Hid (l.length = m) := hl
    have HSl : Hid ((risN l).length = m) := by rw [risN_len, hl]; exact rfl
    clear h hl hmy h1 h2 h3
    go_enter Try.func9, Try.ntmps9
    go_wp2_with (first
      | (go_at_call 26; (with_reducible_and_instances (refine HM.out.mono ?_)); rintro e w1 ⟨rfl, hb⟩; have HB := hid hb; have HS1 := hid (HR.out w1 hb); clear hb)
      | (go_at_call 27; (with_reducible_and_instances (refine HS1.out.mono ?_)); rintro e w2 ⟨v, rfl, ho, hb⟩; obtain ⟨sa, sc, rfl, hA⟩ := ho.form kS_ok.tofit; rw [HSl.out] at hA ⊢; have hcap := hA.cap; have HA := hid hA; have HB2 := hid hb; clear ho hb hA))
    go_loopw [7, 8, 9] (fun v av iv wr => ∃ (i : Nat) (va : Option Addr) (vc a0 : Nat) (A : List ShA), i ≤ m ∧ iv = .int .i64 (i : Int) ∧ av = .int .i64 (a0 : Int) ∧ a0 ≤ 33000 ∧ Hid (rgA n m i = a0) ∧ v = .slice va i vc ∧ w2.heap.size ≤ wr.heap.size ∧ Hid (ShR wr w2.heap.size (.slice va i vc) A (rgP n m i)) ∧ Hid (A.map (·.1) = (risN l).take i) ∧ Hid (Below w2.heap.size w2 wr)) (fun _ _ iv _ => m - (intOf iv).toNat)
    case atStart => exact ⟨0, none, 0, 0, [], by omega, rfl, rfl, by omega, (by unfold rgA; rw [Nat.zero_mul, Nat.zero_min]; exact rfl), rfl, Nat.le_refl _, (show ShR _ _ _ _ _ from ⟨OwnK.nil (K := kR) w2 _, rfl, (fun i hi => by cases hi)⟩), (by rw [List.take_zero]; exact rfl), Below.refl _ _⟩
    case round =>
      obtain ⟨i, va, vc, a0, A, hi, rfl, rfl, ha0, HA0, rfl, hsz, HSh, HNm, HBl⟩ := hrel
      by_cases hlt : i < m
      · obtain ⟨b1, o1, rfl, hs1, hc1⟩ := HA.out.cells (by omega)
        obtain ⟨x, hx⟩ : ∃ x, (risN l).getD i [] = x := ⟨_, rfl⟩
        obtain ⟨xs, hxs⟩ : ∃ xs, nmS x = xs := ⟨_, rfl⟩
        have r0 : wr.cell? ⟨b1, o1 + i, none⟩ = some (.string xs) := (HBl.out.cell (p := ⟨b1, o1 + i, none⟩) hs1).trans (by have h := hc1 i hlt 0 (by decide); rw [Nat.mul_one, Nat.add_zero] at h; rw [← hxs, ← hx]; exact h)
        have HTk : Hid ((risN l).take (i + 1) = (risN l).take i ++ [x]) := by rw [take_snoc_any (risN l) [] i (by rw [HSl.out]; exact hlt), hx]; exact rfl
        have HXs := hid hxs
        have hz : ((m : Int) == 0) = false := by simp; omega
        obtain ⟨q, hq⟩ : ∃ q, n / m = q := ⟨_, rfl⟩
        obtain ⟨r, hr⟩ : ∃ r, n % m = r := ⟨_, rfl⟩
        have hq1 : (n : Int) / (m : Int) = (q : Int) := by rw [← hq]; simp
        have hr1 : (n : Int) % (m : Int) = (r : Int) := by rw [← hr]; simp
        have hql : q ≤ 32 := by rw [← hq]; exact Nat.le_trans (Nat.div_le_self n m) hn
        have HAl : Hid (A.length = i) := by have := congrArg List.length HNm.out; rw [List.length_map, List.length_take, HSl.out] at this; show A.length = i; omega
        have HNe : Hid (rgA n m (i + 1) ≤ 33000) := rgA_le n m (i + 1) hn (by omega)
        obtain ⟨wq, hwq⟩ : ∃ wq, wq = wr := ⟨_, rfl⟩
        subst hwq
        obtain ⟨W1, hW1⟩ : ∃ W1, wq.alloc (.cells #[.string xs, .slice none 0 0] TR) = W1 := ⟨_, rfl⟩
        have HB1 : Hid (Below wq.heap.size wq W1) := by rw [← hW1]; exact (Below.refl _ wq).alloc (Nat.le_refl _) _
        have hs2 : wq.heap.size + 1 ≤ W1.heap.size := by rw [← hW1]; simp
        have HX1 : Hid (Blk W1 wq.heap.size #[.string xs, .slice none 0 0] TR) := by rw [← hW1]; exact heap_alloc_new wq _
        have hm0 : ¬ m = 0 := by omega
        have HW1 := hid hW1
        clear hW1
        by_cases hri : i < r
        · have HN : Hid (rgN n m i = q + 1) := by unfold rgN; rw [hq, hr, if_pos hri]; exact rfl
          clear hc1 hx hxs hq hr
          go_wp2_with fail
          rw [HW1.out]
          try rw [hr1]
          try rw [hq1]
          clear HW1 r0 hr1 hq1
          go_loopw [12] (fun kv wi => ∃ (k : Nat) (ad2 : Option Addr) (c2 : Nat), k ≤ (q + 1) ∧ kv = .int .i64 (k : Int) ∧ wq.heap.size + 1 ≤ wi.heap.size ∧ Hid (Blk wi wq.heap.size #[.string xs, .slice ad2 k c2] TR) ∧ Hid (OwnK kZ wi (wq.heap.size + 1) (.slice ad2 k c2) (rowQ a0 k)) ∧ Hid (Below wq.heap.size wq wi)) (fun kv _ => (q + 1) - (intOf kv).toNat)
          case atStart => exact ⟨0, none, 0, by omega, rfl, hs2, HX1, OwnK.nil (K := kZ) W1 _, HB1⟩
          case round =>
            obtain ⟨k, ad2, c2, hk, rfl, hsi, HX, HO, HBi⟩ := hrel
            clear HB1 HX1
            have c0 := Blk.cell HX.out 0
            have c1 := Blk.cell HX.out 1
            have f0 := Blk.free HX.out 1
            simp only [List.getElem?_toArray, List.getElem?_cons_zero, List.getElem?_cons_succ] at c0 c1
            by_cases hkn : k < (q + 1)
            · have HRw := hid (z_row wr ((a0 : Int) + (k : Int)))
              have HO2 := hid (HO.out.later ((Below.refl _ wr).alloc (Nat.le_refl _) (.cells #[.int .i64 ((a0 : Int) + (k : Int))] 3)))
              have HSt : Hid (∀ w3 v', OwnK kZ w3 (wq.heap.size + 1) v' (rowQ a0 k ++ [(a0 : Int) + (k : Int)]) → (wr.alloc (.cells #[.int .i64 ((a0 : Int) + (k : Int))] 3)).grownBy w3 (Value.slice ad2 k c2).ownBlock → _) := fun w3 v' h1 h2 => box_step HBi.out hsi HX.out HO.out h1 h2
              rw [rowQ_len] at HSt
              go_wp2_with (first
                | (at_builtin; refine app_kd kZ_ok rfl _ _ rfl (wq.heap.size + 1) (.slice ad2 k c2) (rowQ a0 k) rfl HO2.out (some ⟨wr.heap.size, 0, none⟩) 1 1 [(a0 : Int) + (k : Int)] rfl rfl (fun e => by cases e) HRw.out (by rw [rowQ_len]; unfold maxLen; omega) (by rw [rowQ_len]; show (k + 1) * 8 ≤ _; omega) (by simp; omega) ?_; intro v3 w3 hown3 hg3; obtain ⟨⟨a3, c3, rfl⟩, z0, z1, z2⟩ := HSt.out w3 v3 hown3 hg3; have HZ := hid z2; clear hown3 hg3 z2))
              refine ⟨⟨k + 1, a3, c3, by omega, by go_num, HZ.out.2.1, HZ.out.2.2.1, (by rw [rowQ_succ]; exact HZ.out.2.2.2), HZ.out.1⟩, by simp [intOf]; omega⟩
            · have hkq : k = (q + 1) := by omega
              obtain ⟨W4, hW4⟩ : ∃ W4, wr.alloc (.cells #[.string xs, .slice ad2 k c2] TR) = W4 := ⟨_, rfl⟩
              have HRw : Hid (RowK kR W4 (some ⟨wr.heap.size, 0, none⟩) [(x, ⟨ad2, k, c2⟩)]) := by rw [← hW4]; exact shareR_row wr x xs HXs.out ⟨ad2, k, c2⟩
              have hB34 : Below wr.heap.size wr W4 := by rw [← hW4]; exact (Below.refl _ _).alloc (Nat.le_refl _) _
              have hs4 : wr.heap.size ≤ W4.heap.size := hB34.size
              have HO4 := hid (HSh.out.row.later (HBi.out.trans (hB34.mono HBi.out.size)))
              have HFin : Hid (∀ v5 w5, OwnK kR w5 w2.heap.size v5 (A ++ [(x, ⟨ad2, k, c2⟩)]) → W4.grownBy w5 (Value.slice va i vc).ownBlock → (∃ a5 c5, v5 = .slice a5 (i + 1) c5) ∧ w2.heap.size ≤ w5.heap.size ∧ ShR w5 w2.heap.size v5 (A ++ [(x, ⟨ad2, k, c2⟩)]) (rgP n m (i + 1)) ∧ Below w2.heap.size w2 w5) := fun v5 w5 hO5 hG5 => by
                have hm5 := HSh.out.more (s := ⟨ad2, k, c2⟩) hsz HBi.out hB34 (HO.out.mono (Nat.le_succ _)) hG5 hO5
                have h04 := HBi.out.trans (hB34.mono HBi.out.size)
                have hb0 : Below w2.heap.size wq w5 := (h04.mono hsz).grown hG5 (by have := h04.size; omega) (fun k hk => (HSh.out.row.block k hk).1)
                obtain ⟨a5, c5, e5, -⟩ := hO5.form kR_ok.tofit
                refine ⟨⟨a5, c5, by rw [e5, List.length_append, HAl.out]; rfl⟩, by have := hb0.size; omega, ?_, HBl.out.trans hb0⟩
                rw [rgP_succ, HN.out, HA0.out, ← hkq]
                exact hm5
              have HNx : Hid (rgA n m (i + 1) = a0 + (q + 1)) := by rw [rgA_succ, HA0.out, HN.out]; exact rfl
              have HSz : Hid (w2.heap.size ≤ W4.heap.size) := by show _ ≤ _; omega
              clear hB34 hkq
              go_wp2_with (first
                | (at_builtin; refine app_kd kR_ok rfl _ _ rfl w2.heap.size (.slice va i vc) A rfl HO4.out (some ⟨wr.heap.size, 0, none⟩) 1 1 [(x, ⟨ad2, k, c2⟩)] rfl rfl (fun e => by cases e) HRw.out (by rw [HAl.out]; unfold maxLen; omega) (by rw [HAl.out]; show (i + 1) * 40 ≤ _; omega) HSz.out ?_; intro v5 w5 hown5 hg5; obtain ⟨⟨a5, c5, rfl⟩, z5⟩ := HFin.out v5 w5 hown5 hg5; have HZ := hid z5; clear hown5 hg5 z5))
              refine ⟨⟨i + 1, a5, c5, a0 + (q + 1), A ++ [(x, (⟨ad2, k, c2⟩ : Sl))], by omega, by go_num, by go_num, (by rw [← HNx.out]; exact HNe.out), HNx, rfl, HZ.out.1, HZ.out.2.1, ?_, HZ.out.2.2⟩, by simp [intOf]; omega⟩
              show (A ++ [(x, (⟨ad2, k, c2⟩ : Sl))]).map (·.1) = _
              rw [HTk.out, List.map_append, HNm.out]
              rfl
        · have HN : Hid (rgN n m i = q) := by unfold rgN; rw [hq, hr, if_neg hri]; exact rfl
          clear hc1 hx hxs hq hr
          go_wp2_with fail
          rw [HW1.out]
          try rw [hr1]
          try rw [hq1]
          clear HW1 r0 hr1 hq1
          go_loopw [12] (fun kv wi => ∃ (k : Nat) (ad2 : Option Addr) (c2 : Nat), k ≤ q ∧ kv = .int .i64 (k : Int) ∧ wq.heap.size + 1 ≤ wi.heap.size ∧ Hid (Blk wi wq.heap.size #[.string xs, .slice ad2 k c2] TR) ∧ Hid (OwnK kZ wi (wq.heap.size + 1) (.slice ad2 k c2) (rowQ a0 k)) ∧ Hid (Below wq.heap.size wq wi)) (fun kv _ => q - (intOf kv).toNat)
          case atStart => exact ⟨0, none, 0, by omega, rfl, hs2, HX1, OwnK.nil (K := kZ) W1 _, HB1⟩
          case round =>
            obtain ⟨k, ad2, c2, hk, rfl, hsi, HX, HO, HBi⟩ := hrel
            clear HB1 HX1
            have c0 := Blk.cell HX.out 0
            have c1 := Blk.cell HX.out 1
            have f0 := Blk.free HX.out 1
            simp only [List.getElem?_toArray, List.getElem?_cons_zero, List.getElem?_cons_succ] at c0 c1
            by_cases hkn : k < q
            · have HRw := hid (z_row wr ((a0 : Int) + (k : Int)))
              have HO2 := hid (HO.out.later ((Below.refl _ wr).alloc (Nat.le_refl _) (.cells #[.int .i64 ((a0 : Int) + (k : Int))] 3)))
              have HSt : Hid (∀ w3 v', OwnK kZ w3 (wq.heap.size + 1) v' (rowQ a0 k ++ [(a0 : Int) + (k : Int)]) → (wr.alloc (.cells #[.int .i64 ((a0 : Int) + (k : Int))] 3)).grownBy w3 (Value.slice ad2 k c2).ownBlock → _) := fun w3 v' h1 h2 => box_step HBi.out hsi HX.out HO.out h1 h2
              rw [rowQ_len] at HSt
              go_wp2_with (first
                | (at_builtin; refine app_kd kZ_ok rfl _ _ rfl (wq.heap.size + 1) (.slice ad2 k c2) (rowQ a0 k) rfl HO2.out (some ⟨wr.heap.size, 0, none⟩) 1 1 [(a0 : Int) + (k : Int)] rfl rfl (fun e => by cases e) HRw.out (by rw [rowQ_len]; unfold maxLen; omega) (by rw [rowQ_len]; show (k + 1) * 8 ≤ _; omega) (by simp; omega) ?_; intro v3 w3 hown3 hg3; obtain ⟨⟨a3, c3, rfl⟩, z0, z1, z2⟩ := HSt.out w3 v3 hown3 hg3; have HZ := hid z2; clear hown3 hg3 z2))
              refine ⟨⟨k + 1, a3, c3, by omega, by go_num, HZ.out.2.1, HZ.out.2.2.1, (by rw [rowQ_succ]; exact HZ.out.2.2.2), HZ.out.1⟩, by simp [intOf]; omega⟩
            · have hkq : k = q := by omega
              obtain ⟨W4, hW4⟩ : ∃ W4, wr.alloc (.cells #[.string xs, .slice ad2 k c2] TR) = W4 := ⟨_, rfl⟩
              have HRw : Hid (RowK kR W4 (some ⟨wr.heap.size, 0, none⟩) [(x, ⟨ad2, k, c2⟩)]) := by rw [← hW4]; exact shareR_row wr x xs HXs.out ⟨ad2, k, c2⟩
              have hB34 : Below wr.heap.size wr W4 := by rw [← hW4]; exact (Below.refl _ _).alloc (Nat.le_refl _) _
              have hs4 : wr.heap.size ≤ W4.heap.size := hB34.size
              have HO4 := hid (HSh.out.row.later (HBi.out.trans (hB34.mono HBi.out.size)))
              have HFin : Hid (∀ v5 w5, OwnK kR w5 w2.heap.size v5 (A ++ [(x, ⟨ad2, k, c2⟩)]) → W4.grownBy w5 (Value.slice va i vc).ownBlock → (∃ a5 c5, v5 = .slice a5 (i + 1) c5) ∧ w2.heap.size ≤ w5.heap.size ∧ ShR w5 w2.heap.size v5 (A ++ [(x, ⟨ad2, k, c2⟩)]) (rgP n m (i + 1)) ∧ Below w2.heap.size w2 w5) := fun v5 w5 hO5 hG5 => by
                have hm5 := HSh.out.more (s := ⟨ad2, k, c2⟩) hsz HBi.out hB34 (HO.out.mono (Nat.le_succ _)) hG5 hO5
                have h04 := HBi.out.trans (hB34.mono HBi.out.size)
                have hb0 : Below w2.heap.size wq w5 := (h04.mono hsz).grown hG5 (by have := h04.size; omega) (fun k hk => (HSh.out.row.block k hk).1)
                obtain ⟨a5, c5, e5, -⟩ := hO5.form kR_ok.tofit
                refine ⟨⟨a5, c5, by rw [e5, List.length_append, HAl.out]; rfl⟩, by have := hb0.size; omega, ?_, HBl.out.trans hb0⟩
                rw [rgP_succ, HN.out, HA0.out, ← hkq]
                exact hm5
              have HNx : Hid (rgA n m (i + 1) = a0 + q) := by rw [rgA_succ, HA0.out, HN.out]; exact rfl
              have HSz : Hid (w2.heap.size ≤ W4.heap.size) := by show _ ≤ _; omega
              clear hB34 hkq
              go_wp2_with (first
                | (at_builtin; refine app_kd kR_ok rfl _ _ rfl w2.heap.size (.slice va i vc) A rfl HO4.out (some ⟨wr.heap.size, 0, none⟩) 1 1 [(x, ⟨ad2, k, c2⟩)] rfl rfl (fun e => by cases e) HRw.out (by rw [HAl.out]; unfold maxLen; omega) (by rw [HAl.out]; show (i + 1) * 40 ≤ _; omega) HSz.out ?_; intro v5 w5 hown5 hg5; obtain ⟨⟨a5, c5, rfl⟩, z5⟩ := HFin.out v5 w5 hown5 hg5; have HZ := hid z5; clear hown5 hg5 z5))
              refine ⟨⟨i + 1, a5, c5, a0 + q, A ++ [(x, (⟨ad2, k, c2⟩ : Sl))], by omega, by go_num, by go_num, (by rw [← HNx.out]; exact HNe.out), HNx, rfl, HZ.out.1, HZ.out.2.1, ?_, HZ.out.2.2⟩, by simp [intOf]; omega⟩
              show (A ++ [(x, (⟨ad2, k, c2⟩ : Sl))]).map (·.1) = _
              rw [HTk.out, List.map_append, HNm.out]
              rfl
      · obtain rfl : m = i := by omega
        go_wp2_with fail
        refine bodyPost_ret (results_tmp2 Try.results9 _ _ _) rfl ⟨?_, HB.out.trans ((HB2.out.trans (HBl.out.mono HB2.out.size)).mono HB.out.size)⟩
        obtain ⟨a, c, e, hv⟩ := HSh.out.view
        have hAl : A.length = m := by have := congrArg List.length HNm.out; rw [List.length_map, List.length_take, HSl.out] at this; omega
        rw [hAl] at e hv
        rw [HLn.out]
        refine ⟨a, c, A, ?_, by rw [HSl.out]; exact hv, ?_⟩
        · rw [HSl.out, ← e]; rfl
        · rw [HNm.out, List.take_of_length_le (by rw [HSl.out]; exact Nat.le_refl _)]
end Go.Proofs.Ytopbmopfahjhlaa
