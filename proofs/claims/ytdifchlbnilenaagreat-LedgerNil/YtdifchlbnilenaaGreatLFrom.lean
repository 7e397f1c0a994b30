/- rowsFrom of a ledger: slices.BinarySearchFunc of its rows. -/
import Derived.Test.YtdifchlbnilenaaGreatLComm
import Derived.WalkLawsBesides
namespace Go.Proofs.YtdifchlbnilenaaGreat
open Go.RowKit Go.Shelf
variable {w w' : World} {L t M n N : Nat} {vr vo va : Value} {g : Lg} {ad : Option Addr} {m c : Nat}

/-- What cmp.Compare answers. -/
def cmpI (x y : Int) : Int := if x < y then -1 else if y < x then 1 else 0
theorem isNaN_any (x : Int) (w : World) : Calls Tryz.prog 132 #[.int .i64 x] w fun e w' => e = .returned (.bool false) ∧ w' = w := by
  have hq : (x == x) = true := by simp
  go_enter Tryz.func132, Tryz.ntmps132
  go_wp2_with fail
  go_ret
  exact ⟨by first | rfl | simp, rfl⟩
theorem compare_any (x y : Int) (w : World) : Calls Tryz.prog 100 #[.int .i64 x, .int .i64 y] w fun e w' => e = .returned (.int .i64 (cmpI x y)) ∧ w' = w := by
  rcases Int.lt_or_le x y with h1 | h1
  · have HC : Hid (cmpI x y = -1) := if_pos h1
    have hd : decide (x < y) = true := by simpa using h1
    go_enter Tryz.func100, Tryz.ntmps100
    go_wp2_with (go_at_call 132; refine (isNaN_any _ _).mono ?_; rintro e w1 ⟨rfl, hw1⟩; obtain rfl := hw1.symm)
    go_ret
    exact ⟨by rw [HC.out]; rfl, rfl⟩
  · have hd : decide (x < y) = false := by simp; omega
    rcases Int.lt_or_le y x with h2 | h2
    · have HC : Hid (cmpI x y = 1) := by unfold cmpI; rw [if_neg (by omega), if_pos h2]; exact rfl
      have hd2 : decide (y < x) = true := by simpa using h2
      go_enter Tryz.func100, Tryz.ntmps100
      go_wp2_with (go_at_call 132; refine (isNaN_any _ _).mono ?_; rintro e w1 ⟨rfl, hw1⟩; obtain rfl := hw1.symm)
      go_ret
      exact ⟨by rw [HC.out]; rfl, rfl⟩
    · have HC : Hid (cmpI x y = 0) := by unfold cmpI; rw [if_neg (by omega), if_neg (by omega)]; exact rfl
      have hd2 : decide (y < x) = false := by simp; omega
      go_enter Tryz.func100, Tryz.ntmps100
      go_wp2_with (go_at_call 132; refine (isNaN_any _ _).mono ?_; rintro e w1 ⟨rfl, hw1⟩; obtain rfl := hw1.symm)
      go_ret
      exact ⟨by rw [HC.out]; rfl, rfl⟩
theorem rowsFrom1_any (r : Rw) (x : Int) (w : World) : Calls Tryz.prog 99 #[.agg #[.int .i64 r.off, .int .i64 r.prod, .bool r.tx, .string r.rc.key, .string r.rc.val, .bool r.rc.dead], .int .i64 x] w fun e w' => e = .returned (.int .i64 (cmpI r.off x)) ∧ Below w.heap.size w w' := by
  have HB := hid ((Below.refl _ w).alloc (Nat.le_refl _) (.cells #[.int .i64 r.off, .int .i64 r.prod, .bool r.tx, .string r.rc.key, .string r.rc.val, .bool r.rc.dead] 89))
  obtain ⟨ro, rp, rt, ⟨k, v, d⟩⟩ := r
  have HC := hid (compare_any ro x (w.alloc (.cells #[.int .i64 ro, .int .i64 rp, .bool rt, .string k, .string v, .bool d] 89)))
  generalize cmpI ro x = z at *
  go_enter Tryz.func99, Tryz.ntmps99
  go_wp2_with (go_at_call 100; (with_reducible_and_instances (refine HC.out.mono ?_)); rintro e w1 ⟨rfl, hw1⟩; obtain rfl := hw1.symm)
  go_ret
  exact ⟨rfl, HB.out⟩
/-- How many rows lie ahead of an offset. -/
def cutN (x : Int) (l : List Rw) : Nat := (l.filter (fun r => decide (r.off < x))).length
theorem cut_of {x : Int} {l : List Rw} {i : Nat} (hi : i ≤ l.length) (h1 : ∀ k, k < i → (l.getD k rw0).off < x) (h2 : ∀ k, i ≤ k → k < l.length → x ≤ (l.getD k rw0).off) : cutN x l = i ∧ l.drop i = l.filter (fun r => decide (x ≤ r.off)) := by
  have e : l = l.take i ++ l.drop i := (List.take_append_drop i l).symm
  have a1 : ∀ r ∈ l.take i, r.off < x := fun r hr => by
    obtain ⟨k, hk, hr2⟩ := List.mem_iff_getElem.1 hr
    rw [List.length_take] at hk
    have := h1 k (by omega)
    rw [List.getD_eq_getElem?_getD, List.getElem?_eq_getElem (by omega)] at this
    rw [List.getElem_take] at hr2
    rw [← hr2]; exact this
  have a2 : ∀ r ∈ l.drop i, x ≤ r.off := fun r hr => by
    obtain ⟨k, hk, hr2⟩ := List.mem_iff_getElem.1 hr
    rw [List.length_drop] at hk
    have := h2 (i + k) (by omega) (by omega)
    rw [List.getD_eq_getElem?_getD, List.getElem?_eq_getElem (by omega)] at this
    rw [List.getElem_drop] at hr2
    rw [← hr2]; exact this
  have f1 : (l.take i).filter (fun r => decide (r.off < x)) = l.take i := List.filter_eq_self.2 (fun r hr => by simpa using a1 r hr)
  have f2 : (l.drop i).filter (fun r => decide (r.off < x)) = [] := List.filter_eq_nil_iff.2 (fun r hr => by have := a2 r hr; simp; omega)
  have f3 : (l.take i).filter (fun r => decide (x ≤ r.off)) = [] := List.filter_eq_nil_iff.2 (fun r hr => by have := a1 r hr; simp; omega)
  have f4 : (l.drop i).filter (fun r => decide (x ≤ r.off)) = l.drop i := List.filter_eq_self.2 (fun r hr => by simpa using a2 r hr)
  constructor
  · unfold cutN
    rw [e, List.filter_append, f1, f2, List.append_nil, List.length_take]
    omega
  · conv => rhs; rw [e, List.filter_append, f3, f4, List.nil_append]
theorem rise_at {l : List Rw} (h : l.Pairwise (fun a b => a.off < b.off)) {i j : Nat} (hij : i < j) (hj : j < l.length) : (l.getD i rw0).off < (l.getD j rw0).off := by
  have := List.pairwise_iff_getElem.1 h i j (by omega) hj hij
  rw [List.getD_eq_getElem?_getD, List.getElem?_eq_getElem (by omega), List.getD_eq_getElem?_getD, List.getElem?_eq_getElem hj]
  exact this
set_option maxRecDepth 20000 in
set_option maxHeartbeats 2000000 in
theorem search_any {l : List Rw} (h : ArgK kRw w l ad m c) (hs : l.Pairwise (fun a b => a.off < b.off)) (hsz : m < 4611686018427387904) (x : Int) : Calls Tryz.prog 98 #[.slice ad m c, .int .i64 x, .func (.func 99) #[] #[]] w fun e w' => (∃ b, e = .returned (.tuple #[.int .i64 (cutN x l : Int), .bool b])) ∧ cutN x l ≤ m ∧ l.drop (cutN x l) = l.filter (fun r => decide (x ≤ r.off)) ∧ Below w.heap.size w w' := by
  have H := hid h
  have HSo := hid hs
  clear h hs
  go_enter Tryz.func98, Tryz.ntmps98
  go_wp2_with fail
  go_loopw [9, 10] (fun vi vj wr => ∃ (i j : Nat), i ≤ j ∧ j ≤ m ∧ vi = .int .i64 (i : Int) ∧ vj = .int .i64 (j : Int) ∧ Hid (∀ k, k < i → (l.getD k rw0).off < x) ∧ Hid (∀ k, j ≤ k → k < l.length → x ≤ (l.getD k rw0).off) ∧ Hid (Below w.heap.size w wr)) (fun vi vj _ => (intOf vj).toNat - (intOf vi).toNat)
  case atStart => exact ⟨0, m, by omega, by omega, rfl, rfl, (fun k hk => by omega), (fun k h1 h2 => by have := H.out.len; omega), Below.refl _ _⟩
  case round =>
    obtain ⟨i, j, hij, hjm, rfl, rfl, H1, H2, HB⟩ := hrel
    by_cases hlt : i < j
    · have hA := H.out.later HB.out
      obtain ⟨b, off, rfl, hbs, hc⟩ := hA.cells (by omega)
      obtain ⟨mid, hmid⟩ : ∃ mid, (i + j) / 2 = mid := ⟨_, rfl⟩
      have hmi : ((i : Int) + (j : Int)) / 2 = (mid : Int) := by omega
      have hmm : mid < m := by omega
      have HMid : Hid (i ≤ mid ∧ mid < j ∧ mid < l.length) := ⟨by omega, by omega, by rw [H.out.len]; exact hmm⟩
      have r0 : wr.cell? ⟨b, off + mid * 6, none⟩ = some (.int .i64 (l.getD mid rw0).off) := hc mid hmm 0 (by decide)
      have r1 : wr.cell? ⟨b, off + mid * 6 + 1, none⟩ = some (.int .i64 (l.getD mid rw0).prod) := hc mid hmm 1 (by decide)
      have r2 : wr.cell? ⟨b, off + mid * 6 + 2, none⟩ = some (.bool (l.getD mid rw0).tx) := hc mid hmm 2 (by decide)
      have r3 : wr.cell? ⟨b, off + mid * 6 + 3, none⟩ = some (.string (l.getD mid rw0).rc.key) := hc mid hmm 3 (by decide)
      have r4 : wr.cell? ⟨b, off + mid * 6 + 4, none⟩ = some (.string (l.getD mid rw0).rc.val) := hc mid hmm 4 (by decide)
      have r5 : wr.cell? ⟨b, off + mid * 6 + 5, none⟩ = some (.bool (l.getD mid rw0).rc.dead) := hc mid hmm 5 (by decide)
      have HC := hid (rowsFrom1_any (l.getD mid rw0) x wr)
      have hLess : (cmpI (l.getD mid rw0).off x < 0) ↔ (l.getD mid rw0).off < x := by unfold cmpI; split <;> (try split) <;> omega
      have HLess := hid hLess
      have HUp : Hid ((l.getD mid rw0).off < x → ∀ k, k < mid + 1 → (l.getD k rw0).off < x) := fun hx k hk => by
        by_cases e : k = mid
        · rw [e]; exact hx
        · have := rise_at HSo.out (show k < mid by omega) HMid.out.2.2; omega
      have HDn : Hid (¬ (l.getD mid rw0).off < x → ∀ k, mid ≤ k → k < l.length → x ≤ (l.getD k rw0).off) := fun hx k h1 h2 => by
        by_cases e : k = mid
        · rw [e]; omega
        · have := rise_at HSo.out (show mid < k by omega) h2; omega
      clear hc hbs hA hmid hLess
      obtain ⟨y, hy⟩ : ∃ y, l.getD mid rw0 = y := ⟨_, rfl⟩
      rw [hy] at r0 r1 r2 r3 r4 r5 HC HLess HUp HDn
      clear hy
      obtain ⟨ro, rp, rt, ⟨rk, rv, rd⟩⟩ := y
      dsimp only at r0 r1 r2 r3 r4 r5 HC HLess HUp HDn
      generalize cmpI ro x = z at *
      rcases Int.lt_or_le z 0 with hz | hz
      · have HU2 := hid (HUp.out (HLess.out.1 hz))
        clear HUp HDn HLess
        go_wp2_with (go_at_call 99; (with_reducible_and_instances (refine HC.out.mono ?_)); rintro e w1 ⟨rfl, hb⟩; have HB2 := hid (HB.out.trans (hb.mono HB.out.size)); clear hb)
        refine ⟨⟨mid + 1, j, by have := HMid.out; omega, hjm, by go_num, rfl, HU2, H2, HB2⟩, by have := HMid.out; simp [intOf]; omega⟩
      · have HD2 := hid (HDn.out (fun hh => by have := HLess.out.2 hh; omega))
        clear HUp HDn HLess
        go_wp2_with (go_at_call 99; (with_reducible_and_instances (refine HC.out.mono ?_)); rintro e w1 ⟨rfl, hb⟩; have HB2 := hid (HB.out.trans (hb.mono HB.out.size)); clear hb)
        refine ⟨⟨i, mid, by have := HMid.out; omega, by omega, rfl, rfl, H1, HD2, HB2⟩, by have := HMid.out; simp [intOf]; omega⟩
    · obtain rfl : j = i := by omega
      have HCut := hid (cut_of (x := x) (l := l) (i := j) (by rw [H.out.len]; exact hjm) H1.out H2.out)
      by_cases hjl : j < m
      · have hA := H.out.later HB.out
        obtain ⟨b, off, rfl, hbs, hc⟩ := hA.cells (by omega)
        have r0 : wr.cell? ⟨b, off + j * 6, none⟩ = some (.int .i64 (l.getD j rw0).off) := hc j hjl 0 (by decide)
        have r1 : wr.cell? ⟨b, off + j * 6 + 1, none⟩ = some (.int .i64 (l.getD j rw0).prod) := hc j hjl 1 (by decide)
        have r2 : wr.cell? ⟨b, off + j * 6 + 2, none⟩ = some (.bool (l.getD j rw0).tx) := hc j hjl 2 (by decide)
        have r3 : wr.cell? ⟨b, off + j * 6 + 3, none⟩ = some (.string (l.getD j rw0).rc.key) := hc j hjl 3 (by decide)
        have r4 : wr.cell? ⟨b, off + j * 6 + 4, none⟩ = some (.string (l.getD j rw0).rc.val) := hc j hjl 4 (by decide)
        have r5 : wr.cell? ⟨b, off + j * 6 + 5, none⟩ = some (.bool (l.getD j rw0).rc.dead) := hc j hjl 5 (by decide)
        have HC := hid (rowsFrom1_any (l.getD j rw0) x wr)
        clear hc hbs hA
        generalize cmpI (l.getD j rw0).off x = z at *
        generalize l.getD j rw0 = y at *
        obtain ⟨ro, rp, rt, ⟨rk, rv, rd⟩⟩ := y
        dsimp only at r0 r1 r2 r3 r4 r5 HC
        go_wp2_with (go_at_call 99; (with_reducible_and_instances (refine HC.out.mono ?_)); rintro e w1 ⟨rfl, hb⟩; have HB2 := hid (HB.out.trans (hb.mono HB.out.size)); clear hb)
        refine bodyPost_ret (results_tmp2 Tryz.results98 _ _ _) rfl ⟨⟨_, by rw [HCut.out.1]; rfl⟩, by rw [HCut.out.1]; exact hjm, by rw [HCut.out.1]; exact HCut.out.2, HB2.out⟩
      · obtain rfl : j = m := by omega
        go_wp2_with fail
        refine bodyPost_ret (results_tmp2 Tryz.results98 _ _ _) rfl ⟨⟨_, by rw [HCut.out.1]; rfl⟩, by rw [HCut.out.1]; exact hjm, by rw [HCut.out.1]; exact HCut.out.2, HB.out⟩
theorem ArgK.drop {α : Type} {K : Kd α} {l : List α} (h : ArgK K w l ad m c) (k : Nat) (hk : k ≤ m) : ArgK K w (l.drop k) (if c = k then ad else ad.map (fun x => x.add (k * K.sz))) (m - k) (c - k) := by
  have hl := h.len
  refine ⟨by rw [List.length_drop, hl], ?_, by have := h.cap; omega, by have := h.room; omega, ?_⟩
  · intro e
    cases ad with
    | none => have := h.nil rfl; omega
    | some a =>
      by_cases hc : c = k
      · rw [if_pos hc] at e; cases e
      · rw [if_neg hc] at e; simp at e
  · by_cases h0 : l.drop k = []
    · exact Or.inl h0
    · rcases h.row with h1 | ⟨b, off, e, hb, hcl⟩
      · rw [h1] at h0; simp at h0
      · have hlt : k < m := by
          rcases Nat.lt_or_ge k m with h2 | h2
          · exact h2
          · exact absurd (List.drop_eq_nil_of_le (by omega)) h0
        have hck : c ≠ k := by have := h.cap; omega
        subst e
        refine Or.inr ⟨b, off + k * K.sz, by rw [if_neg hck]; simp [addr_add], hb, fun i hi c' hc' => ?_⟩
        rw [List.length_drop] at hi
        have := hcl (k + i) (by omega) c' hc'
        rw [Nat.add_mul, ← Nat.add_assoc] at this
        rw [this]
        congr 2
        simp [List.getD_eq_getElem?_getD, List.getElem?_drop]
set_option maxRecDepth 20000 in
theorem rowsFrom_any (h : LPic w L t M n N vr vo va g) (hsz : g.rows.length < 4611686018427387904) (x : Int) : Calls Tryz.prog 57 #[.pointer (some ⟨L, 0, none⟩), .int .i64 x] w fun e w' => ∃ ad m c, e = .returned (.slice ad m c) ∧ ArgK kRw w' (g.rows.filter (fun r => decide (x ≤ r.off))) ad m c ∧ Below w.heap.size w w' := by
  obtain ⟨ar, cr, hv, hA⟩ := h.rows.form kRw_ok.tofit
  have c3 := h.c3
  rw [hv] at c3
  have HS := hid (search_any hA h.ok.rise hsz x)
  have HA := hid hA
  have HP := hid h
  have lL := h.lt
  have hcap := hA.cap
  have hroom : cr ≤ 9223372036854775807 := by have := hA.room; unfold maxLen at this; omega
  have hnil := hA.nil
  clear h hv hA
  generalize g.rows.length = m at *
  obtain ⟨q, hq⟩ : ∃ q, cutN x g.rows = q := ⟨_, rfl⟩
  rw [hq] at HS
  clear hq
  cases ar with
  | none =>
    obtain ⟨rfl, rfl⟩ := hnil rfl
    go_enter Tryz.func57, Tryz.ntmps57
    go_wp2_with (go_at_call 98; (with_reducible_and_instances (refine HS.out.mono ?_)); rintro e w1 ⟨⟨bb, rfl⟩, hq1, hq2, hb1⟩; obtain rfl : q = 0 := (by omega); have HB1 := hid hb1; have HQ2 := hid hq2; have e3 := (hb1.cell (p := ⟨L, 3, none⟩) lL).trans c3; have HA1 := hid (HA.out.later hb1); clear hq2 hb1)
    go_ret
    refine ⟨_, _, _, rfl, ?_, HB1.out⟩
    rw [← HQ2.out, List.drop_zero]
    exact HA1.out
  | some a =>
    obtain ⟨blk, off, sp⟩ := a
    by_cases hm0 : m = 0
    · subst hm0
      have hl0 : g.rows = [] := List.eq_nil_of_length_eq_zero HA.out.len
      go_enter Tryz.func57, Tryz.ntmps57
      go_wp2_with (go_at_call 98; (with_reducible_and_instances (refine HS.out.mono ?_)); rintro e w1 ⟨⟨bb, rfl⟩, hq1, hq2, hb1⟩; obtain rfl : q = 0 := (by omega); have HB1 := hid hb1; have HQ2 := hid hq2; have e3 := (hb1.cell (p := ⟨L, 3, none⟩) lL).trans c3; have HA1 := hid (HA.out.later hb1); clear hq2 hb1)
      go_ret
      refine ⟨_, _, _, rfl, ?_, HB1.out⟩
      rw [← HQ2.out, List.drop_zero]
      exact HA1.out
    · obtain ⟨b2, off2, e2, -, -⟩ := HA.out.cells (by omega)
      cases e2
      by_cases hcq : cr = q
      · subst hcq
        go_enter Tryz.func57, Tryz.ntmps57
        go_wp2_with (go_at_call 98; (with_reducible_and_instances (refine HS.out.mono ?_)); rintro e w1 ⟨⟨bb, rfl⟩, hq1, hq2, hb1⟩; have HB1 := hid hb1; have HQ2 := hid hq2; have e3 := (hb1.cell (p := ⟨L, 3, none⟩) lL).trans c3; have HA1 := hid (HA.out.later hb1); clear hq2 hb1)
        go_ret
        refine ⟨_, _, _, rfl, ?_, HB1.out⟩
        rw [← HQ2.out]
        have hd := HA1.out.drop cr hq1
        rw [if_pos rfl, Nat.sub_self, show m - cr = 0 by omega] at hd
        exact hd
      · go_enter Tryz.func57, Tryz.ntmps57
        go_wp2_with (go_at_call 98; (with_reducible_and_instances (refine HS.out.mono ?_)); rintro e w1 ⟨⟨bb, rfl⟩, hq1, hq2, hb1⟩; have HB1 := hid hb1; have HQ2 := hid hq2; have e3 := (hb1.cell (p := ⟨L, 3, none⟩) lL).trans c3; have HA1 := hid (HA.out.later hb1); have hqc : q ≤ cr := (by omega); clear hq2 hb1)
        go_ret
        refine ⟨_, _, _, rfl, ?_, HB1.out⟩
        rw [← HQ2.out]
        have hd := HA1.out.drop q hq1
        rw [if_neg hcq] at hd
        simp only [Option.map_some, addr_add] at hd
        exact hd
end Go.Proofs.YtdifchlbnilenaaGreat
