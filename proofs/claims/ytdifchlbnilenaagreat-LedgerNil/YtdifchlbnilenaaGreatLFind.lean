/- findOpen of a ledger; whether its table knows a producer with an epoch. -/
import Derived.Test.YtdifchlbnilenaaGreatLMay
import Derived.Test.YtdifchlbnilenaaGreatLIdx
namespace Go.Proofs.YtdifchlbnilenaaGreat
open Go.RowKit Go.Shelf
variable {w w' : World} {L t M n N : Nat} {vr vo va : Value} {g : Lg}

theorem findOpen1_any (x y id : Int) (gc : Nat) (w : World) (hg : w.cell? ⟨gc, 0, none⟩ = some (.int .i64 id)) (hl : gc < w.heap.size) : Calls Tryz.prog 137 #[.agg #[.int .i64 x, .int .i64 y], .pointer (some ⟨gc, 0, none⟩)] w fun e w' => e = .returned (.bool (x == id)) ∧ Below w.heap.size w w' := by
  have b0 : Below w.heap.size w (w.alloc (.cells #[.int .i64 x, .int .i64 y] 136)) := (Below.refl _ _).alloc (Nat.le_refl _) _
  have hc := (b0.cell (p := ⟨gc, 0, none⟩) hl).trans hg
  clear hg
  go_enter Tryz.func137, Tryz.ntmps137
  go_wp2_with fail
  go_ret
  exact ⟨rfl, b0⟩
def opI (id : Int) (l : List Tx) : Int := idxI (fun t => t.prod == id) l
theorem opI_of (id : Int) (l : List Tx) : (opAt id l = none ∧ opI id l = -1) ∨ ∃ i : Nat, opAt id l = some i ∧ opI id l = (i : Int) ∧ i < l.length := by
  unfold opI idxI opAt
  cases h : idxN (fun t : Tx => t.prod == id) l with
  | none => exact Or.inl ⟨rfl, rfl⟩
  | some i => exact Or.inr ⟨i, rfl, rfl, idx_lt h⟩
theorem findOpen_any (h : LPic0 w L t M n N vr vo va g) (id : Int) : Calls Tryz.prog 102 #[.pointer (some ⟨L, 0, none⟩), .int .i64 id] w fun e w' => e = .returned (.tuple #[.int .i64 (opI id g.opn), .bool (decide (0 ≤ opI id g.opn))]) ∧ Below w.heap.size w w' := by
  have b0 : Below w.heap.size w (w.alloc (.cells #[.int .i64 id] 3)) := (Below.refl _ _).alloc (Nat.le_refl _) _
  obtain ⟨ao, co, hv, hA⟩ := h.opn.form kTx_ok.tofit
  have c4 := (h.later b0).c4
  have lL := h.lt
  rw [hv] at c4
  have HC := indexTxn w.heap.size (fun t => t.prod == id) (hA.later b0) (fun W hW j hj => findOpen1_any _ _ id w.heap.size W ((hW.cell (p := ⟨w.heap.size, 0, none⟩) (by simp)).trans (by simp [go_sem])) (Nat.lt_of_lt_of_le (by simp) hW.size))
  have hmf : ∀ (fn : Fn) (first cap : Array Value) (w : World), (Instr.makeFunc fn first cap).run Tryz.prog w = .ok (.func fn first cap) w := fun _ _ _ _ => rfl
  have HB := hid b0
  clear h hA hv b0
  change Calls _ _ _ _ (fun e w' => e = .returned (.int .i64 (opI id g.opn)) ∧ _) at HC
  generalize opI id g.opn = z at *
  generalize g.opn.length = m at *
  go_enter Tryz.func102, Tryz.ntmps102
  go_wp2_with (go_at_call 136; refine HC.mono ?_; rintro e w1 ⟨rfl, hb⟩; have HB1 := hid (HB.out.trans (hb.mono HB.out.size)); clear hb)
  refine bodyPost_ret (results_tmp2 Tryz.results102 _ _ _) rfl ⟨rfl, HB1.out⟩
theorem knows1_any (x y z id ep : Int) (sa : Option Addr) (sb sc : Nat) (gc gd : Nat) (w : World) (hg : w.cell? ⟨gc, 0, none⟩ = some (.int .i64 id)) (hd : w.cell? ⟨gd, 0, none⟩ = some (.int .i64 ep)) (hl : gc < w.heap.size) (hl2 : gd < w.heap.size) : Calls Tryz.prog 140 #[.agg #[.int .i64 x, .int .i64 y, .int .i64 z, .slice sa sb sc], .pointer (some ⟨gc, 0, none⟩), .pointer (some ⟨gd, 0, none⟩)] w fun e w' => e = .returned (.bool ((x == id) && (y == ep))) ∧ Below w.heap.size w w' := by
  have b0 : Below w.heap.size w (w.alloc (.cells #[.int .i64 x, .int .i64 y, .int .i64 z, .slice sa sb sc] TEn)) := (Below.refl _ _).alloc (Nat.le_refl _) _
  have hc := (b0.cell (p := ⟨gc, 0, none⟩) hl).trans hg
  have hc2 := (b0.cell (p := ⟨gd, 0, none⟩) hl2).trans hd
  clear hg hd
  cases hx : (x == id) with
  | false =>
    go_enter Tryz.func140, Tryz.ntmps140
    go_wp2_with fail
    go_ret
    exact ⟨rfl, b0⟩
  | true =>
    rw [Bool.true_and]
    have HX : Hid ((x == id) = true) := hx
    clear hx
    have hx' : x = id := by simpa using HX.out
    subst hx'
    go_enter Tryz.func140, Tryz.ntmps140
    go_wp2_with fail
    go_ret
    exact ⟨rfl, b0⟩
theorem known_keys {T : Tb} {ks : List Int} (hk : KeysT T ks) (p e : Int) : (ks.map (entOf T)).any (fun x => x.p == p && x.e == e) = knownT T p e := by
  unfold knownT
  rw [List.any_map]
  cases hT : T p with
  | none =>
    simp only
    rw [List.any_eq_false]
    intro q hq
    have h1 := (hk.mem q).1 hq
    simp only [Function.comp, entOf, Bool.and_eq_true, beq_iff_eq, not_and]
    rintro rfl
    rw [hT] at h1; cases h1
  | some s =>
    simp only
    have hg : T.get p = s := by unfold Tb.get; rw [hT]; rfl
    cases he : (s.epoch == e) with
    | true =>
      rw [List.any_eq_true]
      exact ⟨p, (hk.mem p).2 (by rw [hT]; rfl), by simp only [Function.comp, entOf, hg, he, Bool.and_true, beq_self_eq_true]⟩
    | false =>
      rw [List.any_eq_false]
      intro q _
      simp only [Function.comp, entOf, Bool.and_eq_true, beq_iff_eq, not_and]
      rintro rfl
      rw [hg]
      simpa using he
theorem any_fst {L : List (En × Value)} {l : List En} (h : L.map (·.1) = l) (p : En → Bool) : L.any (fun x => p x.1) = l.any p := by
  rw [← h, List.any_map]; rfl
theorem OwnD.shape {w : World} {base : Nat} {v : Value} {l : List Dn} (h : OwnD w base v l) : ∃ a b c, v = .slice a b c := by
  rcases h.2 with ⟨e, -⟩ | ⟨g, cap, cur, e, -⟩
  · exact ⟨_, _, _, e⟩
  · exact ⟨_, _, _, e⟩
theorem knows_contains {W : World} {base : Nat} {v : Value} {LL : List (En × Value)} {T : Tb} {ks : List Int} (hE : OwnE W base v LL) (hL : LL.map (·.1) = ks.map (entOf T)) (hks : KeysT T ks) (id ep : Int) (gc gd : Nat) (h1 : W.cell? ⟨gc, 0, none⟩ = some (.int .i64 id)) (h2 : W.cell? ⟨gd, 0, none⟩ = some (.int .i64 ep)) (l1 : gc < W.heap.size) (l2 : gd < W.heap.size) :
    ∃ a m c, v = .slice a m c ∧ Calls Tryz.prog 138 #[.slice a m c, .func (.func 140) #[] #[.pointer (some ⟨gc, 0, none⟩), .pointer (some ⟨gd, 0, none⟩)]] W fun e w' => e = .returned (.bool (knownT T id ep)) ∧ Below W.heap.size W w' := by
  obtain ⟨a, c, hv, hA⟩ := OwnK.form (K := kEn) kEn_fit hE.row
  have hsh : ∀ x ∈ LL, ∃ a b c, x.2 = .slice a b c := fun x hx => (hE.each x hx).shape
  have HC := containsEntry gc gd (fun x => x.1.p == id && x.1.e == ep) hA hsh (fun W' hW j hj => by
    obtain ⟨sa, sb, sc, hsl⟩ := hsh _ (getD_mem_any LL en0 j hj)
    rw [hsl]
    exact knows1_any _ _ _ id ep sa sb sc gc gd W' ((hW.cell (p := ⟨gc, 0, none⟩) l1).trans h1) ((hW.cell (p := ⟨gd, 0, none⟩) l2).trans h2) (Nat.lt_of_lt_of_le l1 hW.size) (Nat.lt_of_lt_of_le l2 hW.size))
  have e := any_fst hL (fun x => x.p == id && x.e == ep)
  rw [known_keys hks] at e
  rw [e] at HC
  exact ⟨a, _, c, hv, HC⟩
theorem knowsT_any {T : Tb} (h : TPic w t M n T) (hn : n + 1 ≤ 4000000000000) (id ep : Int) : Calls Tryz.prog 104 #[.agg #[.pointer (some ⟨t, 0, none⟩)], .int .i64 id, .int .i64 ep] w fun e w' => e = .returned (.bool (knownT T id ep)) ∧ Below w.heap.size w w' := by
  obtain ⟨-, ks, -, hks, -⟩ := h.keys
  obtain ⟨W3, hW3⟩ : ∃ W3, ((w.alloc (.cells #[.pointer (some ⟨t, 0, none⟩)] 77)).alloc (.cells #[.int .i64 id] 3)).alloc (.cells #[.int .i64 ep] 3) = W3 := ⟨_, rfl⟩
  have b3 : Below w.heap.size w W3 := by rw [← hW3]; exact (((Below.refl _ w).alloc (Nat.le_refl _) _).alloc (by simp) _).alloc (by simp; omega) _
  have s3 : W3.heap.size = w.heap.size + 3 := by rw [← hW3]; simp
  have g0 : W3.cell? ⟨w.heap.size, 0, none⟩ = some (.pointer (some ⟨t, 0, none⟩)) := by rw [← hW3]; simp [go_sem]
  have g1 : W3.cell? ⟨w.heap.size + 1, 0, none⟩ = some (.int .i64 id) := by rw [← hW3]; simp [go_sem]
  have g2 : W3.cell? ⟨w.heap.size + 1 + 1, 0, none⟩ = some (.int .i64 ep) := by rw [← hW3]; simp [go_sem]
  have HE := hid (Entries_any (h.later b3) hks hn)
  have HKs := hid hks
  have HG := hid (And.intro g1 g2)
  have HG3 : Hid (w.heap.size + 1 < W3.heap.size ∧ w.heap.size + 1 + 1 < W3.heap.size) := ⟨by omega, by omega⟩
  have HB := hid b3
  have hmf : ∀ (fn : Fn) (first cap : Array Value) (w : World), (Instr.makeFunc fn first cap).run Tryz.prog w = .ok (.func fn first cap) w := fun _ _ _ _ => rfl
  clear h hks b3 g1 g2 s3
  go_enter Tryz.func104, Tryz.ntmps104
  go_wp2_with (go_at_call 139; (with_reducible_and_instances (refine HE.out.mono ?_)); rintro e w4 ⟨v, LL, rfl, hE, hL, hb4⟩; obtain ⟨a4, m4, c4, hv, HC⟩ := knows_contains hE hL HKs.out id ep (w.heap.size + 1) (w.heap.size + 1 + 1) ((hb4.cell (p := ⟨w.heap.size + 1, 0, none⟩) (HG3.out.1)).trans HG.out.1) ((hb4.cell (p := ⟨w.heap.size + 1 + 1, 0, none⟩) (HG3.out.2)).trans HG.out.2) (Nat.lt_of_lt_of_le HG3.out.1 hb4.size) (Nat.lt_of_lt_of_le HG3.out.2 hb4.size); subst hv; have HB4 := hid (HB.out.trans (hb4.mono HB.out.size)); have HC2 := hid HC; clear HC hE hL hb4 HE HG)
  go_wp2_with (go_at_call 138; (with_reducible_and_instances (refine HC2.out.mono ?_)); rintro e w5 ⟨rfl, hb5⟩; have HB5 := hid (HB4.out.trans (hb5.mono HB4.out.size)); clear hb5)
  go_ret
  exact ⟨rfl, HB5.out⟩
end Go.Proofs.YtdifchlbnilenaaGreat
