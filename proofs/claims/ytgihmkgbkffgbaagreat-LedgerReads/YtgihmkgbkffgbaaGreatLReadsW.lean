/- The walk of LedgerReads (by genbytesw13.py). -/
import Derived.Test.YtgihmkgbkffgbaaGreatRGetL
import Derived.Test.YtgihmkgbkffgbaaGreatLSameE
import Derived.Test.YtgihmkgbkffgbaaGreatLKnows
namespace Go.Proofs.YtgihmkgbkffgbaaGreat
open Go.RowKit
variable {w : World} {ad : Option Addr} {len cap : Nat} {l : List Nat}

theorem empty_ownL (W : World) (base : Nat) (hb : base ≤ W.heap.size) : (W.alloc (.cells #[] 5)).ownsRow base 5 1 (.slice (some ⟨W.heap.size, 0, none⟩) 0 0) 0 (([] : List Nat).map bv) :=
  ⟨rfl, Or.inr ⟨W.heap.size, 0, #[], rfl, hb, heap_alloc_new W _, Nat.le_refl _, by unfold maxLen; omega, rfl, rfl⟩⟩
theorem got_like {l : List Nat} {kd nn k p e s kd' nn' k' p' e' s' : Int} {t t' : Bool} {rs rs' : List Rec} {a a' : Option Addr} {n c n' c' : Nat} {W W' : World} (h : (⟨kd, nn, ⟨k, p, e, s, t, rs⟩⟩ : Et) = (getE l).1) (h' : (⟨kd', nn', ⟨k', p', e', s', t', rs'⟩⟩ : Et) = (getE l).1) (hb : BArg W ⟨k, p, e, s, t, rs⟩ a n c) (hb' : BArg W' ⟨k', p', e', s', t', rs'⟩ a' n' c') : kd' = kd ∧ nn' = nn ∧ k' = k ∧ p' = p ∧ e' = e ∧ s' = s ∧ t' = t ∧ rs' = rs ∧ n' = n := by
  have h1 := h'.trans h.symm
  simp only [Et.mk.injEq, Bat.mk.injEq] at h1
  obtain ⟨rfl, rfl, rfl, rfl, rfl, rfl, rfl, rfl⟩ := h1
  have l1 : rs'.length = n := hb.len_eq
  have l2 : rs'.length = n' := hb'.len_eq
  exact ⟨rfl, rfl, rfl, rfl, rfl, rfl, rfl, rfl, by omega⟩
theorem cells8L {W : World} {g : Nat} {T : TypeId} {a b c d e f h i : Value} (x : Blk W g #[a, b, c, d, e, f, h, i] T) : W.cell? ⟨g, 0, none⟩ = some a ∧ W.cell? ⟨g, 1, none⟩ = some b ∧ W.cell? ⟨g, 2, none⟩ = some c ∧ W.cell? ⟨g, 3, none⟩ = some d ∧ W.cell? ⟨g, 4, none⟩ = some e ∧ W.cell? ⟨g, 5, none⟩ = some f ∧ W.cell? ⟨g, 6, none⟩ = some h ∧ W.cell? ⟨g, 7, none⟩ = some i := ⟨x.cell 0, x.cell 1, x.cell 2, x.cell 3, x.cell 4, x.cell 5, x.cell 6, x.cell 7⟩
set_option maxRecDepth 100000 in
set_option maxHeartbeats 4000000 in
theorem readsL_walk (hp : Part.ok w ⟨ad, len, cap, l⟩) (hlc : len ≤ cap) (hm : len ≤ 140737488351232) :
    Calls Tryz.prog 3 #[.slice ad len cap] w fun r w' => r = .returned (.bool true) ∧ Below w.heap.size w w' := by
  have HP := hid hp
  have b0 : Below w.heap.size w (w.alloc (.cells #[] 5)) := (Below.refl _ _).alloc (Nat.le_refl _) _
  have HD1 : Hid (∀ (X : World) (v : Value), X.ownsRow w.heap.size 5 1 v len (l.map bv) → ∃ adp cp, v = .slice adp len cp ∧ Hid (Calls Tryz.prog 5 #[.slice adp len cp] X (GetPost l X))) := hid (fun X v ho => by
    have hown : Own X w.heap.size v l := ⟨hp.2.2.1, by rw [hp.1]; exact ho⟩
    obtain ⟨adp, cp, hv, hok, hcap, -⟩ := hown.slice len hp.1
    exact ⟨adp, cp, hv, hid (getEntry_any adp len cp l X hok hcap (by omega))⟩)
  have HD2 : Hid (∀ X, Below w.heap.size w X → Calls Tryz.prog 6 #[.slice ad len cap] X (GetPost l X)) := hid (fun X hX => rgetEntry_any ad len cap l X (hp.later hX) hlc (by omega))
  clear hp
  obtain ⟨E, hE⟩ : ∃ E, (getE l).2 = E := ⟨_, rfl⟩
  unfold GetPost at HD1 HD2
  rw [hE] at HD1 HD2
  clear hE
  go_enter Tryz.func3, Tryz.ntmps3
  go_wp2_with (first
    | (at_builtin; refine app_any rfl _ _ rfl w.heap.size (.slice (some ⟨w.heap.size, 0, none⟩) 0 0) 0 [] rfl (empty_ownL w w.heap.size (Nat.le_refl _)) ad len cap l rfl HP.out.1 HP.out.2.1 (HP.out.2.2.later b0) (by omega) (by simp) ?_; intro v1 w1 hown1 hg1; have B1 := hid (b0.grown hg1 (by simp) (by intro k hk; simp [Value.ownBlock] at hk; omega)); simp only [Nat.zero_add, List.nil_append] at hown1; obtain ⟨adp, cp, rfl, HDC⟩ := HD1.out w1 v1 hown1; clear hg1 hown1)
    | (go_at_call 5; refine HDC.out.mono ?_; rintro r w2 ⟨kd, nn, k, p, e, s, t, rs, a, n, c, rfl, hE1, hA1, hb⟩; have HE1 := hid hE1; have HA1 := hid hA1; have B2 := hid (B1.out.trans (hb.mono B1.out.size)); obtain ⟨w3, hw3⟩ : ∃ x, w2.alloc (.cells #[.int .i64 kd, .int .i64 nn, .int .i64 k, .int .i64 p, .int .i64 e, .int .i64 s, .bool t, .slice a n c] TEt) = x := ⟨_, rfl⟩; have hzw3 : Blk w3 w2.heap.size #[.int .i64 kd, .int .i64 nn, .int .i64 k, .int .i64 p, .int .i64 e, .int .i64 s, .bool t, .slice a n c] TEt := (by rw [← hw3]; exact heap_alloc_new w2 _); have hbw3 : Below w2.heap.size w2 w3 := (by rw [← hw3]; exact (Below.refl _ _).alloc (Nat.le_refl _) _); have HX3 := hid hzw3; have HA3 := hid (hA1.later hbw3); have B3 := hid (B2.out.trans (hbw3.mono B2.out.size)); clear hE1 hA1 hb hzw3 hbw3)
    | (go_at_call 6; refine (HD2.out _ B3.out).mono ?_; rintro r w4 ⟨kd', nn', k', p', e', s', t', rs', a', n', c', rfl, hE2, hA2, hb⟩; obtain ⟨rfl, rfl, rfl, rfl, rfl, rfl, rfl, rfl, rfl⟩ := got_like HE1.out hE2 HA1.out hA2; obtain ⟨w5, hw5⟩ : ∃ x, w4.alloc (.cells #[.int .i64 kd', .int .i64 nn', .int .i64 k', .int .i64 p', .int .i64 e', .int .i64 s', .bool t', .slice a' n' c'] REt) = x := ⟨_, rfl⟩; have hzw5 : Blk w5 w4.heap.size #[.int .i64 kd', .int .i64 nn', .int .i64 k', .int .i64 p', .int .i64 e', .int .i64 s', .bool t', .slice a' n' c'] REt := (by rw [← hw5]; exact heap_alloc_new w4 _); have hbw5 : Below w4.heap.size w4 w5 := (by rw [← hw5]; exact (Below.refl _ _).alloc (Nat.le_refl _) _); have hx5 := (HX3.out.later hb).later hbw5; have lx := hx5.lt; have ly := hzw5.lt; have B4 := hid (B3.out.trans (hb.mono B3.out.size)); have B5 := hid (B4.out.trans (hbw5.mono B4.out.size)); have HSm := hid (sameE_like kd' nn' k' p' e' s' t' rs' a a' n' c c' w5 ((HA3.out.later hb).later hbw5) (hA2.later hbw5)); obtain ⟨x0, x1, x2, x3, x4, x5, x6, x7⟩ := cells8L hx5; obtain ⟨y0, y1, y2, y3, y4, y5, y6, y7⟩ := cells8L hzw5; clear hx5 hE2 hA2 hb hzw5 hbw5)
    | (go_at_call 7; (with_reducible_and_instances (refine HSm.out.mono ?_)); rintro r w6 ⟨rfl, hb6⟩; have B6 := hid (B5.out.trans (hb6.mono B5.out.size)); have HK := hid (knows13 w6); clear hb6)
    | (go_at_call 8; (with_reducible_and_instances (refine (num13_any _ _).mono ?_)); rintro r w99 ⟨rfl, hw99⟩; obtain rfl := hw99.symm)
    | (go_at_call 9; (with_reducible_and_instances (refine HK.out.mono ?_)); rintro r w7 ⟨rfl, hb7⟩; have B7 := hid (B6.out.trans (hb7.mono B6.out.size)); clear hb7))
  go_ret
  exact ⟨rfl, B7.out⟩
end Go.Proofs.YtgihmkgbkffgbaaGreat
