/- knows of the statements of layer 14: what must come. -/
import Derived.Test.YtakpdhmfbgfblaaARange
import Derived.Test.YtakpdhmfbgfblaaAKnM
namespace Go.Proofs.Ytakpdhmfbgfblaa
open Go.RowKit
variable {w w' : World}

theorem num14_any (e : Int) (w : World) : Calls Try.prog 9 #[.int .i64 e] w fun r w' => r = .returned (.int .i64 e) ∧ w' = w := by
  go_enter Try.func9, Try.ntmps9
  go_wp2_with fail
  go_ret
  exact ⟨rfl, rfl⟩
theorem two_names (W : World) (a b : Nm) : ArgK kS (W.alloc (.cells #[.string (nmS a), .string (nmS b)] 9)) [a, b] (some ⟨W.heap.size, 0, none⟩) 2 2 := by
  have hb : Blk (W.alloc (.cells #[.string (nmS a), .string (nmS b)] 9)) W.heap.size _ _ := heap_alloc_new W _
  refine ⟨rfl, (fun e => by cases e), by omega, by unfold maxLen; omega, Or.inr ⟨_, 0, rfl, by simp, fun i hi c hc => ?_⟩⟩
  have h1 : kS.sz = 1 := rfl
  obtain rfl : c = 0 := by omega
  rw [h1, Nat.mul_one, Nat.zero_add, Nat.add_zero, hb.cell i]
  rcases (show i = 0 ∨ i = 1 by simp at hi; omega) with rfl | rfl <;> rfl
theorem ints_row (W : World) (l : List Int) (hm : l.length ≤ 1000) : ArgK kZ (W.alloc (.cells (l.map (Value.int .i64)).toArray 3)) l (some ⟨W.heap.size, 0, none⟩) l.length l.length := by
  have hb : Blk (W.alloc (.cells (l.map (Value.int .i64)).toArray 3)) W.heap.size _ _ := heap_alloc_new W _
  refine ⟨rfl, (fun e => by cases e), Nat.le_refl _, by unfold maxLen; omega, Or.inr ⟨_, 0, rfl, by simp, fun i hi c hc => ?_⟩⟩
  have h1 : kZ.sz = 1 := rfl
  obtain rfl : c = 0 := by omega
  rw [h1, Nat.mul_one, Nat.zero_add, Nat.add_zero, hb.cell i]
  rw [List.getElem?_toArray, List.getElem?_map, List.getElem?_eq_getElem hi, List.getD_eq_getElem?_getD, List.getElem?_eq_getElem hi]
  rfl
/-- The document's shares that knows builds. -/
theorem ref_two (W : World) (a b : Nm) (x y z : Int) : ShV kR (((W.alloc (.cells #[.int .i64 x, .int .i64 y] 3)).alloc (.cells #[.int .i64 z] 3)).alloc (.cells #[.string (nmS a), .slice (some ⟨W.heap.size, 0, none⟩) 2 2, .string (nmS b), .slice (some ⟨W.heap.size + 1, 0, none⟩) 1 1] 41))
    [(a, ⟨some ⟨W.heap.size, 0, none⟩, 2, 2⟩), (b, ⟨some ⟨W.heap.size + 1, 0, none⟩, 1, 1⟩)] [[x, y], [z]] (some ⟨W.heap.size + 1 + 1, 0, none⟩) 2 2 := by
  have r1 := ints_row W [x, y] (by simp)
  have r2 := ints_row (W.alloc (.cells #[.int .i64 x, .int .i64 y] 3)) [z] (by simp)
  rw [World.size_alloc] at r2
  obtain ⟨W1, hW1⟩ : ∃ W1, W.alloc (.cells #[.int .i64 x, .int .i64 y] 3) = W1 := ⟨_, rfl⟩
  have r1' : ArgK kZ W1 [x, y] (some ⟨W.heap.size, 0, none⟩) 2 2 := by rw [← hW1]; exact r1
  have s1 : W1.heap.size = W.heap.size + 1 := by rw [← hW1]; simp
  rw [hW1] at r2 ⊢
  obtain ⟨W2, hW2⟩ : ∃ W2, W1.alloc (.cells #[.int .i64 z] 3) = W2 := ⟨_, rfl⟩
  have r2' : ArgK kZ W2 [z] (some ⟨W.heap.size + 1, 0, none⟩) 1 1 := by rw [← hW2]; exact r2
  have b12 : Below W1.heap.size W1 W2 := by rw [← hW2]; exact (Below.refl _ _).alloc (Nat.le_refl _) _
  have s2 : W2.heap.size = W.heap.size + 1 + 1 := by rw [← hW2]; simp [s1]
  rw [hW2]
  obtain ⟨W3, hW3⟩ : ∃ W3, W2.alloc (.cells #[.string (nmS a), .slice (some ⟨W.heap.size, 0, none⟩) 2 2, .string (nmS b), .slice (some ⟨W.heap.size + 1, 0, none⟩) 1 1] 41) = W3 := ⟨_, rfl⟩
  have b23 : Below W2.heap.size W2 W3 := by rw [← hW3]; exact (Below.refl _ _).alloc (Nat.le_refl _) _
  have x3 : Blk W3 (W.heap.size + 1 + 1) #[.string (nmS a), .slice (some ⟨W.heap.size, 0, none⟩) 2 2, .string (nmS b), .slice (some ⟨W.heap.size + 1, 0, none⟩) 1 1] 41 := by rw [← hW3, ← s2]; exact heap_alloc_new W2 _
  rw [hW3]
  refine ⟨⟨rfl, (fun e => by cases e), by omega, by unfold maxLen; omega, Or.inr ⟨_, 0, rfl, x3.lt, fun i hi c hc => ?_⟩⟩, rfl, fun i hi => ?_⟩
  · have h1 : kR.sz = 2 := rfl
    rw [h1, Nat.zero_add, x3.cell]
    rcases (show i = 0 ∨ i = 1 by simp at hi; omega) with rfl | rfl <;> rcases (show c = 0 ∨ c = 1 by omega) with rfl | rfl <;> rfl
  · rcases (show i = 0 ∨ i = 1 by simp at hi; omega) with rfl | rfl
    · exact (r1'.later b12).later b23
    · exact r2'.later b23
/-- Range's and Sticky's answers, opened. -/
theorem AnsP.open {names : List Nm} {P : List (List Int)} {e : Ending} {m : Nat} (h : AnsP w true names P e w') (hm : names.length = m) : ∃ a A c, e = .returned (.tuple #[.slice a m c, .int .i64 0]) ∧ Shs w' w.heap.size (.slice a m c) A P ∧ A.map (·.1) = names ∧ Below w.heap.size w w' := by
  obtain ⟨⟨v, A, h1, h2, h3⟩, h4⟩ := h
  obtain ⟨a, c, e1, -⟩ := h2.view
  have hl : A.length = m := by have := congrArg List.length h3; rw [List.length_map, hm] at this; exact this
  rw [hl] at e1
  subst e1
  exact ⟨a, A, c, h1, h2, h3, h4⟩
theorem Shs.old {base m c : Nat} {a : Option Addr} {A : List ShA} {P : List (List Int)} (h : Shs w base (.slice a m c) A P) (hn : ∀ i, i < A.length → (A.getD i sh0).1.length ≤ maxLen) : OldA w A P a m c := by
  obtain ⟨a', c', e, hv⟩ := h.view
  obtain ⟨rfl, rfl, rfl⟩ : a = a' ∧ m = A.length ∧ c = c' := by injection e with e1 e2 e3; exact ⟨e1, e2, e3⟩
  exact ⟨hv.row, hv.len, hv.part, hn⟩
theorem names_small {A : List ShA} {names : List Nm} (h : A.map (·.1) = names) (hn : ∀ s ∈ names, s.length ≤ 64) : ∀ i, i < A.length → (A.getD i sh0).1.length ≤ maxLen := fun i hi => by
  have : (A.getD i sh0).1 ∈ names := by
    rw [← h, List.mem_map]
    exact ⟨A.getD i sh0, by rw [List.getD_eq_getElem?_getD, List.getElem?_eq_getElem hi]; exact List.getElem_mem hi, rfl⟩
  have := hn _ this
  unfold maxLen
  omega
/-- Same of shares against what knows builds. -/
theorem same_kn {A : List ShA} {a : Option Addr} {c base : Nat} {n0 n1 : Nm} {x y z : Int} {W V : World} (h : Shs W base (.slice a 2 c) A [[x, y], [z]]) (hN : A.map (·.1) = [n0, n1]) (hb : Below W.heap.size W V) :
    Calls Try.prog 8 #[.slice a 2 c, .slice (some ⟨V.heap.size + 1 + 1, 0, none⟩) 2 2] (((V.alloc (.cells #[.int .i64 x, .int .i64 y] 3)).alloc (.cells #[.int .i64 z] 3)).alloc (.cells #[.string (nmS n0), .slice (some ⟨V.heap.size, 0, none⟩) 2 2, .string (nmS n1), .slice (some ⟨V.heap.size + 1, 0, none⟩) 1 1] 41)) fun e w' => e = .returned (.bool true) ∧ Below V.heap.size V w' := by
  obtain ⟨a', c', e, hv⟩ := h.view
  have hl : A.length = 2 := by have := congrArg List.length hN; simpa using this
  obtain ⟨rfl, rfl⟩ : a = a' ∧ c = c' := by injection e with e1 e2 e3; exact ⟨e1, e3⟩
  rw [hl] at hv
  have b3 : Below V.heap.size V (((V.alloc (.cells #[.int .i64 x, .int .i64 y] 3)).alloc (.cells #[.int .i64 z] 3)).alloc (.cells #[.string (nmS n0), .slice (some ⟨V.heap.size, 0, none⟩) 2 2, .string (nmS n1), .slice (some ⟨V.heap.size + 1, 0, none⟩) 1 1] 41)) := (((Below.refl _ _).alloc (Nat.le_refl _) _).alloc (by simp) _).alloc (by simp; omega) _
  refine (same_any (hv.later (hb.trans (b3.mono hb.size))) (ref_two V n0 n1 x y z)).mono ?_
  rintro r w' ⟨rfl, hb2⟩
  refine ⟨?_, b3.trans (hb2.mono b3.size)⟩
  have : sameB A [[x, y], [z]] [(n0, ⟨some ⟨V.heap.size, 0, none⟩, 2, 2⟩), (n1, ⟨some ⟨V.heap.size + 1, 0, none⟩, 1, 1⟩)] [[x, y], [z]] = true := by simp [sameB, hN]
  rw [this]
set_option maxHeartbeats 2000000 in
theorem knows14 (w : World) : Calls Try.prog 10 #[] w fun e w' => e = .returned (.bool true) ∧ Below w.heap.size w w' := by
  have HR := hid (range_any (two_names w [98] [97]) 3 (by omega))
  rw [may_ba, risN_ba, show (3 : Int).toNat = 3 from rfl, range_kn] at HR
  have HSt : Hid (∀ (W : World) (A : List ShA) (a : Option Addr) (c : Nat), OldA W A [[0, 1], [2]] a 2 c → A.map (·.1) = [[97], [98]] → Calls Try.prog 6 #[.slice a 2 c, .slice (some ⟨W.heap.size, 0, none⟩) 2 2, .int .i64 3] (W.alloc (.cells #[.string (nmS [98]), .string (nmS [99])] 9)) fun e w' => AnsP (W.alloc (.cells #[.string (nmS [98]), .string (nmS [99])] 9)) true [[98], [99]] [[1, 2], [0]] e w') := fun W A a c ho hA => by
    have h := sticky_any (ho.later ((Below.refl _ W).alloc (Nat.le_refl _) _)) (two_names W [98] [99]) 3 (by omega)
    rw [may_bc, risN_bc, show (3 : Int).toNat = 3 from rfl, hA, sticky_kn] at h
    exact h
  have HB1 := hid ((Below.refl w.heap.size w).alloc (Nat.le_refl _) (.cells #[.string (nmS [98]), .string (nmS [97])] 9))
  have e98 : nmS [98] = ⟨#[98]⟩ := rfl
  have e97 : nmS [97] = ⟨#[97]⟩ := rfl
  have e99 : nmS [99] = ⟨#[99]⟩ := rfl
  rw [e98, e97] at HR HB1
  simp only [e98, e99] at HSt
  go_enter Try.func10, Try.ntmps10
  go_wp2_with (first
    | (go_at_call 11; (with_reducible_and_instances (refine HR.out.mono ?_)); rintro e w1 hans; obtain ⟨a, A, c, rfl, hS, hN, hb⟩ := hans.open rfl; have HS := hid hS; have HN := hid hN; have HB2 := hid hb; have HT := hid (HSt.out w1 A a c (hS.old (names_small hN (by simp))) hN); clear hS hN hb hans)
    | (go_at_call 6; (with_reducible_and_instances (refine HT.out.mono ?_)); rintro e w2 hans; obtain ⟨a2, A2, c2, rfl, hS, hN, hb⟩ := hans.open rfl; have HS2 := hid hS; have HN2 := hid hN; have HB3 := hid hb; have HB23 := hid (((Below.refl w1.heap.size w1).alloc (Nat.le_refl _) (.cells #[.string ⟨#[98]⟩, .string ⟨#[99]⟩] 9)).trans (hb.mono (by simp))); have HM1 := hid (same_kn (n0 := [97]) (n1 := [98]) HS.out HN.out HB23.out); rw [e97, e98] at HM1; clear hS hN hb hans)
    | (go_at_call 9; refine (num14_any _ _).mono ?_; rintro e w3 ⟨rfl, hw3⟩; obtain rfl := hw3.symm)
    | (go_at_call 8; (with_reducible_and_instances (refine HM1.out.mono ?_)); rintro e w4 ⟨rfl, hb4⟩; have HB4 := hid hb4; have HM2 := hid (same_kn (n0 := [98]) (n1 := [99]) HS2.out HN2.out hb4); rw [e98, e99] at HM2; clear hb4 HM1)
    | (go_at_call 8; (with_reducible_and_instances (refine HM2.out.mono ?_)); rintro e w5 ⟨rfl, hb5⟩; have HB5 := hid hb5; clear hb5))
  go_ret
  refine ⟨rfl, ?_⟩
  have b1 := HB1.out.trans (HB2.out.mono HB1.out.size)
  have b2 := b1.trans (HB23.out.mono b1.size)
  have b3 := b2.trans (HB4.out.mono b2.size)
  exact b3.trans (HB5.out.mono b3.size)
end Go.Proofs.Ytakpdhmfbgfblaa
