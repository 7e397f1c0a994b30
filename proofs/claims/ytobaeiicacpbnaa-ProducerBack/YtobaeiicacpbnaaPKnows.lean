/- New of package producer; Records, num and knows of the statements of layer 12. -/
import Derived.Test.YtobaeiicacpbnaaPNote
namespace Go.Proofs.Ytobaeiicacpbnaa
open Go.RowKit Go.Shelf
variable {w w' : World} {t M n : Nat} {T : Tb}

/-- Nobody is known. -/
def tb0 : Tb := fun _ => none
theorem num12_any (n : Int) (w : World) : Calls Try.prog 15 #[.int .i64 n] w fun e w' => e = .returned (.int .i64 n) ∧ w' = w := by
  go_enter Try.func15, Try.ntmps15
  go_wp2
  go_ret
  exact ⟨rfl, rfl⟩
theorem New_any (w : World) : Calls Try.prog 9 #[] w fun e w' => e = .returned (.pointer (some ⟨w.heap.size + 1, 0, none⟩)) ∧ TPic w' (w.heap.size + 1) w.heap.size 0 tb0 ∧ Below w.heap.size w w' := by
  have hmm : ∀ (t : TypeId) (w : World), (Instr.makeMap t none).run Try.prog w = .ok (.map (some w.heap.size)) (w.alloc (.map #[] 0)) := fun t w => run_makeMap _ w
  go_enter Try.func9, Try.ntmps9
  go_wp2
  go_ret
  have b1 : Below w.heap.size w (w.alloc (.map #[] 0)) := (Below.refl _ _).alloc (Nat.le_refl _) _
  have b2 : Below w.heap.size w ((w.alloc (.map #[] 0)).alloc (.cells #[.map (some w.heap.size)] TTb)) := b1.alloc (by simp) _
  refine ⟨rfl, ⟨?_, ?_, fun p s h => by cases h⟩, b2⟩
  · have h := heap_alloc_new (w.alloc (.map #[] 0)) (.cells #[.map (some w.heap.size)] TTb)
    rw [show (w.alloc (.map #[] 0)).heap.size = w.heap.size + 1 by simp] at h
    exact h
  · refine (MapF.empty ?_).congr ?_
    · have h := heap_alloc_new w (.map #[] 0)
      rw [Below.heap_alloc _ _ _ (by simp)]
      exact h
    · intro kl
      unfold tbF tb0
      split <;> rfl
/-- The Record of Records. -/
def recK : Rec := ⟨⟨#[107]⟩, ⟨#[]⟩, false⟩
theorem recK_row (w : World) : RRow (w.alloc (.cells #[.string ⟨#[107]⟩, .string ⟨#[]⟩, .bool false] 91)) (some ⟨w.heap.size, 0, none⟩) [recK] := by
  refine Or.inr ⟨w.heap.size, 0, rfl, by simp, fun i hi => ?_⟩
  have hi' : i < 1 := hi
  obtain rfl : i = 0 := by omega
  refine ⟨?_, ?_, ?_⟩
  all_goals rw [cell_of_row _ w.heap.size _ _ 91 (0, 0) (heap_alloc_new w _)]; rfl
theorem recs_step {w W w5 : World} {j : Nat} {v v' : Value} {o : Obj} (hb : Below w.heap.size w W) (hO : OwnR W w.heap.size v (List.replicate j recK)) (hown : w5.ownsRow w.heap.size 91 3 v' (j + 1) (recsV (List.replicate j recK ++ [recK]))) (hg : (W.alloc o).grownBy w5 v.ownBlock) :
    OwnR w5 w.heap.size v' (List.replicate (j + 1) recK) ∧ Below w.heap.size w w5 := by
  refine ⟨?_, ?_⟩
  · unfold OwnR
    rw [List.replicate_succ', List.length_append, List.length_replicate]
    exact hown
  · refine (hb.alloc hb.size o).grown hg (by simp; have := hb.size; omega) (fun k hk => ?_)
    rcases hO.2 with ⟨rfl, -⟩ | ⟨g, c, cur, rfl, hgb, -⟩
    · cases hk
    · cases hk; exact hgb
set_option maxHeartbeats 400000 in
theorem records_any (m : Nat) (hm : m ≤ 64) (w : World) : Calls Try.prog 18 #[.int .i64 (m : Int)] w fun e w' => ∃ v, e = .returned v ∧ OwnR w' w.heap.size v (List.replicate m recK) ∧ Below w.heap.size w w' := by
  go_enter Try.func18, Try.ntmps18
  go_wp2_with fail
  go_loopw [3, 4] (fun v i wr => ∃ j : Nat, j ≤ m ∧ i = .int .i64 (j : Int) ∧ (∃ a c, v = .slice a j c) ∧ Hid (OwnR wr w.heap.size v (List.replicate j recK)) ∧ Hid (Below w.heap.size w wr)) (fun _ i _ => m - (intOf i).toNat)
  case atStart => exact ⟨0, by omega, rfl, ⟨none, 0, rfl⟩, World.ownsRow_nil _ _ _ _, Below.refl _ _⟩
  case round =>
    obtain ⟨j, hj, rfl, ⟨a, c, rfl⟩, HO, HB⟩ := hrel
    by_cases hjm : j < m
    · have HR := hid (recK_row wr)
      have HO2 := hid (HO.out.later ((Below.refl _ wr).alloc (Nat.le_refl _) (.cells #[.string ⟨#[107]⟩, .string ⟨#[]⟩, .bool false] 91)))
      have hszw := HB.out.size
      go_wp2_with (at_builtin; refine app_recs rfl (.tmp 10) (.tmp 12) rfl w.heap.size (.slice a j c) j (List.replicate j recK) rfl (by have h := HO2.out; unfold OwnR at h; rw [List.length_replicate] at h; exact h) (some ⟨wr.heap.size, 0, none⟩) 1 1 [recK] rfl rfl (fun e => by cases e) HR.out (by omega) (by simp; omega) ?_; intro v1 w1 hown1 hg1; obtain ⟨hO1, hB1⟩ := recs_step HB.out HO.out hown1 hg1; obtain ⟨a1, c1, hv1, -⟩ := hO1.form; rw [List.length_replicate] at hv1; subst hv1; have HO1 := hid hO1; have HB1 := hid hB1; clear hO1 hB1 hown1 hg1)
      go_roundw
      case rel => exact ⟨j + 1, by omega, by go_num, ⟨a1, c1, rfl⟩, HO1, HB1⟩
      case measure => simp [intOf]; omega
    · obtain rfl : j = m := by omega
      go_wp2_with fail
      go_ret
      exact ⟨_, rfl, HO.out, HB.out⟩
/-- The batch of knows. -/
def batK (q : Int) : Bat := ⟨1, 1, 0, q, false, List.replicate 2 recK⟩
def tbK : Tb := (notN tb0 (batK 0) 7).2
theorem know1 : decN tb0 (batK 0) = (0, false, 0) := by decide +kernel
theorem know2 : (notN tb0 (batK 0) 7).1 = 0 := by decide +kernel
theorem know3 : decN tbK (batK 0) = (7, true, 0) := by decide +kernel
theorem know4 : decN tbK (batK 3) = (0, false, 51) := by decide +kernel
theorem OwnR.arg {W : World} {base : Nat} {ad : Option Addr} {m cap : Nat} {rs : List Rec} (h : OwnR W base (.slice ad m cap) rs) (hl : rs.length = m) (hs : ∀ r ∈ rs, r.key.size ≤ maxLen ∧ r.val.size ≤ maxLen) (k p e q : Int) (tx : Bool) : BArg W ⟨k, p, e, q, tx, rs⟩ ad m cap := by
  obtain ⟨a, c, hv, h1, h2, h3, h4⟩ := h.form
  rw [hl] at hv h1 h2
  cases hv
  exact ⟨hl, h1, h2, h3, h4, hs⟩
theorem recK_size (m : Nat) : ∀ r ∈ List.replicate m recK, r.key.size ≤ maxLen ∧ r.val.size ≤ maxLen := by
  intro r hr
  rw [(List.mem_replicate.1 hr).2]
  exact ⟨by decide, by decide⟩
theorem OwnR.chg {w w' : World} {N : Nat} {F : List Nat} {v : Value} {rs : List Rec} (h : OwnR w N v rs) (hb : Chg F w w') (hn : ∀ g, v.ownBlock = some g → g ∉ F) : OwnR w' N v rs := by
  refine ⟨h.1, ?_⟩
  rcases h.2 with h2 | ⟨g, cap, cur, hv, hgb, hg, r⟩
  · exact Or.inl h2
  · refine Or.inr ⟨g, cap, cur, hv, hgb, ?_, r⟩
    have hlt : g < w.heap.size := by
      rcases Nat.lt_or_ge g w.heap.size with hlt | hge
      · exact hlt
      · rw [Array.getElem?_eq_none hge] at hg; cases hg
    rw [hb.block g hlt (hn g (by rw [hv]; rfl))]
    exact hg
theorem BBox.chg {w w' : World} {B : Nat} {F : List Nat} {k p e q : Int} {tx : Bool} {v : Value} (h : BBox w B k p e q tx v) (hb : Chg F w w') (hn : B ∉ F) : BBox w' B k p e q tx v := (hb.block B h.lt hn).trans h
/-- A table beside a batch of the caller's own, in its box. -/
structure KP (w : World) (t M B N : Nat) (n : Nat) (T : Tb) (k p e q : Int) (rs : List Rec) (a : Option Addr) (m c : Nat) (W : World) : Prop where
  tab : TPic W t M n T
  box : BBox W B k p e q false (.slice a m c)
  own : OwnR W N (.slice a m c) rs
  below : Below w.heap.size w W
  len : rs.length = m
  apart : M ≠ B ∧ t ≠ B ∧ w.heap.size ≤ M ∧ w.heap.size ≤ B
  ow : ∀ g, (Value.slice a m c).ownBlock = some g → g ≠ M ∧ g ≠ B
variable {B N : Nat} {k p e q : Int} {rs : List Rec} {a : Option Addr} {m c : Nat} {W W' : World}
theorem KP.later (h : KP w t M B N n T k p e q rs a m c W) (hb : Below W.heap.size W W') : KP w t M B N n T k p e q rs a m c W' := ⟨h.tab.later hb, h.box.later hb, h.own.later hb, h.below.trans (hb.mono h.below.size), h.len, h.apart, h.ow⟩
theorem KP.noted (h : KP w t M B N n T k p e q rs a m c W) {n' : Nat} {T' : Tb} (ht : TPic W' t M n' T') (hc : Chg [M] W W') : KP w t M B N n' T' k p e q rs a m c W' := by
  obtain ⟨x1, x2, x3, x4⟩ := h.apart
  exact ⟨ht, h.box.chg hc (by simp; omega), h.own.chg hc (fun g hg => by simp; exact (h.ow g hg).1), h.below.trans (hc.below (N := w.heap.size) (fun g hg => by simp at hg; omega) h.below.size), h.len, h.apart, h.ow⟩
theorem KP.set (h : KP w t M B N n T k p e q rs a m c W) (q' : Int) : KP w t M B N n T k p e q' rs a m c (W.setCell ⟨B, 3, none⟩ (.int .i64 q')) := by
  obtain ⟨x1, x2, x3, x4⟩ := h.apart
  have hc : Chg [B] W (W.setCell ⟨B, 3, none⟩ (.int .i64 q')) := (Chg.refl _ _).set (Or.inl (by simp)) _ _
  exact ⟨h.tab.chg hc (by simp; omega) (by simp; omega), Blk.set (T := 33) h.box 3 _, h.own.chg hc (fun g hg => by simp; exact (h.ow g hg).2), h.below.setCell (p := ⟨B, 3, none⟩) x4 _, h.len, h.apart, h.ow⟩
theorem KP.decide (h : KP w t M B N n T k p e q rs a m c W) (hs : ∀ r ∈ rs, r.key.size ≤ maxLen ∧ r.val.size ≤ maxLen) :
    Calls Try.prog 17 #[.pointer (some ⟨t, 0, none⟩), .agg #[.int .i64 k, .int .i64 p, .int .i64 e, .int .i64 q, .bool false, .slice a m c]] W fun x w' => x = .returned (decV (decN T ⟨k, p, e, q, false, rs⟩)) ∧ Below W.heap.size W w' := Decide_any h.tab k p e q false rs a m c (h.own.arg h.len hs _ _ _ _ _)
theorem KP.note (h : KP w t M B N n T k p e q rs a m c W) (hn : n < maxLen) (hs : ∀ r ∈ rs, r.key.size ≤ maxLen ∧ r.val.size ≤ maxLen) (o : Int) :
    Calls Try.prog 19 #[.pointer (some ⟨t, 0, none⟩), .agg #[.int .i64 k, .int .i64 p, .int .i64 e, .int .i64 q, .bool false, .slice a m c], .int .i64 o] W fun x w' => x = .returned (.int .i64 (notN T ⟨k, p, e, q, false, rs⟩ o).1) ∧ KP w t M B N (n + 1) (notN T ⟨k, p, e, q, false, rs⟩ o).2 k p e q rs a m c w' ∧ Chg [M] W w' := by
  refine (Note_any h.tab hn k p e q false rs a m c o (h.own.arg h.len hs _ _ _ _ _)).mono ?_
  rintro x w' ⟨rfl, h1, h2⟩
  exact ⟨rfl, h.noted h1 h2, h2⟩
set_option maxRecDepth 20000 in
set_option maxHeartbeats 1000000 in
theorem knows12 (w : World) : Calls Try.prog 10 #[] w fun e w' => e = .returned (.bool true) ∧ Below w.heap.size w w' := by
  go_enter Try.func10, Try.ntmps10
  go_wp2_with (first
    | (go_at_call 9; refine (New_any _).mono ?_; rintro x w1 ⟨rfl, hp1, hb1⟩)
    | (go_at_call 18; refine (records_any 2 (by omega) _).mono ?_; rintro x w2 ⟨v, rfl, ho2, hb2⟩; obtain ⟨a2, c2, hv2, -⟩ := ho2.form; rw [List.length_replicate] at hv2; subst hv2; have HO2 := hid ho2; have HP2 := hid (hp1.later hb2); have HB2 := hid (hb1.trans (hb2.mono hb1.size)); have hs1 : w.heap.size + 2 ≤ w1.heap.size := (by have := hp1.lt.1; omega); have hs2 := hb2.size; clear hp1 hb1 hb2 ho2))
  obtain ⟨W3, hW3⟩ : ∃ W3, w2.alloc (.cells #[.int .i64 1, .int .i64 1, .int .i64 0, .int .i64 0, .bool false, .slice a2 2 c2] 33) = W3 := ⟨_, rfl⟩
  have b3 : Below w2.heap.size w2 W3 := by rw [← hW3]; exact (Below.refl _ _).alloc (Nat.le_refl _) _
  have K3 : KP w (w.heap.size + 1) w.heap.size w2.heap.size w1.heap.size 0 tb0 1 1 0 0 (List.replicate 2 recK) a2 2 c2 W3 := by
    refine ⟨HP2.out.later b3, by rw [← hW3]; exact BBox.new w2 1 1 0 0 false _, HO2.out.later b3, HB2.out.trans (b3.mono HB2.out.size), by simp, ⟨by omega, by omega, by omega, by omega⟩, fun g hg => ?_⟩
    rcases HO2.out.2 with ⟨e, -⟩ | ⟨g', c', cur, e, hgb, hgc, -⟩
    · cases e
    · cases e; cases hg
      have hlt : g' < w2.heap.size := (Array.getElem?_eq_some_iff.1 hgc).1
      show g' ≠ w.heap.size ∧ g' ≠ w2.heap.size
      omega
  have HK3 := hid K3
  have hd1 := hid (K3.decide (recK_size 2))
  have e1 : decN tb0 ⟨1, 1, 0, 0, false, List.replicate 2 recK⟩ = (0, false, 0) := know1
  rw [e1] at hd1
  clear K3 b3 HP2 HO2 HB2 e1
  unfold decV at hd1
  have hl3 := HK3.out.box.lt
  go_wp2_with (go_at_call 17; (with_reducible_and_instances (refine hd1.out.mono ?_)); rintro x w4 ⟨rfl, hb4⟩; have HK4 := hid (HK3.out.later hb4); have d0 := HK4.out.box.c0; have d1 := HK4.out.box.c1; have d2 := HK4.out.box.c2; have d3 := HK4.out.box.c3; have d4 := HK4.out.box.c4; have d5 := HK4.out.box.c5; clear hd1 hb4 HK3)
  have hn4 := hid (HK4.out.note (by unfold maxLen; omega) (recK_size 2) 7)
  have e2 : (notN tb0 ⟨1, 1, 0, 0, false, List.replicate 2 recK⟩ 7).1 = 0 := know2
  have e3 : (notN tb0 ⟨1, 1, 0, 0, false, List.replicate 2 recK⟩ 7).2 = tbK := rfl
  rw [e2, e3] at hn4
  clear e2 e3
  go_wp2_with (go_at_call 19; (with_reducible_and_instances (refine hn4.out.mono ?_)); rintro x w5 ⟨rfl, hk5, hc5⟩; have HK5 := hid hk5; have d0 := HK5.out.box.c0; have d1 := HK5.out.box.c1; have d2 := HK5.out.box.c2; have d3 := HK5.out.box.c3; have d4 := HK5.out.box.c4; have d5 := HK5.out.box.c5; clear hn4 hk5 hc5 HK4)
  have hd5 := hid (HK5.out.decide (recK_size 2))
  have e1 : decN tbK ⟨1, 1, 0, 0, false, List.replicate 2 recK⟩ = (7, true, 0) := know3
  rw [e1] at hd5
  unfold decV at hd5
  clear e1
  go_wp2_with (go_at_call 17; (with_reducible_and_instances (refine hd5.out.mono ?_)); rintro x w6 ⟨rfl, hb6⟩; have HK6 := hid (HK5.out.later hb6); have d3 := HK6.out.box.c3; have f3 := HK6.out.box.free 3; have HK7 := hid (HK6.out.set 3); have d0 := HK7.out.box.c0; have d1 := HK7.out.box.c1; have d2 := HK7.out.box.c2; have d4 := HK7.out.box.c4; have d5 := HK7.out.box.c5; have d6 := HK7.out.box.c3; clear hd5 hb6 HK5)
  have hd7 := hid (HK7.out.decide (recK_size 2))
  have e1 : decN tbK ⟨1, 1, 0, 3, false, List.replicate 2 recK⟩ = (0, false, 51) := know4
  rw [e1] at hd7
  unfold decV at hd7
  clear e1
  go_wp2_with (first
    | (go_at_call 17; (with_reducible_and_instances (refine hd7.out.mono ?_)); rintro x w8 ⟨rfl, hb8⟩; have HB8 := hid (HK7.out.later hb8).below; clear hd7 hb8 HK7)
    | (go_at_call 15; refine (num12_any _ _).mono ?_; rintro x w9 ⟨rfl, hw9⟩; obtain rfl := hw9.symm))
  go_ret
  exact ⟨rfl, HB8.out⟩
end Go.Proofs.Ytobaeiicacpbnaa
