/- NetPlays of the statements of layer 6. -/
import Derived.Test.YtgbjlkaaniaaaaaDoorPStepS
namespace Go.Proofs.YtgbjlkaaniaaaaaDoor
open Go.RowKit
variable {w w0 wi : World} {F G : List Nat} {D R D1 R1 D2 R2 : Nat} {s sa sb : NSt}

/-- What an Op does with a net. -/
def opD (s : NSt) (o : OpD) : NSt := if o.kind = 0 then luckD s o.cs else if o.kind = 1 then sendD s o.n o.bs else if o.kind = 2 then s else if o.kind = 3 then takeD s o.n else doubleD s o.n
theorem opD_luck (s : NSt) (o : OpD) (h : o.cs.length ≤ 1048576) : (opD s o).luck.length ≤ s.luck.length + 1048576 := by
  unfold opD
  split
  · show (s.luck ++ o.cs).length ≤ _; rw [List.length_append]; omega
  · split
    · show s.luck.tail.length ≤ _; rw [List.length_tail]; omega
    · split
      · omega
      · split
        · unfold takeD; split <;> (show s.luck.length ≤ _) <;> omega
        · unfold doubleD; split <;> (show s.luck.length ≤ _) <;> omega
theorem opD_late (s : NSt) (o : OpD) : (opD s o).late.length ≤ s.late.length + 1 := by
  unfold opD
  split
  · show s.late.length ≤ _; omega
  · split
    · unfold sendD
      simp only
      split
      · rw [List.length_append]; simp
      · omega
    · split
      · omega
      · split
        · unfold takeD
          split
          · show (s.late.eraseIdx _).length ≤ _
            have := List.length_eraseIdx_le s.late o.n.toNat
            omega
          · omega
        · unfold doubleD
          split
          · show (s.late ++ [_]).length ≤ _; rw [List.length_append]; simp
          · omega
theorem step_any (h : PS w F G D R s s) (hT : Tab w) (h0 : 0 ∉ F ∧ 0 ∉ G) (o : OpD) (hf : Far w F G o) (hb : s.luck.length ≤ 1099511627776) (hl : s.late.length ≤ 2097152) :
    Calls Tryd.prog 10 #[.pointer (some ⟨D, 0, none⟩), .pointer (some ⟨R, 0, none⟩), .agg #[.int .i64 o.kind, .int .i64 o.n, .slice o.b o.blen o.bcap, .slice o.l o.llen o.lcap]] w (StepPost w F G D R (opD s o)) := by
  obtain ⟨kd, n, ob, obl, obc, ol, oll, olc, bs, cs⟩ := o
  unfold opD
  simp only
  by_cases k0 : kd = 0
  · subst k0; exact step0 h n ob obl obc ol oll olc bs cs hf hb
  · rw [if_neg k0]
    by_cases k1 : kd = 1
    · subst k1; exact step1 h hT h0 n ob obl obc ol oll olc bs cs hf hb hl
    · rw [if_neg k1]
      by_cases k2 : kd = 2
      · subst k2; exact step2 h n ob obl obc ol oll olc
      · rw [if_neg k2]
        by_cases k3 : kd = 3
        · subst k3; exact step3 h n ob obl obc ol oll olc hl
        · rw [if_neg k3]
          exact step4 h kd n ob obl obc ol oll olc (by simpa using k0) (by simpa using k1) (by simpa using k2) (by simpa using k3) hl
/-- Two nets, each beside the document's. -/
def Two (w0 w : World) (D1 R1 D2 R2 : Nat) (sa sb : NSt) : Prop := ∃ F1 G1 F2 G2, PS w F1 G1 D1 R1 sa sa ∧ PS w F2 G2 D2 R2 sb sb ∧ (∀ g ∈ F1 ++ G1, g ∉ F2 ++ G2) ∧ (∀ g ∈ F1 ++ G1, w0.heap.size ≤ g) ∧ (∀ g ∈ F2 ++ G2, w0.heap.size ≤ g) ∧ Below w0.heap.size w0 w
theorem Two.swap (h : Two w0 w D1 R1 D2 R2 sa sb) : Two w0 w D2 R2 D1 R1 sb sa := by
  obtain ⟨F1, G1, F2, G2, h1, h2, h3, h4, h5, h6⟩ := h
  exact ⟨F2, G2, F1, G1, h2, h1, fun g hg hm => h3 g hm hg, h5, h4, h6⟩
theorem Two.below (h : Two w0 w D1 R1 D2 R2 sa sb) : Below w0.heap.size w0 w := by
  obtain ⟨F1, G1, F2, G2, h1, h2, h3, h4, h5, h6⟩ := h
  exact h6
theorem Two.later (h : Two w0 w D1 R1 D2 R2 sa sb) (hb : Below w.heap.size w wi) : Two w0 wi D1 R1 D2 R2 sa sb := by
  obtain ⟨F1, G1, F2, G2, h1, h2, h3, h4, h5, h6⟩ := h
  exact ⟨F1, G1, F2, G2, h1.later hb, h2.later hb, h3, h4, h5, h6.trans (hb.mono h6.size)⟩
theorem PS.lt (h : PS w F G D R s s) : ∀ g ∈ F ++ G, g < w.heap.size := fun g hg => by
  rcases List.mem_append.1 hg with hg | hg
  · exact h.n.lt g hg
  · exact h.q.lt g hg
theorem OpD.ok.later {o : OpD} (h : o.ok w) (hb : Below w.heap.size w wi) : o.ok wi := ⟨h.n, h.text.later hb, h.text2, h.nums.later hb, h.lnone, h.bl, h.ll⟩
/-- A step of the first pair. -/
theorem Two.step (h : Two w0 w D1 R1 D2 R2 sa sb) (hT : Tab w0) (o : OpD) (ho : o.ok w0) (hb : sa.luck.length ≤ 1099511627776) (hl : sa.late.length ≤ 2097152) :
    Calls Tryd.prog 10 #[.pointer (some ⟨D1, 0, none⟩), .pointer (some ⟨R1, 0, none⟩), .agg #[.int .i64 o.kind, .int .i64 o.n, .slice o.b o.blen o.bcap, .slice o.l o.llen o.lcap]] w fun e w' => e = .returned (.bool true) ∧ Two w0 w' D1 R1 D2 R2 (opD sa o) sb := by
  obtain ⟨F1, G1, F2, G2, h1, h2, h3, h4, h5, h6⟩ := h
  have hlow : ∀ g, g < w0.heap.size → g ∉ F1 ∧ g ∉ G1 := fun g hg => ⟨fun hm => by have := h4 g (by simp [hm]); omega, fun hm => by have := h4 g (by simp [hm]); omega⟩
  have hfar : Far w F1 G1 o := by
    refine ⟨ho.later h6, fun b off e e2 => ?_, fun b off e e2 => ?_⟩
    · rcases ho.text.2.2.2 with h0 | ⟨b', off', e', hb', -⟩
      · exact absurd h0 e2
      · rw [show (⟨o.b, o.blen, o.bcap, o.bs⟩ : Part).ad = o.b from rfl, e] at e'
        cases e'
        exact ⟨Nat.lt_of_lt_of_le hb' h6.size, hlow b hb'⟩
    · rcases ho.nums.row with h0 | ⟨b', off', e', hb', -⟩
      · exact absurd h0 e2
      · rw [e] at e'
        cases e'
        exact ⟨Nat.lt_of_lt_of_le hb' h6.size, hlow b hb'⟩
  refine (step_any h1 (hT.low hT.1 h6) (hlow 0 hT.1) o hfar hb hl).mono ?_
  rintro e w' ⟨rfl, F', G', hr⟩
  have hin : ∀ g ∈ F' ++ G', g ∈ F1 ++ G1 ∨ w.heap.size ≤ g := fun g hg => by
    rcases List.mem_append.1 hg with hg | hg
    · rcases hr.f g hg with h | h
      · exact Or.inl (by simp [h])
      · exact Or.inr h
    · rcases hr.g g hg with h | h
      · exact Or.inl (by simp [h])
      · exact Or.inr h
  have hk : ∀ g ∈ F2 ++ G2, w'.heap[g]? = w.heap[g]? := fun g hg => hr.c.block g (h2.lt g hg) (fun hm => h3 g hm hg)
  refine ⟨rfl, F', G', F2, G2, hr.ps, ⟨h2.n.keep (fun g hg => hk g (by simp [hg])) hr.c.size, h2.q.keep (fun g hg => hk g (by simp [hg])) hr.c.size, h2.d⟩, fun g hg hm => ?_, fun g hg => ?_, h5, h6.trans (hr.c.below h4 h6.size)⟩
  · rcases hin g hg with h | h
    · exact h3 g h hm
    · have := h2.lt g hm; omega
  · rcases hin g hg with h | h
    · exact h4 g h
    · exact Nat.le_trans h6.size h
theorem new_q (w : World) (h : w.heap[R]? = some (.cells #[.slice none 0 0, .slice none 0 0] TR (0, 0))) : Qk w [R] R new0 :=
  ⟨_, _, [], ⟨h, OffRow.nil _ _ _, OffRow.nil _ _ _, fun q hq => (by cases hq), by simp, fun g hg => (by cases hg), fun g hg => (by cases hg), fun g hg => by simp at hg; subst hg; exact (Array.getElem?_eq_some_iff.1 h).1⟩, rfl⟩
/-- Between two rounds. -/
structure Pl (w0 w : World) (D1 R1 D2 R2 m : Nat) : Prop where
  ex : ∃ sa sb, Two w0 w D1 R1 D2 R2 sa sb ∧ sa.luck.length ≤ m * 1048576 ∧ sa.late.length ≤ m ∧ sb.luck.length ≤ m * 1048576 ∧ sb.late.length ≤ m
theorem Pl.below {m : Nat} (h : Pl w0 w D1 R1 D2 R2 m) : Below w0.heap.size w0 w := by
  obtain ⟨sa, sb, h, _⟩ := h.ex
  exact h.below
theorem Pl.swap {m : Nat} (h : Pl w0 w D1 R1 D2 R2 m) : Pl w0 w D2 R2 D1 R1 m := by
  obtain ⟨sa, sb, h, h1, h2, h3, h4⟩ := h.ex
  exact ⟨sb, sa, h.swap, h3, h4, h1, h2⟩
/-- Half a round: the first pair at m + 1, the second at m. -/
structure Ph (w0 w : World) (D1 R1 D2 R2 m k : Nat) : Prop where
  ex : ∃ sa sb, Two w0 w D1 R1 D2 R2 sa sb ∧ sa.luck.length ≤ m * 1048576 ∧ sa.late.length ≤ m ∧ sb.luck.length ≤ k * 1048576 ∧ sb.late.length ≤ k
theorem Ph.up {m m' k k' : Nat} (h : Ph w0 w D1 R1 D2 R2 m k) (h1 : m ≤ m') (h2 : k ≤ k') : Ph w0 w D1 R1 D2 R2 m' k' := by
  obtain ⟨sa, sb, h, e1, e2, e3, e4⟩ := h.ex
  exact ⟨sa, sb, h, Nat.le_trans e1 (Nat.mul_le_mul_right _ h1), Nat.le_trans e2 h1, Nat.le_trans e3 (Nat.mul_le_mul_right _ h2), Nat.le_trans e4 h2⟩
theorem Ph.swap {m k : Nat} (h : Ph w0 w D1 R1 D2 R2 m k) : Ph w0 w D2 R2 D1 R1 k m := by
  obtain ⟨sa, sb, h, h1, h2, h3, h4⟩ := h.ex
  exact ⟨sb, sa, h.swap, h3, h4, h1, h2⟩
theorem Ph.below {m k : Nat} (h : Ph w0 w D1 R1 D2 R2 m k) : Below w0.heap.size w0 w := by
  obtain ⟨sa, sb, h, _⟩ := h.ex
  exact h.below
theorem Ph.later {m k : Nat} (h : Ph w0 w D1 R1 D2 R2 m k) (hb : Below w.heap.size w wi) : Ph w0 wi D1 R1 D2 R2 m k := by
  obtain ⟨sa, sb, h, h1, h2, h3, h4⟩ := h.ex
  exact ⟨sa, sb, h.later hb, h1, h2, h3, h4⟩
theorem Ph.step {m k : Nat} (h : Ph w0 w D1 R1 D2 R2 m k) (hT : Tab w0) (hm : m ≤ 1048576) (o : OpD) (ho : o.ok w0) :
    Calls Tryd.prog 10 #[.pointer (some ⟨D1, 0, none⟩), .pointer (some ⟨R1, 0, none⟩), .agg #[.int .i64 o.kind, .int .i64 o.n, .slice o.b o.blen o.bcap, .slice o.l o.llen o.lcap]] w fun e w' => e = .returned (.bool true) ∧ Ph w0 w' D1 R1 D2 R2 (m + 1) k := by
  obtain ⟨sa, sb, h, h1, h2, h3, h4⟩ := h.ex
  have hmm : m * 1048576 ≤ 1048576 * 1048576 := Nat.mul_le_mul_right _ hm
  refine (h.step hT o ho (by omega) (by omega)).mono ?_
  rintro e w' ⟨rfl, h5⟩
  have hcs : o.cs.length ≤ 1048576 := by rw [ho.nums.1]; exact ho.ll
  have e1 := opD_luck sa o hcs
  have e2 := opD_late sa o
  exact ⟨rfl, _, _, h5, by rw [Nat.add_mul]; omega, by omega, h3, h4⟩
set_option maxRecDepth 100000 in
set_option maxHeartbeats 4000000 in
theorem netPlays_any (ad : Option Addr) (len cap : Nat) (os : List OpD) (bd : Option Addr) (ben bap : Nat) (ps : List OpD) (w : World) (ho : OArg w os ad len) (hp : OArg w ps bd ben) (hT : Tab w) :
    Calls Tryd.prog 3 #[.slice ad len cap, .slice bd ben bap] w fun e w' => e = .returned (.bool true) ∧ Below w.heap.size w w' := by
  have hl := ho.max
  have hl2 := hp.max
  have HO := hide ho
  have HP := hide hp
  have HT := hide hT
  have hnew := new_ok w
  clear ho hp hT
  go_enter Tryd.func3, Tryd.ntmps3
  go_wp2_with (go_at_call 7; refine hnew.mono ?_; rintro e w1 ⟨rfl, hn1, hb1⟩; have HN1 := hide hn1; have HB1 := hide hb1; clear hn1 hb1 hnew)
  refine (new_ok w1).mono ?_
  rintro e w2 ⟨rfl, hn2, hb2⟩
  have hb12 : Below w.heap.size w w2 := HB1.out.trans (hb2.mono HB1.out.size)
  obtain ⟨W3, hW3⟩ : ∃ W3, (w2.alloc (.cells #[.slice none 0 0, .slice none 0 0] TR)).alloc (.cells #[.slice none 0 0, .slice none 0 0] TR) = W3 := ⟨_, rfl⟩
  have hb3 : Below w2.heap.size w2 W3 := by rw [← hW3]; exact ((Below.refl _ w2).alloc (Nat.le_refl _) _).alloc (by simp) _
  have hst : Ph w W3 w.heap.size w2.heap.size w1.heap.size (w2.heap.size + 1) 0 0 := by
    have q1 : W3.heap[w2.heap.size]? = some (.cells #[.slice none 0 0, .slice none 0 0] TR (0, 0)) := by rw [← hW3]; exact heap_alloc2_old _ _ _
    have q2 : W3.heap[w2.heap.size + 1]? = some (.cells #[.slice none 0 0, .slice none 0 0] TR (0, 0)) := by rw [← hW3]; exact heap_alloc2_new _ _ _
    have s1 := HN1.out.lt w.heap.size (by simp)
    have s2 := hn2.lt w1.heap.size (by simp)
    refine ⟨new0, new0, ⟨[w.heap.size], [w2.heap.size], [w1.heap.size], [w2.heap.size + 1], ⟨⟨_, _, (HN1.out.below hb2).below hb3⟩, new_q _ q1, fun g hg hm => ?_⟩, ⟨⟨_, _, hn2.below hb3⟩, new_q _ q2, fun g hg hm => ?_⟩, fun g hg hm => ?_, fun g hg => ?_, fun g hg => ?_, hb12.trans (hb3.mono hb12.size)⟩, Nat.zero_le _, Nat.zero_le _, Nat.zero_le _, Nat.zero_le _⟩
    · simp at hg hm; omega
    · simp at hg hm; omega
    · simp at hg hm; omega
    · have := HB1.out.size; have := hb2.size; simp at hg; omega
    · have := HB1.out.size; have := hb2.size; simp at hg; omega
  have HS := hide hst
  have hmade : Calls Tryd.prog 8 #[.pointer (some ⟨w.heap.size, 0, none⟩)] W3 fun e w' => e = .returned (.bool true) ∧ w' = W3 := made_pic ((HN1.out.below hb2).below hb3)
  have hk := knows6 W3 (HT.out.low HT.out.1 hst.below)
  clear hst hb3 hn2 hb2 hb12 HN1
  go_wp2_with (first
    | (go_at_call 8; refine hmade.mono ?_; rintro e w' ⟨rfl, hw'⟩; obtain rfl := hw'.symm)
    | (go_at_call 9; refine hk.mono ?_; rintro e w4 ⟨rfl, hb4⟩; have H4 := hide (HS.out.later hb4); clear hb4 HS))
  go_loopw [9] (fun i wr => ∃ m : Nat, (m ≤ len ∨ m ≤ ben) ∧ i = .int .i64 m ∧ Hid (Ph w wr w.heap.size w2.heap.size w1.heap.size (w2.heap.size + 1) m m)) (fun i _ => max len ben - (intOf i).toNat)
  case atStart => exact ⟨0, Or.inl (by omega), rfl, H4⟩
  case round =>
    obtain ⟨m, hm, rfl, HM⟩ := hrel
    clear H4 hmade hk hW3
    by_cases c1 : m < len
    · by_cases c2 : m < ben
      · as_aux_lemma =>
        obtain ⟨b, off, rfl, hbs, hok, hcell⟩ := HO.out.cells HM.out.below c1
        have q0 := hcell 0 (by omega)
        have q1 := hcell 1 (by omega)
        have q2 := hcell 2 (by omega)
        have q3 := hcell 3 (by omega)
        simp only [opV, List.getElem?_cons_zero, List.getElem?_cons_succ, Nat.add_zero] at q0 q1 q2 q3
        have hs1 := HM.out.step HT.out (by omega) (os.getD m op0) hok
        generalize os.getD m op0 = o1 at *
        obtain ⟨kd, n, ob, obl, obc, ol, oll, olc, bs, cs⟩ := o1
        simp only at q0 q1 q2 q3 hs1
        have H2 : Hid (∀ w5, Ph w w5 w.heap.size w2.heap.size w1.heap.size (w2.heap.size + 1) (m + 1) m → ∃ b2 off2 kd2 n2 ob2 obl2 obc2 ol2 oll2 olc2, bd = some ⟨b2, off2, none⟩ ∧ w5.cell? ⟨b2, off2 + m * 4, none⟩ = some (.int .i64 kd2) ∧ w5.cell? ⟨b2, off2 + m * 4 + 1, none⟩ = some (.int .i64 n2) ∧ w5.cell? ⟨b2, off2 + m * 4 + 2, none⟩ = some (.slice ob2 obl2 obc2) ∧ w5.cell? ⟨b2, off2 + m * 4 + 3, none⟩ = some (.slice ol2 oll2 olc2) ∧ Hid (Calls Tryd.prog 10 #[.pointer (some ⟨w1.heap.size, 0, none⟩), .pointer (some ⟨w2.heap.size + 1, 0, none⟩), .agg #[.int .i64 kd2, .int .i64 n2, .slice ob2 obl2 obc2, .slice ol2 oll2 olc2]] w5 fun e w' => e = .returned (.bool true) ∧ Ph w w' w1.heap.size (w2.heap.size + 1) w.heap.size w2.heap.size (m + 1) (m + 1))) := fun w5 h5 => by
          obtain ⟨b2, off2, e2, -, hok2, hcell2⟩ := HP.out.cells h5.below c2
          exact ⟨b2, off2, _, _, _, _, _, _, _, _, e2, hcell2 0 (by omega), hcell2 1 (by omega), hcell2 2 (by omega), hcell2 3 (by omega), h5.swap.step HT.out (by omega) _ hok2⟩
        clear hcell hok
        obtain ⟨bb, boff, hbd⟩ : ∃ bb boff, bd = some ⟨bb, boff, none⟩ := by
          obtain ⟨b2, off2, e2, -⟩ := HP.out.cells HM.out.below c2
          exact ⟨b2, off2, e2⟩
        subst hbd
        go_wp2_with (first
          | (go_at_call 10; (with_reducible_and_instances (refine hs1.mono ?_)); rintro e w5 ⟨rfl, h5⟩; obtain ⟨b2, off2, kd2, n2, ob2, obl2, obc2, ol2, oll2, olc2, e2, r0, r1, r2, r3, HS2⟩ := H2.out w5 h5; cases e2; clear h5 hs1)
          | (go_at_call 10; (with_reducible_and_instances (refine HS2.out.mono ?_)); rintro e w6 ⟨rfl, h6⟩; have H6 := hide h6.swap; clear h6))
        refine ⟨⟨m + 1, Or.inl (by omega), by go_num, H6⟩, by simp [intOf]; omega⟩
      · as_aux_lemma =>
        obtain ⟨b, off, rfl, hbs, hok, hcell⟩ := HO.out.cells HM.out.below c1
        have q0 := hcell 0 (by omega)
        have q1 := hcell 1 (by omega)
        have q2 := hcell 2 (by omega)
        have q3 := hcell 3 (by omega)
        simp only [opV, List.getElem?_cons_zero, List.getElem?_cons_succ, Nat.add_zero] at q0 q1 q2 q3
        have hs1 := HM.out.step HT.out (by omega) (os.getD m op0) hok
        generalize os.getD m op0 = o1 at *
        obtain ⟨kd, n, ob, obl, obc, ol, oll, olc, bs, cs⟩ := o1
        simp only at q0 q1 q2 q3 hs1
        clear hcell hok
        have c3 : ben ≤ m := by omega
        clear c2
        go_wp2_with (go_at_call 10; (with_reducible_and_instances (refine hs1.mono ?_)); rintro e w5 ⟨rfl, h5⟩; have H5 := hide (h5.up (Nat.le_refl _) (Nat.le_succ m)); clear h5 hs1)
        refine ⟨⟨m + 1, Or.inl (by omega), by go_num, H5⟩, by simp [intOf]; omega⟩
    · have c3 : len ≤ m := by omega
      by_cases c2 : m < ben
      · as_aux_lemma =>
        clear c1
        obtain ⟨b, off, rfl, hbs, hok, hcell⟩ := HP.out.cells HM.out.below c2
        have q0 := hcell 0 (by omega)
        have q1 := hcell 1 (by omega)
        have q2 := hcell 2 (by omega)
        have q3 := hcell 3 (by omega)
        simp only [opV, List.getElem?_cons_zero, List.getElem?_cons_succ, Nat.add_zero] at q0 q1 q2 q3
        have hs1 := HM.out.swap.step HT.out (by omega) (ps.getD m op0) hok
        generalize ps.getD m op0 = o1 at *
        obtain ⟨kd, n, ob, obl, obc, ol, oll, olc, bs, cs⟩ := o1
        simp only at q0 q1 q2 q3 hs1
        clear hcell hok
        go_wp2_with (go_at_call 10; (with_reducible_and_instances (refine hs1.mono ?_)); rintro e w5 ⟨rfl, h5⟩; have H5 := hide (h5.swap.up (Nat.le_succ m) (Nat.le_refl _)); clear h5 hs1)
        refine ⟨⟨m + 1, Or.inr (by omega), by go_num, H5⟩, by simp [intOf]; omega⟩
      · as_aux_lemma =>
        have c4 : ben ≤ m := by omega
        clear c1 c2
        go_wp2_with fail
        go_ret
        exact ⟨rfl, HM.out.below⟩
end Go.Proofs.YtgbjlkaaniaaaaaDoor
