/- next and load of package store where no entry stands. -/
import Derived.Test.YtikomnbhmmjfnaaGreatSOpen0
import Derived.Test.YtikomnbhmmjfnaaGreatSSealP
namespace Go.Proofs.YtikomnbhmmjfnaaGreat
open Go.RowKit Go.Shelf
attribute [local go_sem] Oper.semAt_some
variable {w w' : World} {FD G : List Nat} {S D X Y : Nat} {fx fy : Lit → Option Value} {A : Nat → Nat → Value} {s : SSt}

/-- No entry. -/
def ent0 : Value := .agg #[.int .i64 0, .int .i64 0, .int .i64 0, .slice none 0 0]
set_option maxRecDepth 100000 in
theorem readEntry0 (ad : Option Addr) (cap : Nat) (w : World) : Calls Tryz.prog 103 #[.slice ad 0 cap] w fun e w' => e = .returned (.tuple #[ent0, .bool false]) ∧ Below w.heap.size w w' := by
  unfold ent0
  go_enter Tryz.func103, Tryz.ntmps103
  go_wp2
  refine bodyPost_ret (v := .tuple #[.agg #[.int .i64 0, .int .i64 0, .int .i64 0, .slice none 0 0], .bool false]) (by simp [results, Tryz.results103, go_sem]) rfl ⟨rfl, ?_⟩
  exact (Below.refl _ w).alloc (Nat.le_refl _) _
/-- What next keeps while its loop runs. -/
def NI (w Z : World) : Prop := Below w.heap.size w Z ∧ Blk Z (w.heap.size + 1) #[.int .i64 0, .int .i64 0, .int .i64 0, .slice none 0 0] 103 ∧ Blk Z (w.heap.size + 2) #[.bool false] 4
theorem NI.chg {Z Z' : World} {F : List Nat} (h : NI w Z) (hc : Chg F Z Z') (hF : ∀ g ∈ F, w.heap.size + 3 ≤ g) : NI w Z' := by
  obtain ⟨h1, h2, h3⟩ := h
  refine ⟨?_, h2.chg hc (fun hm => absurd (hF _ hm) (by omega)), h3.chg hc (fun hm => absurd (hF _ hm) (by omega))⟩
  exact ⟨hc.os.trans h1.os, hc.tape.trans h1.tape, hc.output.trans h1.output, Nat.le_trans h1.size hc.size, fun k hk => (hc.block k (Nat.lt_of_lt_of_le hk h1.size) (fun hm => absurd (hF _ hm) (by omega))).trans (h1.block k hk)⟩
set_option maxRecDepth 100000 in
set_option maxHeartbeats 400000 in
theorem next0_pic (h : SPic w FD G S D X Y fx fy A s) (hz : readD s.d (s.fin : Int) = (zeros, 0) ∨ (readD s.d (s.fin : Int)).2 ≠ 0) : Calls Tryz.prog 78 #[.pointer (some ⟨S, 0, none⟩)] w fun e w' => e = .returned (.tuple #[ent0, .bool false]) ∧ Below w.heap.size w w' := by
  have hfl := h.fin_le
  have hnl := h.num_le
  obtain ⟨W3, hW3⟩ : ∃ W3, ((w.alloc (.cells #[.pointer (some ⟨S, 0, none⟩)] 33)).alloc (.cells #[.int .i64 0, .int .i64 0, .int .i64 0, .slice none 0 0] 103)).alloc (.cells #[.bool false] 4) = W3 := ⟨_, rfl⟩
  have hb3 : Below w.heap.size w W3 := by rw [← hW3]; exact (((Below.refl _ w).alloc (Nat.le_refl _) _).alloc (by simp) _).alloc (by simp; omega) _
  have hs3 : W3.heap.size = w.heap.size + 3 := by rw [← hW3]; simp
  have hB3 : Blk W3 w.heap.size #[.pointer (some ⟨S, 0, none⟩)] 33 ∧ NI w W3 := by
    rw [← hW3] at hb3 ⊢
    exact ⟨(three_blocks w _ _ _).1, hb3, (three_blocks w _ _ _).2.1, (three_blocks w _ _ _).2.2⟩
  have h3 := h.below hb3
  have hga := gather_zeros h3 hz
  have hbx := hB3.1.cell 0
  have HG2 : Hid (∀ (w2 : World) (v : Value), Own w2 W3.heap.size v [] → Below W3.heap.size W3 w2 → ∃ ad c, v = .slice ad 0 c ∧ w2.cell? ⟨w.heap.size, 0, none⟩ = some (.pointer (some ⟨S, 0, none⟩)) ∧ w2.cell? ⟨S, 4, none⟩ = some (.int .i64 (s.fin : Int)) ∧ w2.cell? ⟨S, 3, none⟩ = some (.int .i64 (s.num : Int)) ∧ Hid (NI w w2 ∧ w.heap.size + 3 ≤ w2.heap.size ∧ Part.ok w2 ⟨ad, 0, c, []⟩ ∧ ∀ g ∈ dB ad, g < w2.heap.size)) := fun w2 v ho hb => by
    obtain ⟨ad, c, rfl, k2, -⟩ := ho.slice 0 rfl
    obtain ⟨-, -, -, d3, d4, -⟩ := (h3.below hb).cells
    have hd := own_dB (p := ⟨ad, 0, c, []⟩) ho
    refine ⟨ad, c, rfl, (hb.cell (p := ⟨w.heap.size, 0, none⟩) (by show w.heap.size < _; omega)).trans hbx, d4, d3, ?_, by have := hb.size; omega, k2, fun g hg => (hd.1 g hg).2⟩
    exact hB3.2.chg (F := []) (Chg.of hb) (fun g hg => (by cases hg))
  clear h h3 hz hb3 hB3
  refine (callsIn_wide (n := 3)).1 ?_
  refine callsIn_of_wp_marks Tryz.func78 rfl trivial ?_ rfl
  simp only [Tryz.ntmps78, List.size_toArray, List.length_cons, List.length_nil, Nat.reduceAdd, Nat.reduceSub, Array.replicate_succ, Array.replicate_zero, List.push_toArray, List.append_toArray, List.nil_append, List.cons_append]
  gi_wp2_with (refine ⟨trivial, ?_⟩; gi_at_call 102; refine (callsIn_wide.2 hga).mono ?_; rintro e w2 ⟨v, rfl, ho, hb⟩; obtain ⟨ad, c, rfl, q0, q4, q3, HQ⟩ := HG2.out w2 v ho hb; clear ho hb)
  apply once
  case main =>
    intro hm
    refine wpIn_mono (Q := NoPanic _) ?_ NoPanic.imp
    gi_region_with (refine ⟨trivial, ?_⟩; gi_at_call 87; refine (callsIn_wide.2 (parts_any s.fin s.num ad 0 c _)).mono ?_; rintro e w' ⟨rfl, hw'⟩; obtain rfl := hw'.symm)
    all_goals exact NoPanic.normal hm
  obtain ⟨Wq, hWq⟩ : ∃ Wq, (partsW w2 s.fin s.num (.slice ad 0 c)).drew = Wq := ⟨_, rfl⟩
  have hsq : Wq.heap.size = w2.heap.size + 3 := by rw [← hWq]; exact partsW_size _ _ _ _
  have hbq : Below w2.heap.size w2 Wq := by rw [← hWq]; exact (partsW_below w2 s.fin s.num _).drew
  have hseq := (partsW_seq w2 (fun _ _ => True) s.fin s.num ad 0 c [] HQ.out.2.2.1 (Nat.zero_le _) (by omega) (by omega) (by omega) HQ.out.2.2.2).later (w1 := Wq) (by rw [← hWq]; exact (Below.refl _ _).drew)
  have HSq := hide hseq
  have HNq := hide (HQ.out.1.chg (F := []) (Chg.of hbq) (fun g hg => (by cases hg)))
  have hz2 := HQ.out.2.1
  unfold partsW at hWq
  clear hseq hbq HG2 hga
  gi_wp2
  rw [hWq]
  clear hWq
  have hlen0 : (rowAt s.fin (blocksN s.num [])).length = 0 := rfl
  refine range_R (w2.heap.size + 3) hsq (gf := 110) rfl enters_parts HSq.out (fun h k => h.trans k) ?kb (fun _ Z => NI w Z) (fun _ _ => False) ?hI (fun _ _ _ h _ => h) (fun _ _ _ => trivial) HNq.out ?hps ?hRc
    (fun args => { tmps := #[.pointer (some ⟨S, 0, none⟩), .pointer (some ⟨w.heap.size, 0, none⟩), .pointer (some ⟨w.heap.size + 1, 0, none⟩), .pointer (some ⟨w.heap.size + 1 + 1, 0, none⟩), .slice ad 0 c, args.getD 0 undef, args.getD 1 undef, .pointer (some ⟨S, 0, none⟩), .slice ad 0 c, .pointer (some ⟨S, 0, none⟩), .pointer (some ⟨S, 0, none⟩), .pointer (some ⟨S, 4, none⟩), .int .i64 (s.fin : Int), .pointer (some ⟨S, 0, none⟩), .pointer (some ⟨S, 0, none⟩), .pointer (some ⟨S, 3, none⟩), .int .i64 (s.num : Int), .slice ad 0 c, .func (.func 110) #[] #[.pointer (some ⟨w2.heap.size + 2, 0, none⟩), .pointer (some ⟨w2.heap.size, 0, none⟩), .pointer (some ⟨w2.heap.size + 1, 0, none⟩)], args.getD 0 undef, args.getD 1 undef, undef, undef, undef, undef, undef, undef, undef, undef, undef, undef], defers := [] }) ?assign ?body ?done ?stop
  case kb =>
    intro Z o hZ
    refine ⟨by simp, fun g hg => World.putObj_heap_other ?_⟩
    rcases List.mem_append.1 hg with h1 | h1
    · simp at h1; omega
    · have := HQ.out.2.2.2 g h1; omega
  case hI => exact fun k Z Z' h1 hc => h1.chg hc (fun g hg => by simp at hg; omega)
  case hps =>
    rintro k args Z ⟨x, q, hx, rfl, _⟩
    rfl
  case hRc =>
    rintro k args Z o ⟨x, q, hx, rfl, hl, hq⟩ ho o'
    exact ⟨x, q, hx, rfl, hl, part_putObj hq ho o'⟩
  case assign =>
    rintro l k args Z L ⟨x, q, hx, rfl, _⟩ hL
    clear HQ HSq HNq hx
    gi_wp2
    exact hL
  case body =>
    intro l k args Z hk
    exact absurd hk (by rw [hlen0]; omega)
  case stop =>
    intro k Z hk hx
    exact hx.elim
  case done =>
    rintro Z hZ hN hD
    obtain ⟨hbz, b1, b2⟩ := hN
    have HB1 := hide b1
    have HB2 := hide b2
    have HBz := hide hbz
    have HD := hide hD
    have hre := readEntry0 ad c Z
    unfold ent0 at hre
    clear HQ HSq HNq hD b1 b2 hbz
    gi_wp2_with (refine ⟨trivial, ?_⟩; gi_at_call 103; refine (callsIn_wide.2 hre).mono ?_; rintro e Z2 ⟨rfl, hb2⟩; have H1 := hide (HB1.out.later hb2); have H2 := hide (HB2.out.later hb2); have H3 := hide (HBz.out.trans (hb2.mono HBz.out.size)); have H4 := hide ((hb2.block _ (Array.getElem?_eq_some_iff.1 HD.out).1).trans HD.out); have c0 := H1.out.cell 0; have c1 := H1.out.cell 1; have c2 := H1.out.cell 2; have c3 := H1.out.cell 3; have f0 := H1.out.free 0; have f1 := H1.out.free 1; have f2 := H1.out.free 2; have f3 := H1.out.free 3; have d0 : Z2.cell? ⟨w.heap.size + 1 + 1, 0, none⟩ = some (.bool false) := H2.out.cell 0; have e0 : Z2.frozen? ⟨w.heap.size + 1 + 1, 0, none⟩ = false := H2.out.free 0; clear hb2)
    obtain ⟨Zf, hZf⟩ : ∃ Zf, ((((Z2.setCell ⟨w.heap.size + 1, 0, none⟩ (.int .i64 0)).setCell ⟨w.heap.size + 1, 1, none⟩ (.int .i64 0)).setCell ⟨w.heap.size + 1, 2, none⟩ (.int .i64 0)).setCell ⟨w.heap.size + 1, 3, none⟩ (.slice none 0 0)).setCell ⟨w.heap.size + 1 + 1, 0, none⟩ (.bool false) = Zf := ⟨_, rfl⟩
    have k1 : Blk Zf (w.heap.size + 1) #[.int .i64 0, .int .i64 0, .int .i64 0, .slice none 0 0] 103 := by
      rw [← hZf]
      exact ((((H1.out.set 0 (.int .i64 0)).set 1 (.int .i64 0)).set 2 (.int .i64 0)).set 3 (.slice none 0 0)).other (by omega) 0 _
    have k2 : Blk Zf (w.heap.size + 2) #[.bool false] 4 := by
      rw [← hZf]
      exact ((((H2.out.other (by omega) 0 _).other (by omega) 1 _).other (by omega) 2 _).other (by omega) 3 _).set 0 (.bool false)
    have hcf : Chg [w.heap.size + 1, w.heap.size + 2] Z2 Zf := by
      rw [← hZf]
      exact (((((Chg.refl _ Z2).set (Or.inl (by simp)) _ _).set (Or.inl (by simp)) _ _).set (Or.inl (by simp)) _ _).set (Or.inl (by simp)) _ _).set (Or.inl (by simp)) _ _
    have hDf : Zf.heap[w2.heap.size + 3]? = some (.deferred (some [])) := (hcf.block _ (Array.getElem?_eq_some_iff.1 H4.out).1 (by simp; omega)).trans H4.out
    have hpc : Chg [w2.heap.size + 3, w2.heap.size + 3 + 1] Zf (Zf.putObj (w2.heap.size + 3) (.deferred none)) := putObj_chg Zf _ _ _ (Or.inl rfl)
    have m1 := k1.chg hpc (by simp; omega)
    have m2 := k2.chg hpc (by simp; omega)
    have r0 := m1.cell 0
    have r1 := m1.cell 1
    have r2 := m1.cell 2
    have r3 := m1.cell 3
    have r4 : (Zf.putObj (w2.heap.size + 3) (.deferred none)).cell? ⟨w.heap.size + 1 + 1, 0, none⟩ = some (.bool false) := m2.cell 0
    have hbf : Below w.heap.size w (Zf.putObj (w2.heap.size + 3) (.deferred none)) := H3.out.trans (((hcf.below (N := w.heap.size) (by intro g hg; simp at hg; omega) H3.out.size)).trans (hpc.below (by intro g hg; simp at hg; omega) (Nat.le_trans H3.out.size hcf.size)))
    rw [hZf]
    refine ⟨by simp, .inl ⟨_, _, rfl, run_takeDeferred hDf, ?_⟩⟩
    refine ⟨.tuple #[ent0, .bool false], ?_, rfl, hbf⟩
    simp [results, Tryz.results78, go_sem, r0, r1, r2, r3, r4, ent0]
set_option maxRecDepth 100000 in
set_option maxHeartbeats 1000000 in
/-- load where no entry stands. -/
theorem load0_pic (h : SPic w FD G S D X Y fx fy A s) (hz : readD s.d (s.fin : Int) = (zeros, 0) ∨ (readD s.d (s.fin : Int)).2 ≠ 0) : Calls Tryz.prog 44 #[.pointer (some ⟨S, 0, none⟩)] w fun e w' => e = .returned (.tuple #[]) ∧ Below w.heap.size w w' := by
  have hn := next0_pic h hz
  unfold ent0 at hn
  clear h hz
  go_enter Tryz.func44, Tryz.ntmps44
  go_wp2
  go_loopw [2, 3] (fun _ _ wr => wr = w) (fun _ _ _ => 0)
  case atStart => exact rfl
  case round =>
    obtain rfl := hrel
    go_wp2_with (go_at_call 78; refine hn.mono ?_; rintro e w2 ⟨rfl, hb⟩)
    exact bodyPost_ret (results_none rfl _ _ _) rfl ⟨rfl, hb.alloc hb.size _⟩
end Go.Proofs.YtikomnbhmmjfnaaGreat
