/- Small functions of package store that read blocks: numberAt, holds; readPart, gather of zeros. next and load of package store where no entry stands. leftovers of package store where all behind the end is zeros: no round. Open of package store, of a disk that is all zeros. Stores whose disk has power and no fuse: what is written lasts. -/
import Derived.Test.YtmiibakbcogolaaGreatSWrite
import Derived.Test.YtmiibakbcogolaaGreatPWire
import Derived.Test.YtmiibakbcogolaaGreatPDisk2
import Derived.Test.YtmiibakbcogolaaGreatPRec
namespace Go.Proofs.YtmiibakbcogolaaGreat
open Go.RowKit Go.Shelf
variable {w w' : World} {FD G : List Nat} {S D X Y : Nat} {fx fy : Lit → Option Value} {A : Nat → Nat → Value} {s : SSt}

set_option maxRecDepth 100000 in
theorem snumberAt_any (ad : Option Addr) (len cap : Nat) (l : List Nat) (p z : Int) (w : World) (hp : Part.ok w ⟨ad, len, cap, l⟩) (hlc : len ≤ cap) (hm : len ≤ 1000000000000000) (hp2 : p ≤ 9223372036854775807) (r : Int) (hr : (getN l p z).1 = r) :
    Calls Tryz.prog 181 #[.slice ad len cap, .int .i64 p, .int .i64 z] w fun e w' => e = .returned (.int .i64 r) ∧ Below w.heap.size w w' := by
  have hg := get_any ad len cap l p z w hp hlc hm hp2
  rw [hr] at hg
  generalize (getN l p z).2.1 = a at *
  generalize (getN l p z).2.2 = b at *
  clear hp hr hp2 hm hlc
  go_enter Tryz.func181, Tryz.ntmps181
  go_wp2_with (go_at_call 77; refine hg.mono ?_; rintro e w' ⟨rfl, hb⟩)
  go_ret
  exact ⟨rfl, hb⟩
/-- Does block i hold just these bytes? -/
def holdsD (d : DSt) (i : Int) (l : List Nat) : Bool := decide ((readD d i).2 = 0) && decide ((readD d i).1 = l)
set_option maxRecDepth 100000 in
set_option maxHeartbeats 1000000 in
theorem holds_pic (h : SPic w FD G S D X Y fx fy A s) (i : Int) (ad : Option Addr) (len cap : Nat) (l : List Nat) (hp : Part.ok w ⟨ad, len, cap, l⟩) :
    Calls Tryz.prog 144 #[.pointer (some ⟨S, 0, none⟩), .int .i64 i, .slice ad len cap] w fun e w' => e = .returned (.bool (holdsD s.d i l)) ∧ Below w.heap.size w w' := by
  obtain ⟨B, M, Dm, V, C, hd⟩ := h.disk
  have hr := read_pic hd i
  obtain ⟨c0, -⟩ := h.cells
  have HP := hide hp
  unfold holdsD
  generalize hq : readD s.d i = q at *
  obtain ⟨t, z⟩ := q
  simp only at hr
  clear hq h hd hp
  by_cases hz : z = 0
  · subst hz
    simp only [decide_true, Bool.true_and]
    go_enter Tryz.func144, Tryz.ntmps144
    go_wp2_with (first
      | (go_at_call 168; refine hr.mono ?_; rintro e w2 ⟨v, rfl, ho, hb⟩; obtain ⟨a2, c2, rfl, k2, -⟩ := ho.slice t.length rfl; have HB := hide hb; have he := equal_any a2 ad t.length c2 len cap t l w2 k2 (HP.out.later hb); clear ho k2 hb)
      | (go_at_call 153; refine he.mono ?_; rintro e w3 ⟨rfl, hw'⟩; obtain rfl := hw'.symm))
    all_goals go_ret
    all_goals exact ⟨rfl, HB.out⟩
  · have hne : (z == 0) = false := by simpa using hz
    have hdz : (decide (z = 0) && decide (t = l)) = false := by simp [hz]
    simp only [hdz]
    go_enter Tryz.func144, Tryz.ntmps144
    go_wp2_with (go_at_call 168; refine hr.mono ?_; rintro e w2 ⟨v, rfl, ho, hb⟩; have HB := hide hb; clear ho hb)
    all_goals go_ret
    all_goals exact ⟨rfl, HB.out⟩
theorem zeros_11 : (getN zeros 11 1).1 = 0 := by decide +kernel
theorem zeros_9 : (getN zeros 9 2).1 = 0 := by decide +kernel
set_option maxRecDepth 100000 in
set_option maxHeartbeats 1000000 in
/-- readPart of zeros: no parts, no bytes. -/
theorem readPart_zeros (ad : Option Addr) (cap : Nat) (w : World) (hp : Part.ok w ⟨ad, 256, cap, zeros⟩) (hc : 256 ≤ cap) : Calls Tryz.prog 180 #[.slice ad 256 cap] w fun e w' => ∃ a c, e = .returned (.tuple #[.int .i64 0, .slice a 0 c]) ∧ Hid (a = none → c = 0) ∧ Below w.heap.size w w' := by
  have h11 := fun W (hW : Below w.heap.size w W) => snumberAt_any ad 256 cap zeros 11 1 W (hp.later hW) hc (by omega) (by omega) 0 zeros_11
  have h9 := fun W (hW : Below w.heap.size w W) => snumberAt_any ad 256 cap zeros 9 2 W (hp.later hW) hc (by omega) (by omega) 0 zeros_9
  have H11 := hide h11
  have H9 := hide h9
  have HA : Hid (ad ≠ none) := fun e => by
    have := hp.2.1 e
    simp at this
  have hne : ¬ cap = 12 := by omega
  have hmin : min (0 : Int) 240 = 0 := rfl
  have hw1 : IntKind.i64.wrap (12 + 0) = 12 := rfl
  have hw2 : IntKind.i64.wrap 12 = 12 := rfl
  have hsl : ∀ W : World, (Instr.slice 22 (.slice ad 256 cap) (some (.int .i64 12)) (some (.int .i64 12)) none).run Tryz.prog W = .ok (.slice (ad.map fun x => x.add 12) 0 (cap - 12)) W := fun W => by
    have := hc
    rw [run_slice_lh (w := W) 22 ad 256 cap (by kernel_rfl) .i64 .i64 12 12 (by omega) (by omega) (by omega)]
    simp [go_sem, hne]
  have hle : (12 : Int) ≤ (cap : Int) := by omega
  clear h11 h9 hp
  go_enter Tryz.func180, Tryz.ntmps180
  go_wp2_with (go_at_call 181; refine (H11.out _ (Below.refl _ _)).mono ?_; rintro e w2 ⟨rfl, hb2⟩; have HB2 := hide hb2; clear hb2)
  go_region_held3 (fun _ => True) (exact trivial) ((go_at_call 181; refine (H9.out _ HB2.out.drew).mono ?_; rintro e w3 ⟨rfl, hb3⟩; have HB3 := hide (HB2.out.drew.trans (hb3.mono HB2.out.drew.size)); clear hb3))
  all_goals go_wp2
  all_goals go_ret2
  all_goals refine ⟨_, _, rfl, fun e => ?_, HB3.out⟩
  all_goals exact absurd e (by cases had : ad; exact absurd had HA.out; simp)
set_option maxRecDepth 100000 in
set_option maxHeartbeats 400000 in
/-- gather at a block of zeros, or behind the last one: nothing. -/
theorem gather_zeros (h : SPic w FD G S D X Y fx fy A s) (hz : readD s.d (s.fin : Int) = (zeros, 0) ∨ (readD s.d (s.fin : Int)).2 ≠ 0) : Calls Tryz.prog 160 #[.pointer (some ⟨S, 0, none⟩)] w fun e w' => ∃ v, e = .returned v ∧ Own w' w.heap.size v [] ∧ Below w.heap.size w w' := by
  obtain ⟨c0, -, -, -, c4, -⟩ := h.cells
  have hfl := h.fin_le
  obtain ⟨B, M, Dm, V, C, hd⟩ := h.disk
  have hr := read_pic (hd.below (Below.refl _ w).drew) (s.fin : Int)
  have hwr : IntKind.i64.wrap (s.fin : Int) = (s.fin : Int) := by rw [IntKind.wrap_i64]; omega
  clear h hd
  rcases hz with hz | hz
  · rw [hz] at hr
    clear hz
    go_enter Tryz.func160, Tryz.ntmps160
    go_wp2
    go_loopw [3, 4, 5] (fun t k c wr => (t = .slice none 0 0 ∧ k = .int .i64 0 ∧ c = .int .i64 1 ∧ wr = w) ∨ (k = .int .i64 1 ∧ c = .int .i64 0 ∧ Hid (Own wr w.heap.size t []) ∧ Hid (Below w.heap.size w wr))) (fun _ k _ _ => 1 - (intOf k).toNat)
    case atStart => exact Or.inl ⟨rfl, rfl, rfl, rfl⟩
    case round =>
      rcases hrel with ⟨rfl, rfl, rfl, rfl⟩ | ⟨rfl, rfl, HO, HB⟩
      · go_wp2
        go_region_with (go_at_call 168; (with_reducible_and_instances (refine hr.mono ?_)); rintro e w2 ⟨v, rfl, ho, hb⟩; obtain ⟨a2, c2, rfl, k2, hc2, -⟩ := ho.slice 256 zeros_ok.1; have HB2 := hide (((Below.refl wr.heap.size wr).drew).trans hb); have HRp := hide (readPart_zeros a2 c2 w2 k2 hc2); clear ho k2 hb hc2)
        all_goals go_wp2_with (first
          | (go_at_call 180; (with_reducible_and_instances (refine HRp.out.mono ?_)); rintro e w3 ⟨a, c, rfl, hac, hb3⟩; have HB3 := hide (HB2.out.trans (hb3.mono HB2.out.size)); clear hb3)
          | (at_builtin; refine app_any rfl _ _ rfl wr.heap.size (.slice none 0 0) 0 [] rfl (World.ownsRow_nil _ _ _ _) a 0 c [] rfl rfl (fun e => ⟨rfl, hac.out e⟩) ⟨fun x hx => (by cases hx), Or.inl rfl⟩ (by omega) HB3.out.size ?_; intro v4 w4 o4 g4; have HO4 : Hid (Own w4 wr.heap.size v4 []) := ⟨fun x hx => (by cases hx), o4⟩; have HB4 := hide (HB3.out.grown g4 HB3.out.size (fun k hk => (by simp [Value.ownBlock] at hk))); clear o4 g4))
        all_goals go_roundw
        all_goals first
          | exact Or.inr ⟨rfl, rfl, HO4, HB4⟩
          | (simp [intOf])
      · go_wp2
        go_ret
        exact ⟨_, rfl, HO.out, HB.out⟩
  · generalize readD s.d (s.fin : Int) = q at *
    obtain ⟨t0, z⟩ := q
    simp only at hr hz
    have hne : (z == 0) = false := by simpa using hz
    clear hz
    go_enter Tryz.func160, Tryz.ntmps160
    go_wp2
    go_loopw [3, 4, 5] (fun t k c wr => t = .slice none 0 0 ∧ k = .int .i64 0 ∧ c = .int .i64 1 ∧ wr = w) (fun _ _ _ _ => 0)
    case atStart => exact ⟨rfl, rfl, rfl, rfl⟩
    case round =>
      obtain ⟨rfl, rfl, rfl, rfl⟩ := hrel
      go_wp2
      go_region_with (go_at_call 168; (with_reducible_and_instances (refine hr.mono ?_)); rintro e w2 ⟨v, rfl, ho, hb⟩; have HB2 := hide (((Below.refl wr.heap.size wr).drew).trans hb); clear ho hb)
      all_goals go_wp2
      all_goals go_ret
      all_goals exact ⟨_, rfl, Own.nil _ _, HB2.out⟩
end Go.Proofs.YtmiibakbcogolaaGreat
namespace Go.Proofs.YtmiibakbcogolaaGreat
open Go.RowKit Go.Shelf
attribute [local go_sem] Oper.semAt_some
variable {w w' : World} {FD G : List Nat} {S D X Y : Nat} {fx fy : Lit → Option Value} {A : Nat → Nat → Value} {s : SSt}

/-- No entry. -/
def ent0 : Value := .agg #[.int .i64 0, .int .i64 0, .int .i64 0, .slice none 0 0]
set_option maxRecDepth 100000 in
theorem readEntry0 (ad : Option Addr) (cap : Nat) (w : World) : Calls Tryz.prog 161 #[.slice ad 0 cap] w fun e w' => e = .returned (.tuple #[ent0, .bool false]) ∧ Below w.heap.size w w' := by
  unfold ent0
  go_enter Tryz.func161, Tryz.ntmps161
  go_wp2
  refine bodyPost_ret (v := .tuple #[.agg #[.int .i64 0, .int .i64 0, .int .i64 0, .slice none 0 0], .bool false]) (by simp [results, Tryz.results161, go_sem]) rfl ⟨rfl, ?_⟩
  exact (Below.refl _ w).alloc (Nat.le_refl _) _
/-- What next keeps while its loop runs. -/
def NI (w Z : World) : Prop := Below w.heap.size w Z ∧ Blk Z (w.heap.size + 1) #[.int .i64 0, .int .i64 0, .int .i64 0, .slice none 0 0] 207 ∧ Blk Z (w.heap.size + 2) #[.bool false] 4
theorem NI.chg {Z Z' : World} {F : List Nat} (h : NI w Z) (hc : Chg F Z Z') (hF : ∀ g ∈ F, w.heap.size + 3 ≤ g) : NI w Z' := by
  obtain ⟨h1, h2, h3⟩ := h
  refine ⟨?_, h2.chg hc (fun hm => absurd (hF _ hm) (by omega)), h3.chg hc (fun hm => absurd (hF _ hm) (by omega))⟩
  exact ⟨hc.os.trans h1.os, hc.tape.trans h1.tape, hc.output.trans h1.output, Nat.le_trans h1.size hc.size, fun k hk => (hc.block k (Nat.lt_of_lt_of_le hk h1.size) (fun hm => absurd (hF _ hm) (by omega))).trans (h1.block k hk)⟩
set_option maxRecDepth 100000 in
set_option maxHeartbeats 400000 in
theorem next0_pic (h : SPic w FD G S D X Y fx fy A s) (hz : readD s.d (s.fin : Int) = (zeros, 0) ∨ (readD s.d (s.fin : Int)).2 ≠ 0) : Calls Tryz.prog 138 #[.pointer (some ⟨S, 0, none⟩)] w fun e w' => e = .returned (.tuple #[ent0, .bool false]) ∧ Below w.heap.size w w' := by
  have hfl := h.fin_le
  have hnl := h.num_le
  obtain ⟨W3, hW3⟩ : ∃ W3, ((w.alloc (.cells #[.pointer (some ⟨S, 0, none⟩)] 67)).alloc (.cells #[.int .i64 0, .int .i64 0, .int .i64 0, .slice none 0 0] 207)).alloc (.cells #[.bool false] 4) = W3 := ⟨_, rfl⟩
  have hb3 : Below w.heap.size w W3 := by rw [← hW3]; exact (((Below.refl _ w).alloc (Nat.le_refl _) _).alloc (by simp) _).alloc (by simp; omega) _
  have hs3 : W3.heap.size = w.heap.size + 3 := by rw [← hW3]; simp
  have hB3 : Blk W3 w.heap.size #[.pointer (some ⟨S, 0, none⟩)] 67 ∧ NI w W3 := by
    rw [← hW3] at hb3 ⊢
    exact ⟨(three_blocks w _ _ _).1, hb3, (three_blocks w _ _ _).2.1, (three_blocks w _ _ _).2.2⟩
  have h3 := h.below hb3
  have hga := gather_zeros h3 hz
  have hbx := hB3.1.cell 0
  have HG2 : Hid (∀ (w2 : World) (v : Value), Own w2 W3.heap.size v [] → Below W3.heap.size W3 w2 → ∃ ad c, v = .slice ad 0 c ∧ w2.cell? ⟨w.heap.size, 0, none⟩ = some (.pointer (some ⟨S, 0, none⟩)) ∧ w2.cell? ⟨S, 4, none⟩ = some (.int .i64 (s.fin : Int)) ∧ w2.cell? ⟨S, 3, none⟩ = some (.int .i64 (s.num : Int)) ∧ Hid (NI w w2 ∧ w.heap.size + 3 ≤ w2.heap.size ∧ Part.ok w2 ⟨ad, 0, c, []⟩ ∧ ∀ g ∈ dB ad, g < w2.heap.size)) := fun w2 v ho hb => by
    obtain ⟨ad, c, rfl, k2, -⟩ := ho.slice 0 rfl
    obtain ⟨-, -, -, d3, d4, -⟩ := (h3.below hb).cells
    have hd := own_dB (p := ⟨ad, 0, c, []⟩) ho
    refine ⟨ad, c, rfl, (hb.cell (p := ⟨w.heap.size, 0, none⟩) (by show w.heap.size < _; omega)).trans hbx, d4, d3, ?_, by have := hb.size; omega, k2, fun g hg => (hd.1 g hg).2⟩
    exact hB3.2.chg (F := []) (Chg.of hb) (fun g hg => (by cases hg))
  clear h h3 hz hb3 hB3
  refine (callsIn_wide (n := 3)).1 ?_
  refine callsIn_of_wp_marks Tryz.func138 rfl trivial ?_ rfl
  simp only [Tryz.ntmps138, List.size_toArray, List.length_cons, List.length_nil, Nat.reduceAdd, Nat.reduceSub, Array.replicate_succ, Array.replicate_zero, List.push_toArray, List.append_toArray, List.nil_append, List.cons_append]
  gi_wp2_with (refine ⟨trivial, ?_⟩; gi_at_call 160; refine (callsIn_wide.2 hga).mono ?_; rintro e w2 ⟨v, rfl, ho, hb⟩; obtain ⟨ad, c, rfl, q0, q4, q3, HQ⟩ := HG2.out w2 v ho hb; clear ho hb)
  apply once
  case main =>
    intro hm
    refine wpIn_mono (Q := NoPanic _) ?_ NoPanic.imp
    gi_region_with (refine ⟨trivial, ?_⟩; gi_at_call 156; refine (callsIn_wide.2 (parts_any s.fin s.num ad 0 c _)).mono ?_; rintro e w' ⟨rfl, hw'⟩; obtain rfl := hw'.symm)
    all_goals exact NoPanic.normal hm
  obtain ⟨Wq, hWq⟩ : ∃ Wq, (partsW w2 s.fin s.num (.slice ad 0 c)).drew = Wq := ⟨_, rfl⟩
  have hsq : Wq.heap.size = w2.heap.size + 3 := by rw [← hWq]; exact partsW_size _ _ _ _
  have hbq : Below w2.heap.size w2 Wq := by rw [← hWq]; exact (partsW_below w2 s.fin s.num _).drew
  have hseq := (partsW_seq w2 (fun _ _ => True) s.fin s.num ad 0 c [] HQ.out.2.2.1 (Nat.zero_le _) (by omega) (by omega) (by omega) HQ.out.2.2.2).later (w1 := Wq) (by rw [← hWq]; exact (Below.refl _ _).drew)
  have HSq := hide hseq
  have HNq := hide (HQ.out.1.chg (F := []) (Chg.of hbq) (fun g hg => (by cases hg)))
  have hz2 := HQ.out.2.1
  unfold partsW at hWq
  clear hseq hbq HG2 hga
  gi_wp2
  rw [hWq]
  clear hWq
  have hlen0 : (rowAt s.fin (blocksN s.num [])).length = 0 := rfl
  refine range_R (w2.heap.size + 3) hsq (gf := 177) rfl enters_parts HSq.out (fun h k => h.trans k) ?kb (fun _ Z => NI w Z) (fun _ _ => False) ?hI (fun _ _ _ h _ => h) (fun _ _ _ => trivial) HNq.out ?hps ?hRc
    (fun args => { tmps := #[.pointer (some ⟨S, 0, none⟩), .pointer (some ⟨w.heap.size, 0, none⟩), .pointer (some ⟨w.heap.size + 1, 0, none⟩), .pointer (some ⟨w.heap.size + 1 + 1, 0, none⟩), .slice ad 0 c, args.getD 0 undef, args.getD 1 undef, .pointer (some ⟨S, 0, none⟩), .slice ad 0 c, .pointer (some ⟨S, 0, none⟩), .pointer (some ⟨S, 0, none⟩), .pointer (some ⟨S, 4, none⟩), .int .i64 (s.fin : Int), .pointer (some ⟨S, 0, none⟩), .pointer (some ⟨S, 0, none⟩), .pointer (some ⟨S, 3, none⟩), .int .i64 (s.num : Int), .slice ad 0 c, .func (.func 177) #[] #[.pointer (some ⟨w2.heap.size + 2, 0, none⟩), .pointer (some ⟨w2.heap.size, 0, none⟩), .pointer (some ⟨w2.heap.size + 1, 0, none⟩)], args.getD 0 undef, args.getD 1 undef, undef, undef, undef, undef, undef, undef, undef, undef, undef, undef], defers := [] }) ?assign ?body ?done ?stop
  case kb =>
    intro Z o hZ
    refine ⟨by simp, fun g hg => World.putObj_heap_other ?_⟩
    rcases List.mem_append.1 hg with h1 | h1
    · simp at h1; omega
    · have := HQ.out.2.2.2 g h1; omega
  case hI => exact fun k Z Z' h1 hc => h1.chg hc (fun g hg => by simp at hg; omega)
  case hps =>
    rintro k args Z ⟨x, q, hx, rfl, _⟩
    rfl
  case hRc =>
    rintro k args Z o ⟨x, q, hx, rfl, hl, hq⟩ ho o'
    exact ⟨x, q, hx, rfl, hl, part_putObj hq ho o'⟩
  case assign =>
    rintro l k args Z L ⟨x, q, hx, rfl, _⟩ hL
    clear HQ HSq HNq hx
    gi_wp2
    exact hL
  case body =>
    intro l k args Z hk
    exact absurd hk (by rw [hlen0]; omega)
  case stop =>
    intro k Z hk hx
    exact hx.elim
  case done =>
    rintro Z hZ hN hD
    obtain ⟨hbz, b1, b2⟩ := hN
    have HB1 := hide b1
    have HB2 := hide b2
    have HBz := hide hbz
    have HD := hide hD
    have hre := readEntry0 ad c Z
    unfold ent0 at hre
    clear HQ HSq HNq hD b1 b2 hbz
    gi_wp2_with (refine ⟨trivial, ?_⟩; gi_at_call 161; refine (callsIn_wide.2 hre).mono ?_; rintro e Z2 ⟨rfl, hb2⟩; have H1 := hide (HB1.out.later hb2); have H2 := hide (HB2.out.later hb2); have H3 := hide (HBz.out.trans (hb2.mono HBz.out.size)); have H4 := hide ((hb2.block _ (Array.getElem?_eq_some_iff.1 HD.out).1).trans HD.out); have c0 := H1.out.cell 0; have c1 := H1.out.cell 1; have c2 := H1.out.cell 2; have c3 := H1.out.cell 3; have f0 := H1.out.free 0; have f1 := H1.out.free 1; have f2 := H1.out.free 2; have f3 := H1.out.free 3; have d0 : Z2.cell? ⟨w.heap.size + 1 + 1, 0, none⟩ = some (.bool false) := H2.out.cell 0; have e0 : Z2.frozen? ⟨w.heap.size + 1 + 1, 0, none⟩ = false := H2.out.free 0; clear hb2)
    obtain ⟨Zf, hZf⟩ : ∃ Zf, ((((Z2.setCell ⟨w.heap.size + 1, 0, none⟩ (.int .i64 0)).setCell ⟨w.heap.size + 1, 1, none⟩ (.int .i64 0)).setCell ⟨w.heap.size + 1, 2, none⟩ (.int .i64 0)).setCell ⟨w.heap.size + 1, 3, none⟩ (.slice none 0 0)).setCell ⟨w.heap.size + 1 + 1, 0, none⟩ (.bool false) = Zf := ⟨_, rfl⟩
    have k1 : Blk Zf (w.heap.size + 1) #[.int .i64 0, .int .i64 0, .int .i64 0, .slice none 0 0] 207 := by
      rw [← hZf]
      exact ((((H1.out.set 0 (.int .i64 0)).set 1 (.int .i64 0)).set 2 (.int .i64 0)).set 3 (.slice none 0 0)).other (by omega) 0 _
    have k2 : Blk Zf (w.heap.size + 2) #[.bool false] 4 := by
      rw [← hZf]
      exact ((((H2.out.other (by omega) 0 _).other (by omega) 1 _).other (by omega) 2 _).other (by omega) 3 _).set 0 (.bool false)
    have hcf : Chg [w.heap.size + 1, w.heap.size + 2] Z2 Zf := by
      rw [← hZf]
      exact (((((Chg.refl _ Z2).set (Or.inl (by simp)) _ _).set (Or.inl (by simp)) _ _).set (Or.inl (by simp)) _ _).set (Or.inl (by simp)) _ _).set (Or.inl (by simp)) _ _
    have hDf : Zf.heap[w2.heap.size + 3]? = some (.deferred (some [])) := (hcf.block _ (Array.getElem?_eq_some_iff.1 H4.out).1 (by simp; omega)).trans H4.out
    have hpc : Chg [w2.heap.size + 3, w2.heap.size + 3 + 1] Zf (Zf.putObj (w2.heap.size + 3) (.deferred none)) := putObj_chg Zf _ _ _ (Or.inl rfl)
    have m1 := k1.chg hpc (by simp; omega)
    have m2 := k2.chg hpc (by simp; omega)
    have r0 := m1.cell 0
    have r1 := m1.cell 1
    have r2 := m1.cell 2
    have r3 := m1.cell 3
    have r4 : (Zf.putObj (w2.heap.size + 3) (.deferred none)).cell? ⟨w.heap.size + 1 + 1, 0, none⟩ = some (.bool false) := m2.cell 0
    have hbf : Below w.heap.size w (Zf.putObj (w2.heap.size + 3) (.deferred none)) := H3.out.trans (((hcf.below (N := w.heap.size) (by intro g hg; simp at hg; omega) H3.out.size)).trans (hpc.below (by intro g hg; simp at hg; omega) (Nat.le_trans H3.out.size hcf.size)))
    rw [hZf]
    refine ⟨by simp, .inl ⟨_, _, rfl, run_takeDeferred hDf, ?_⟩⟩
    refine ⟨.tuple #[ent0, .bool false], ?_, rfl, hbf⟩
    simp [results, Tryz.results138, go_sem, r0, r1, r2, r3, r4, ent0]
set_option maxRecDepth 100000 in
set_option maxHeartbeats 1000000 in
/-- load where no entry stands. -/
theorem load0_pic (h : SPic w FD G S D X Y fx fy A s) (hz : readD s.d (s.fin : Int) = (zeros, 0) ∨ (readD s.d (s.fin : Int)).2 ≠ 0) : Calls Tryz.prog 106 #[.pointer (some ⟨S, 0, none⟩)] w fun e w' => e = .returned (.tuple #[]) ∧ Below w.heap.size w w' := by
  have hn := next0_pic h hz
  unfold ent0 at hn
  clear h hz
  go_enter Tryz.func106, Tryz.ntmps106
  go_wp2
  go_loopw [2, 3] (fun _ _ wr => wr = w) (fun _ _ _ => 0)
  case atStart => exact rfl
  case round =>
    obtain rfl := hrel
    go_wp2_with (go_at_call 138; refine hn.mono ?_; rintro e w2 ⟨rfl, hb⟩)
    exact bodyPost_ret (results_none rfl _ _ _) rfl ⟨rfl, hb.alloc hb.size _⟩
end Go.Proofs.YtmiibakbcogolaaGreat
namespace Go.Proofs.YtmiibakbcogolaaGreat
open Go.RowKit Go.Shelf
attribute [local go_sem] Oper.semAt_some
variable {w w' : World} {FD G : List Nat} {S D X Y : Nat} {fx fy : Lit → Option Value} {A : Nat → Nat → Value} {s : SSt}

/-- In Z the store is as it was. -/
def LK (G : List Nat) (S D X Y : Nat) (fx fy : Lit → Option Value) (A : Nat → Nat → Value) (s : SSt) (Z : World) : Prop := ∃ FD', SPic Z FD' G S D X Y fx fy A s
theorem enters_left : ∀ args w, (callFunc 143 args).run Tryz.prog w = .ok (.enter 143 args) w := enters_of Tryz.func143 (by kernel_rfl) rfl
set_option maxRecDepth 100000 in
set_option maxHeartbeats 400000 in
theorem left0_seq (g : Nat) (Kp : World → World → Prop) (R : Nat → Array Value → World → Prop) (hg : g < w.heap.size) (cg : w.cell? ⟨g, 0, none⟩ = some (.pointer (some ⟨S, 0, none⟩))) (hz : ∀ i : Nat, s.fin ≤ i → i < s.d.bs.length → holdsD s.d (i : Int) zeros = true) :
    SeqR Tryz.prog 143 #[.pointer (some ⟨g, 0, none⟩)] Kp (fun _ Z => LK G S D X Y fx fy A s Z) R 0 w := by
  intro l J Jx W hW hJ _ hK _ h0
  obtain ⟨FD', hp⟩ := hK 0 W h0
  have hfl := hp.fin_le
  have n2 := hp.disk.n2
  have cW := (hW.cell (p := ⟨g, 0, none⟩) hg).trans cg
  have hgW : g < W.heap.size := Nat.lt_of_lt_of_le hg hW.size
  have hSW := hp.ltS
  obtain ⟨ZB, hZB⟩ : ∃ ZB : Obj, ZB = .cells (madeCells #[Value.int .u8 0] 256) 5 := ⟨_, rfl⟩
  have hmk : ∀ W : World, (Instr.makeSlice 22 (.int .i64 256) (.int .i64 256)).run Tryz.prog W = .ok (.slice (some ⟨W.heap.size, 0, none⟩) 256 256) (W.alloc ZB) := fun W => by
    rw [hZB]
    exact run_make_row' 22 5 (.int .u8 0) 1 Tryz.underlying22 Tryz.info5 rfl .i64 .i64 256 (by omega) (by omega) W
  have bz : Below W.heap.size W (W.alloc ZB) := (Below.refl _ _).alloc (Nat.le_refl _) _
  have HZ : Hid (Part.ok (W.alloc ZB) ⟨some ⟨W.heap.size, 0, none⟩, 256, 256, zeros⟩) := (show Hid _ from by rw [hZB]; exact made_ok W 256 (by omega))
  have HF : Hid (∀ Z, Below (W.alloc ZB).heap.size (W.alloc ZB) Z → Z.cell? ⟨g, 0, none⟩ = some (.pointer (some ⟨S, 0, none⟩)) ∧ Z.cell? ⟨S, 4, none⟩ = some (.int .i64 (s.fin : Int)) ∧ Z.cell? ⟨S, 0, none⟩ = some (.pointer (some ⟨D, 0, none⟩)) ∧ Hid (SPic Z FD' G S D X Y fx fy A s ∧ Part.ok Z ⟨some ⟨W.heap.size, 0, none⟩, 256, 256, zeros⟩)) := fun Z hZ => by
    have hbZ : Below W.heap.size W Z := bz.trans (hZ.mono (by simp))
    obtain ⟨d0, -, -, -, d4, -⟩ := (hp.below hbZ).cells
    exact ⟨(hbZ.cell (p := ⟨g, 0, none⟩) hgW).trans cW, d4, d0, hp.below hbZ, HZ.out.later hZ⟩
  have HJ0 := hide (fun Z (hZ : Below (W.alloc ZB).heap.size (W.alloc ZB) Z) => hJ 0 W Z h0 (bz.trans (hZ.mono (by simp))))
  have HZz := hide hz
  have HBl : Hid (∀ Z, SPic Z FD' G S D X Y fx fy A s → Calls Tryz.prog 104 #[.pointer (some ⟨D, 0, none⟩)] Z fun e w' => e = .returned (.int .i64 (s.d.bs.length : Nat)) ∧ w' = Z) := fun Z hp' => by
    obtain ⟨B, M, Dm, V, C, hd⟩ := hp'.disk
    exact blocks_pic hd
  obtain ⟨q0, q4, qD, HQ⟩ := HF.out (W.alloc ZB) (Below.refl _ _)
  generalize s.d.bs.length = nb at *
  clear hp hW hJ hK h0 cg cW hz hZB bz
  refine callsIn_of_wp Tryz.func143 rfl trivial ?_ rfl
  simp only [Tryz.ntmps143, List.size_toArray, List.length_cons, List.length_nil, Nat.reduceAdd, Nat.reduceSub, Array.replicate_succ, Array.replicate_zero, List.push_toArray, List.append_toArray, List.nil_append, List.cons_append]
  gi_wp2
  gi_loopw [4] (fun i wr => ∃ k : Nat, s.fin ≤ k ∧ k ≤ 4096 ∧ i = .int .i64 k ∧ Hid (Below (W.alloc ZB).heap.size (W.alloc ZB) wr)) (fun i _ => 5000 - (intOf i).toNat)
  case atStart => exact ⟨s.fin, Nat.le_refl _, hfl, rfl, hide (Below.refl _ _)⟩
  case round =>
    obtain ⟨k, hk1, hk2, rfl, HB⟩ := hrel
    obtain ⟨p0, p4, pD, HP⟩ := HF.out wr HB.out
    have hbl := HBl.out wr HP.out.1
    by_cases hlt : k < nb
    · have hho := holds_pic HP.out.1 (k : Int) _ 256 256 zeros HP.out.2
      rw [HZz.out k hk1 hlt] at hho
      gi_wp2_with (first
        | (refine ⟨trivial, ?_⟩; gi_at_call 104; refine (callsIn_wide.2 hbl).mono ?_; rintro e w' ⟨rfl, hw'⟩; obtain rfl := hw'.symm)
        | (refine ⟨trivial, ?_⟩; gi_at_call 144; refine (callsIn_wide.2 hho).mono ?_; rintro e w3 ⟨rfl, hb3⟩; have HB3 := hide (HB.out.trans (hb3.mono HB.out.size)); clear hb3))
      refine ⟨fun _ h => (by cases h), ?_⟩
      gi_wp2
      go_roundw
      case rel => exact ⟨k + 1, by omega, by omega, by go_num, HB3⟩
      case measure => simp [intOf]; omega
    · gi_wp2_with (refine ⟨trivial, ?_⟩; gi_at_call 104; refine (callsIn_wide.2 hbl).mono ?_; rintro e w' ⟨rfl, hw'⟩; obtain rfl := hw'.symm)
      go_end0
      exact ⟨⟨_, rfl⟩, .inl (HJ0.out _ HB.out)⟩
end Go.Proofs.YtmiibakbcogolaaGreat
namespace Go.Proofs.YtmiibakbcogolaaGreat
open Go.RowKit Go.Shelf
variable {w w' : World}

/-- A store that has nothing. -/
def sst0 (d : DSt) : SSt := ⟨d, fun _ _ => none, fun _ => none, 0, 0, false⟩
theorem sst0_ok (d : DSt) : (sst0 d).ok := ⟨fun _ _ _ h => (by cases h), fun _ _ h => (by cases h), Nat.le_refl _, Nat.zero_le _⟩
/-- A store in its three new blocks. -/
theorem open_spic {FD : List Nat} {D : Nat} {d : DSt} (hd : Dk w FD D d) : SPic (((w.alloc (.map #[] 0)).alloc (.map #[] 0)).alloc (.cells (storeV D w.heap.size (w.heap.size + 1) 0 0 false) TS)) FD [w.heap.size, w.heap.size + 1, w.heap.size + 2] (w.heap.size + 2) D w.heap.size (w.heap.size + 1) (fun _ => none) (fun _ => none) (fun _ _ => .slice none 0 0) (sst0 d) := by
  have hb : Below w.heap.size w (((w.alloc (.map #[] 0)).alloc (.map #[] 0)).alloc (.cells (storeV D w.heap.size (w.heap.size + 1) 0 0 false) TS)) := (((Below.refl _ w).alloc (Nat.le_refl _) _).alloc (by simp) _).alloc (by simp; omega) _
  obtain ⟨k1, k2, k3⟩ : (((w.alloc (.map #[] 0)).alloc (.map #[] 0)).alloc (.cells (storeV D w.heap.size (w.heap.size + 1) 0 0 false) TS)).heap[w.heap.size]? = some (.map #[] 0) ∧ (((w.alloc (.map #[] 0)).alloc (.map #[] 0)).alloc (.cells (storeV D w.heap.size (w.heap.size + 1) 0 0 false) TS)).heap[w.heap.size + 1]? = some (.map #[] 0) ∧ (((w.alloc (.map #[] 0)).alloc (.map #[] 0)).alloc (.cells (storeV D w.heap.size (w.heap.size + 1) 0 0 false) TS)).heap[w.heap.size + 2]? = some (.cells (storeV D w.heap.size (w.heap.size + 1) 0 0 false) TS (0, 0)) := three_blocks w _ _ _
  refine ⟨sst0_ok d, hd.below hb, k3, MapF.empty k1, MapF.empty k2, fun _ _ _ _ => rfl, fun _ _ _ h => (by cases h), fun _ => rfl, fun _ _ h => (by cases h), by simp, by simp, by simp, by omega, fun g hg hm => ?_, fun g hg => ?_⟩
  · have := hd.lt g hm; simp at hg; omega
  · simp at hg ⊢; omega
theorem zero_read {d : DSt} {i : Nat} (ho : d.off = false) (hz : ∀ x ∈ d.bs, x = b0) (hi : i < d.bs.length) : readD d (i : Int) = (zeros, 0) := by
  refine readD_free ho hi ?_
  have : d.at i = b0 := hz _ (at_mem hi)
  rw [this]; rfl
set_option maxRecDepth 100000 in
set_option maxHeartbeats 1000000 in
theorem open_new {FD : List Nat} {D : Nat} {d : DSt} (hd : Dk w FD D d) (ho : d.off = false) (hz : ∀ x ∈ d.bs, x = b0) :
    Calls Tryz.prog 80 #[.pointer (some ⟨D, 0, none⟩)] w fun e w' => ∃ S, e = .returned (.tuple #[.pointer (some ⟨S, 0, none⟩), .int .i64 0]) ∧ ∃ FD' G X Y fx fy A, SPic w' FD' G S D X Y fx fy A (sst0 d) ∧ (∀ g ∈ FD', g ∈ FD ∨ w.heap.size ≤ g) ∧ (∀ g ∈ G, w.heap.size ≤ g) ∧ Chg FD w w' := by
  obtain ⟨B, M, Dm, V, C, hpd⟩ := hd
  have hbl := blocks_pic hpd
  have hdn := down_pic hpd
  rw [ho] at hdn
  have n1 := hpd.n1
  have hd : Dk w FD D d := ⟨B, M, Dm, V, C, hpd⟩
  have hmm : ∀ (t : TypeId) (w : World), (Instr.makeMap t none).run Tryz.prog w = .ok (.map (some w.heap.size)) (w.alloc (.map #[] 0)) := fun t w => run_makeMap _ w
  have h3 := open_spic hd
  obtain ⟨W3, hW3⟩ : ∃ W3, ((w.alloc (.map #[] 0)).alloc (.map #[] 0)).alloc (.cells (storeV D w.heap.size (w.heap.size + 1) 0 0 false) TS) = W3 := ⟨_, rfl⟩
  have b3 : Below w.heap.size w W3 := by rw [← hW3]; exact (((Below.refl _ w).alloc (Nat.le_refl _) _).alloc (by simp) _).alloc (by simp; omega) _
  have hs3 : W3.heap.size = w.heap.size + 3 := by rw [← hW3]; simp
  rw [hW3] at h3
  have hrd : readD (sst0 d).d ((sst0 d).fin : Int) = (zeros, 0) := zero_read ho hz (by show 0 < d.bs.length; omega)
  have hld := load0_pic h3 (Or.inl hrd)
  have HWr : Hid (∀ W4, Below W3.heap.size W3 W4 → Calls Tryz.prog 107 #[.pointer (some ⟨w.heap.size + 2, 0, none⟩), .func (.func 143) #[] #[.pointer (some ⟨W4.heap.size, 0, none⟩)]] (W4.alloc (.cells #[.pointer (some ⟨w.heap.size + 2, 0, none⟩)] 67)) fun e w5 => e = .returned (.int .i64 0) ∧ Hid (∃ FD' G X Y fx fy A, SPic w5 FD' G (w.heap.size + 2) D X Y fx fy A (sst0 d) ∧ (∀ g ∈ FD', g ∈ FD ∨ w.heap.size ≤ g) ∧ (∀ g ∈ G, w.heap.size ≤ g) ∧ Chg FD w w5)) := fun W4 b4 => by
    have b5 : Below W4.heap.size W4 (W4.alloc (.cells #[.pointer (some ⟨w.heap.size + 2, 0, none⟩)] 67)) := (Below.refl _ _).alloc (Nat.le_refl _) _
    have h5 := (h3.below b4).below b5
    have hbl5 : Below w.heap.size w (W4.alloc (.cells #[.pointer (some ⟨w.heap.size + 2, 0, none⟩)] 67)) := b3.trans ((b4.mono b3.size).trans (b5.mono (Nat.le_trans b3.size b4.size)))
    have hseq := left0_seq (w := W4.alloc (.cells #[.pointer (some ⟨w.heap.size + 2, 0, none⟩)] 67)) (G := [w.heap.size, w.heap.size + 1, w.heap.size + 2]) (S := w.heap.size + 2) (D := D) (X := w.heap.size) (Y := w.heap.size + 1) (fx := fun _ => none) (fy := fun _ => none) (A := fun _ _ => .slice none 0 0) (s := sst0 d) W4.heap.size (Kg []) (RowR []) (by simp) (cell_of_row _ _ _ _ _ _ (heap_alloc_last W4 _)) (fun i _ hi => by
      show holdsD d (i : Int) zeros = true
      unfold holdsD
      rw [zero_read ho hz hi]
      simp)
    refine (write_any h5 143 _ enters_left [] [] _ hseq (fun g hg => (by cases hg)) ?_ ?_ (by simp)).mono ?_
    · rintro k Z b ⟨FD', hp, _⟩ _
      refine ⟨FD', ?_⟩
      have e : midD (sst0 d).d [] k = (sst0 d).d := by unfold midD; simp [writesD]
      rw [e] at hp
      exact hp
    · intro x hx
      rw [hz x hx]
      simp [b0]
    · rintro e w5 ⟨rfl, FD', hp, hn, hc⟩
      have e1 : lastsD (sst0 d).d [] = (true, (sst0 d).d) := rfl
      rw [e1] at hp
      refine ⟨by rw [e1]; rfl, FD', [w.heap.size, w.heap.size + 1, w.heap.size + 2], _, _, _, _, _, hp, fun g hg => (hn g hg).imp id (fun h => Nat.le_trans hbl5.size h), fun g hg => (by simp at hg; omega), ?_⟩
      exact (Chg.of (F := FD) hbl5).trans hc (fun k hk => by
        rcases List.mem_cons.1 hk with rfl | hk
        · exact Or.inr (by omega)
        · exact Or.inl hk)
  have hW4 : ((w.alloc (.map #[] 0)).alloc (.map #[] 0)).alloc (.cells #[.pointer (some ⟨D, 0, none⟩), .map (some w.heap.size), .map (some (w.heap.size + 1)), .int .i64 0, .int .i64 0, .bool false] TS) = W3 := hW3
  have hld2 : Calls Tryz.prog 106 #[.pointer (some ⟨w.heap.size + 1 + 1, 0, none⟩)] W3 fun e w' => e = .returned (.tuple #[]) ∧ Below W3.heap.size W3 w' := hld
  have HWr2 : Hid (∀ W4, Below W3.heap.size W3 W4 → Calls Tryz.prog 107 #[.pointer (some ⟨w.heap.size + 1 + 1, 0, none⟩), .func (.func 143) #[] #[.pointer (some ⟨W4.heap.size, 0, none⟩)]] (W4.alloc (.cells #[.pointer (some ⟨w.heap.size + 1 + 1, 0, none⟩)] 67)) fun e w5 => e = .returned (.int .i64 0) ∧ Hid (∃ FD' G X Y fx fy A, SPic w5 FD' G (w.heap.size + 2) D X Y fx fy A (sst0 d) ∧ (∀ g ∈ FD', g ∈ FD ∨ w.heap.size ≤ g) ∧ (∀ g ∈ G, w.heap.size ≤ g) ∧ Chg FD w w5)) := HWr
  clear hW3 hld HWr
  generalize d.bs.length = nb at *
  have hnz : ((nb : Int) == 0) = false := by simp; omega
  clear h3 hpd hd hrd b3 hs3
  go_enter Tryz.func80, Tryz.ntmps80
  go_wp2_with (first
    | (go_at_call 104; refine hbl.mono ?_; rintro e w' ⟨rfl, hw'⟩; obtain rfl := hw'.symm)
    | (go_at_call 105; refine hdn.mono ?_; rintro e w' ⟨rfl, hw'⟩; obtain rfl := hw'.symm)
    | (go_at_call 106; refine hld2.mono ?_; rintro e W4 ⟨rfl, b4⟩; have HB4 := hide b4; clear b4)
    | (go_at_call 108; refine (leftovers_any _ _).mono ?_; rintro e w' ⟨rfl, hw'⟩; obtain rfl := hw'.symm)
    | (go_at_call 107; (with_reducible_and_instances (refine (HWr2.out W4 HB4.out).mono ?_)); rintro e w5 ⟨rfl, hX⟩))
  go_ret2
  exact ⟨w.heap.size + 2, rfl, hX.out⟩
end Go.Proofs.YtmiibakbcogolaaGreat
namespace Go.Proofs.YtmiibakbcogolaaGreat
open Go.RowKit Go.Shelf

def DSt.clean (d : DSt) : Prop := ∀ x ∈ d.bs, x.vs = []
theorem writes_free (xs : List (Nat × List Nat)) : ∀ (d : DSt), d.free → (∀ x ∈ xs, x.1 < d.bs.length ∧ x.2.length = 256) → (writesD d xs).1 = true ∧ (writesD d xs).2.free := by
  induction xs with
  | nil => intro d h _; exact ⟨rfl, h⟩
  | cons x r ih =>
    intro d h hx
    have h1 := hx x (by simp)
    have h2 := writeD_free h h1.1 h1.2
    simp only [writesD, h2, if_true]
    refine ih _ ⟨h.on, h.none⟩ (fun y hy => ?_)
    rw [setB_len]
    exact hx y (by simp [hy])
theorem lasts_free {d : DSt} (h : d.free) (hc : d.clean) (xs : List (Nat × List Nat)) (hx : ∀ x ∈ xs, x.1 < d.bs.length ∧ x.2.length = 256) : (lastsD d xs).1 = true ∧ (lastsD d xs).2.free ∧ (lastsD d xs).2.clean := by
  obtain ⟨h1, h2⟩ := writes_free xs d h hx
  unfold lastsD
  rw [if_pos h1]
  split
  · exact ⟨rfl, h, hc⟩
  · rw [syncD_free h2]
    refine ⟨rfl, ⟨h2.on, h2.none⟩, fun x hx => ?_⟩
    obtain ⟨y, _, rfl⟩ := List.mem_map.1 hx
    exact sync_vs y
theorem SSt.rowE_ok (s : SSt) (e : Ent) (h : s.fin + e.parts ≤ s.d.bs.length) : ∀ x ∈ s.rowE e, x.1 < s.d.bs.length ∧ x.2.length = 256 := by
  intro x hx
  obtain ⟨k, hk⟩ := List.getElem?_of_mem hx
  unfold SSt.rowE at hk
  rw [rowAt_at] at hk
  have hk2 : k < (blocksN s.num e.text).length := by
    rcases Nat.lt_or_ge k (blocksN s.num e.text).length with h1 | h1
    · exact h1
    · rw [List.getElem?_eq_none h1] at hk; cases hk
  rw [blocksN_length] at hk2
  rw [blocksN_at _ _ _ hk2] at hk
  cases hk
  have h3 : partsN e.text.length = e.parts := by rw [Ent.text_length]; rfl
  refine ⟨by show s.fin + k < _; omega, partN_length _ _ _ _ (pieceN_length _ _)⟩
theorem takeE_d (s : SSt) (e : Ent) : (s.takeE e).d = s.d := by
  unfold SSt.takeE SSt.doE SSt.fill SSt.sealL SSt.giveUp
  simp only
  split
  · split <;> rfl
  · split <;> rfl
theorem record_free {s : SSt} (h : s.d.free) (hc : s.d.clean) (e : Ent) (hr : s.fin + e.parts ≤ s.d.bs.length) : ∃ d, s.record e = (0, ({ s with d := d } : SSt).takeE e) ∧ d.free ∧ d.clean ∧ d.bs.length = s.d.bs.length := by
  obtain ⟨h1, h2, h3⟩ := lasts_free h hc (s.rowE e) (s.rowE_ok e hr)
  refine ⟨(lastsD s.d (s.rowE e)).2, ?_, h2, h3, lastsD_length _ _⟩
  unfold SSt.record
  rw [if_neg (by omega), if_pos h1]
theorem record_full {s : SSt} (e : Ent) (hr : s.d.bs.length < s.fin + e.parts) : s.record e = (7, s) := by unfold SSt.record; rw [if_pos hr]
theorem record_keeps {s : SSt} (h : s.d.free) (hc : s.d.clean) (e : Ent) : (s.record e).2.d.free ∧ (s.record e).2.d.clean := by
  by_cases hr : s.d.bs.length < s.fin + e.parts
  · rw [record_full e hr]; exact ⟨h, hc⟩
  · obtain ⟨d, h1, h2, h3, _⟩ := record_free h hc e (by omega)
    rw [h1]
    simp only [takeE_d]
    exact ⟨h2, h3⟩
theorem put_keeps {s : SSt} (h : s.d.free) (hc : s.d.clean) (l p : Int) (data : List Nat) (r : Bool) : (s.put l p data r).2.d.free ∧ (s.put l p data r).2.d.clean := by
  unfold SSt.put
  repeat' split
  all_goals first
    | exact ⟨h, hc⟩
    | exact record_keeps h hc _
theorem seal_keeps {s : SSt} (h : s.d.free) (hc : s.d.clean) (l : Int) : (s.seal l).2.d.free ∧ (s.seal l).2.d.clean := by
  unfold SSt.seal
  repeat' split
  all_goals first
    | exact ⟨h, hc⟩
    | exact record_keeps h hc _
theorem new_free (n : Nat) : (newD n).free ∧ (newD n).clean ∧ ∀ x ∈ (newD n).bs, x = b0 := by
  have h : ∀ x ∈ (newD n).bs, x = b0 := fun x hx => (List.mem_replicate.1 hx).2
  exact ⟨⟨rfl, rfl⟩, fun x hx => by rw [h x hx]; rfl, h⟩
end Go.Proofs.YtmiibakbcogolaaGreat
