/- holder of package chain. -/
import Derived.Test.YthadagpfmacemaaCBack
namespace Go.Proofs.Ythadagpfmacemaa
open Go.RowKit Go.Shelf
attribute [local go_sem] Oper.semAt_some
variable {w w' : World} {l : List Pt} {A : Nat → Sl} {ad : Option Addr} {m c : Nat}

/-- The last of the first n parts that begins at a, or ahead of it. -/
def holdT (l : List Pt) (a : Int) : Nat → Option Nat
  | 0 => none
  | n + 1 => if (ptAt l n).first ≤ a then some n else holdT l a n
def holdN (l : List Pt) (a : Int) : Option Nat := holdT l a l.length
theorem holdT_lt {l : List Pt} {a : Int} {n i : Nat} (h : holdT l a n = some i) : i < n ∧ (ptAt l i).first ≤ a := by
  induction n with
  | zero => cases h
  | succ n ih =>
    rw [holdT] at h
    split at h
    · cases h; exact ⟨by omega, by assumption⟩
    · exact ⟨by have := (ih h).1; omega, (ih h).2⟩
/-- What holder keeps while its loop runs. -/
structure HoI (w : World) (a : Int) (p : Int) (k : Bool) (Z : World) : Prop where
  below : Below w.heap.size w Z
  b0 : Blk Z w.heap.size #[.int .i64 a] 3
  b1 : Blk Z (w.heap.size + 1) #[.int .i64 p] 3
  b2 : Blk Z (w.heap.size + 2) #[.bool k] 4
theorem HoI.chg {a p : Int} {k : Bool} {Z Z' : World} {F : List Nat} (h : HoI w a p k Z) (hc : Chg F Z Z') (hF : ∀ g ∈ F, w.heap.size + 3 ≤ g) : HoI w a p k Z' := by
  refine ⟨?_, h.b0.chg hc (fun hm => absurd (hF _ hm) (by omega)), h.b1.chg hc (fun hm => absurd (hF _ hm) (by omega)), h.b2.chg hc (fun hm => absurd (hF _ hm) (by omega))⟩
  exact ⟨hc.os.trans h.below.os, hc.tape.trans h.below.tape, hc.output.trans h.below.output, Nat.le_trans h.below.size hc.size, fun k hk => (hc.block k (Nat.lt_of_lt_of_le hk h.below.size) (fun hm => absurd (hF _ hm) (by omega))).trans (h.below.block k hk)⟩
theorem below_set2 {w Y : World} (h : Below w.heap.size w Y) (N : Nat) {u v : Value} (hN : N = w.heap.size := by rfl) : Below w.heap.size w ((Y.setCell ⟨N + 1, 0, none⟩ u).setCell ⟨N + 1 + 1, 0, none⟩ v) := by
  subst hN
  exact (h.setCell (p := ⟨w.heap.size + 1, 0, none⟩) (Nat.le_succ _) _).setCell (p := ⟨w.heap.size + 1 + 1, 0, none⟩) (by show w.heap.size ≤ w.heap.size + 1 + 1; omega) _
set_option maxRecDepth 100000 in
set_option maxHeartbeats 400000 in
theorem holder_any (h : CArg w l A ad m c) (a : Int) : Calls Try.prog 42 #[.slice ad m c, .int .i64 a] w fun e w' => e = .returned (.tuple #[.int .i64 (((holdN l a).getD 0 : Nat) : Int), .bool (holdN l a).isSome]) ∧ Below w.heap.size w w' := by
  obtain ⟨W4, hW4⟩ : ∃ W4, (((w.alloc (.cells #[.int .i64 a] 3)).alloc (.cells #[.int .i64 0] 3)).alloc (.cells #[.bool false] 4)).alloc (.cells #[.slice ad m c] 26) = W4 := ⟨_, rfl⟩
  have hb4 : Below w.heap.size w W4 := by rw [← hW4]; exact ((((Below.refl _ w).alloc (Nat.le_refl _) _).alloc (by simp) _).alloc (by simp; omega) _).alloc (by simp; omega) _
  have hs4 : W4.heap.size = w.heap.size + 4 := by rw [← hW4]; simp
  have hB : HoI w a 0 false W4 ∧ Blk W4 (w.heap.size + 3) #[.slice ad m c] 26 := by
    have e1 : (w.alloc (.cells #[.int .i64 a] 3)).heap.size = w.heap.size + 1 := by simp
    have e2 : ((w.alloc (.cells #[.int .i64 a] 3)).alloc (.cells #[.int .i64 0] 3)).heap.size = w.heap.size + 2 := by simp
    have e3 : (((w.alloc (.cells #[.int .i64 a] 3)).alloc (.cells #[.int .i64 0] 3)).alloc (.cells #[.bool false] 4)).heap.size = w.heap.size + 3 := by simp
    have q0 : Blk (w.alloc (.cells #[.int .i64 a] 3)) w.heap.size _ _ := heap_alloc_new w _
    have q1 : Blk _ _ _ _ := heap_alloc_new (w.alloc (.cells #[.int .i64 a] 3)) (.cells #[.int .i64 0] 3)
    have q2 : Blk _ _ _ _ := heap_alloc_new ((w.alloc (.cells #[.int .i64 a] 3)).alloc (.cells #[.int .i64 0] 3)) (.cells #[.bool false] 4)
    have q3 : Blk _ _ _ _ := heap_alloc_new (((w.alloc (.cells #[.int .i64 a] 3)).alloc (.cells #[.int .i64 0] 3)).alloc (.cells #[.bool false] 4)) (.cells #[.slice ad m c] 26)
    rw [e1] at q1
    rw [e2] at q2
    rw [e3] at q3
    rw [← hW4] at hb4 ⊢
    have n1 := (Below.refl _ (w.alloc (.cells #[.int .i64 a] 3))).alloc (Nat.le_refl _) (.cells #[.int .i64 0] 3)
    have n2 := (Below.refl _ ((w.alloc (.cells #[.int .i64 a] 3)).alloc (.cells #[.int .i64 0] 3))).alloc (Nat.le_refl _) (.cells #[.bool false] 4)
    have n3 := (Below.refl _ (((w.alloc (.cells #[.int .i64 a] 3)).alloc (.cells #[.int .i64 0] 3)).alloc (.cells #[.bool false] 4))).alloc (Nat.le_refl _) (.cells #[.slice ad m c] 26)
    exact ⟨⟨hb4, ((q0.later n1).later n2).later n3, (q1.later n2).later n3, q2.later n3⟩, q3⟩
  have hl := h.len
  have h4 := h.later hb4
  have hlt4 := h.lt
  obtain ⟨Gs, g1, g2, g3⟩ : ∃ Gs : List Nat, w.heap.size + 3 ∈ Gs ∧ (∀ b off, ad = some ⟨b, off, none⟩ → m ≠ 0 → b ∈ Gs) ∧ ∀ g ∈ Gs, g < w.heap.size + 4 := by
    by_cases h0 : m = 0
    · exact ⟨[w.heap.size + 3], by simp, fun b off e hn => absurd h0 hn, fun g hg => by simp at hg; omega⟩
    · obtain ⟨b, off, rfl, hs, -⟩ := h.cells (by omega)
      exact ⟨[w.heap.size + 3, b], by simp, fun b' off' e _ => by cases e; simp, fun g hg => by simp at hg; omega⟩
  have HSq := hid (back_seq (K := fun _ _ => True) h4 (w.heap.size + 3) Gs (hB.2.cell 0) g1 g2 (fun g hg => by have := g3 g hg; omega))
  have HGs : Hid (∀ g ∈ Gs, g < w.heap.size + 4) := g3
  have HB := hid hB
  clear h h4 hb4 hB hlt4 g1 g2 g3
  refine (callsIn_wide (n := 3)).1 ?_
  refine callsIn_of_wp_marks Try.func42 rfl trivial ?_ rfl
  simp only [Try.ntmps42, List.size_toArray, List.length_cons, List.length_nil, Nat.reduceAdd, Nat.reduceSub, Array.replicate_succ, Array.replicate_zero, List.push_toArray, List.append_toArray, List.nil_append, List.cons_append]
  gi_wp2_with (refine ⟨trivial, ?_⟩; gi_at_call 62; refine (callsIn_wide.2 (back_any ad m c _)).mono ?_; rintro e w2 ⟨rfl, hw2⟩; obtain rfl := hw2.symm)
  clear hW4
  refine range_A (w.heap.size + 4) hs4 (gf := 69) rfl enters_back HSq.out (fun h k => h.trans k) ?kb (fun k Z => HoI w a 0 false Z ∧ holdT l a m = holdT l a (m - k)) (fun _ Z => ∃ i : Nat, holdT l a m = some i ∧ HoI w a (i : Int) true Z) ?hI ?hIx (fun _ _ _ => trivial) ?h0 ?hps
    (fun args X => { tmps := #[.slice ad m c, .int .i64 a, undef, .pointer (some ⟨w.heap.size, 0, none⟩), .pointer (some ⟨w.heap.size + 1, 0, none⟩), .pointer (some ⟨w.heap.size + 1 + 1, 0, none⟩), args.getD 0 undef, .pointer (some ⟨X.heap.size, 0, none⟩), .slice ad m c, .func (.func 69) #[] #[.pointer (some ⟨w.heap.size + 1 + 1 + 1, 0, none⟩)], args.getD 0 undef, args.getD 1 undef, undef, undef, undef, undef, undef], defers := [] })
    (fun args X => X.alloc (.cells (match args.getD 1 undef with | .agg cs => cs | _ => #[]) 61)) ?hx1 ?hKa ?assign ?body ?done ?stop
  case kb => exact fun Z o hZ => ⟨by simp, fun g hg => World.putObj_heap_other (by have := HGs.out g hg; omega)⟩
  case hI => exact fun k Z Z' h1 hc => ⟨h1.1.chg hc (fun g hg => by simp at hg; omega), h1.2⟩
  case hIx => exact fun k Z Z' h1 hc => by obtain ⟨i, h2, h3⟩ := h1; exact ⟨i, h2, h3.chg hc (fun g hg => by simp at hg; omega)⟩
  case h0 => exact ⟨HB.out.1, rfl⟩
  case hps =>
    rintro k args X ⟨_, rfl⟩
    rfl
  case hx1 => exact fun k args X _ => (Below.refl _ _).alloc (Nat.le_refl _) _
  case hKa => exact fun k args X _ hX => Kg.below ((Below.refl _ _).alloc (Nat.le_refl _) _) (fun g hg => by have := HGs.out g hg; omega)
  case assign =>
    rintro q k args X L ⟨hk, rfl⟩ hL
    clear HSq HB HGs
    gi_wp2
    exact hL
  case body =>
    rintro q k args X Y hk hX ⟨hI, hT⟩ ⟨hkm, rfl⟩ hc hsz
    have hbx : Blk (X.alloc (.cells #[.int .i64 (ptAt l (m - 1 - k)).first, .int .i64 (ptAt l (m - 1 - k)).id, .slice (A (m - 1 - k)).ad (A (m - 1 - k)).m (A (m - 1 - k)).c] 61)) X.heap.size _ _ := heap_alloc_new X _
    have hby := hbx.chg hc (by simp; omega)
    have HY := hid ((hI.chg (F := []) (Chg.of ((Below.refl _ X).alloc (Nat.le_refl _) _)) (fun g hg => by cases hg)).chg hc (fun g hg => by simp at hg; omega))
    have c0 : Y.cell? ⟨X.heap.size, 0, none⟩ = some (.int .i64 (ptAt l (m - 1 - k)).first) := hby.cell 0
    have c1 : Y.cell? ⟨w.heap.size, 0, none⟩ = some (.int .i64 a) := HY.out.b0.cell 0
    have c2 : Y.cell? ⟨w.heap.size + 1, 0, none⟩ = some (.int .i64 0) := HY.out.b1.cell 0
    have c3 : Y.cell? ⟨w.heap.size + 1 + 1, 0, none⟩ = some (.bool false) := HY.out.b2.cell 0
    have f2 : Y.frozen? ⟨w.heap.size + 1, 0, none⟩ = false := HY.out.b1.free 0
    have f3 : Y.frozen? ⟨w.heap.size + 1 + 1, 0, none⟩ = false := HY.out.b2.free 0
    have hst : m - k = (m - 1 - k) + 1 := by omega
    have hst2 : m - (k + 1) = m - 1 - k := by omega
    have HT1 := hid (fun (hh : (ptAt l (m - 1 - k)).first ≤ a) => show holdT l a m = some (m - 1 - k) from by rw [hT, hst, holdT, if_pos hh])
    have HT2 := hid (fun (hh : ¬ (ptAt l (m - 1 - k)).first ≤ a) => show holdT l a m = holdT l a (m - (k + 1)) from by rw [hT, hst, holdT, if_neg hh, hst2])
    clear hI hT hc hsz hbx hby HSq HB HGs hst hst2
    generalize (ptAt l (m - 1 - k)).first = f at *
    by_cases hf : f ≤ a
    · have HT3 := hid (HT1.out hf)
      have hd : decide (f ≤ a) = true := by simpa using hf
      clear HT1 HT2 hf
      gi_wp2
      have hy := HY.out
      refine ⟨⟨?_, ?_⟩, m - 1 - k, HT3.out, below_set2 hy.below w.heap.size, ?_, ?_, ?_⟩
      · exact (Below.heap_setCell _ _ _ _ (by show w.heap.size + 4 ≠ w.heap.size + 1 + 1; omega)).trans (Below.heap_setCell _ _ _ _ (by show w.heap.size + 4 ≠ w.heap.size + 1; omega))
      · exact (Below.heap_setCell _ _ _ _ (by show w.heap.size + 4 + 1 ≠ w.heap.size + 1 + 1; omega)).trans (Below.heap_setCell _ _ _ _ (by show w.heap.size + 4 + 1 ≠ w.heap.size + 1; omega))
      · exact (hy.b0.other (by omega) 0 _).other (by omega) 0 _
      · exact (hy.b1.set 0 _).other (by omega) 0 _
      · exact (hy.b2.other (by omega) 0 _).set 0 _
    · have HT3 := hid (HT2.out hf)
      have hd : decide (f ≤ a) = false := by simpa using hf
      clear HT1 HT2 hf
      gi_wp2
      exact ⟨⟨rfl, rfl⟩, Kg.refl _ _, HY.out, HT3.out⟩
  case done =>
    rintro X hX ⟨hI, hT⟩ hD
    have hT0 : holdN l a = none := by unfold holdN; rw [hl, hT, Nat.sub_self]; rfl
    have HT0 := hid hT0
    have HI := hid hI
    have c2 : X.cell? ⟨w.heap.size + 1, 0, none⟩ = some (.int .i64 0) := hI.b1.cell 0
    have c3 : X.cell? ⟨w.heap.size + 1 + 1, 0, none⟩ = some (.bool false) := hI.b2.cell 0
    have f2 : X.frozen? ⟨w.heap.size + 1, 0, none⟩ = false := hI.b1.free 0
    have f3 : X.frozen? ⟨w.heap.size + 1 + 1, 0, none⟩ = false := hI.b2.free 0
    have HD := hid hD
    clear hI hT hD HSq HB hT0
    gi_wp2
    have hc : Chg [w.heap.size + 1, w.heap.size + 2] X ((X.setCell ⟨w.heap.size + 1, 0, none⟩ (.int .i64 0)).setCell ⟨w.heap.size + 1 + 1, 0, none⟩ (.bool false)) := ((Chg.refl _ X).set (Or.inl (by simp)) _ _).set (Or.inl (by simp)) _ _
    have m1 := (HI.out.b1.set 0 (.int .i64 0)).other (C := w.heap.size + 1 + 1) (by omega) 0 (.bool false)
    have m2 := (HI.out.b2.other (C := w.heap.size + 1) (by omega) 0 (.int .i64 0)).set 0 (.bool false)
    have hDf := (hc.block _ (Array.getElem?_eq_some_iff.1 HD.out).1 (by simp)).trans HD.out
    have hbl : Below w.heap.size w ((X.setCell ⟨w.heap.size + 1, 0, none⟩ (.int .i64 0)).setCell ⟨w.heap.size + 1 + 1, 0, none⟩ (.bool false)) := below_set2 HI.out.below w.heap.size
    generalize (X.setCell ⟨w.heap.size + 1, 0, none⟩ (.int .i64 0)).setCell ⟨w.heap.size + 1 + 1, 0, none⟩ (.bool false) = Z at *
    have hpc : Chg [w.heap.size + 4, w.heap.size + 4 + 1] Z (Z.putObj (w.heap.size + 4) (.deferred none)) := putObj_chg Z _ _ _ (Or.inl rfl)
    have r1 : (Z.putObj (w.heap.size + 4) (.deferred none)).cell? ⟨w.heap.size + 1, 0, none⟩ = some (.int .i64 0) := (m1.chg hpc (by simp)).cell 0
    have r2 : (Z.putObj (w.heap.size + 4) (.deferred none)).cell? ⟨w.heap.size + 1 + 1, 0, none⟩ = some (.bool false) := (m2.chg hpc (by simp)).cell 0
    refine ⟨by simp, .inl ⟨_, _, rfl, run_takeDeferred hDf, ?_⟩⟩
    refine ⟨.tuple #[.int .i64 0, .bool false], by simp [results, Try.results42, go_sem, r1, r2], by rw [HT0.out]; rfl, ?_⟩
    exact hbl.trans (hpc.below (by intro g hg; simp at hg; omega) hbl.size)
  case stop =>
    rintro k X hk ⟨i, hi, hI⟩ hD
    have hT0 : holdN l a = some i := by unfold holdN; rw [hl, hi]
    have HT0 := hid hT0
    have hpc : Chg [w.heap.size + 4, w.heap.size + 4 + 1] X (X.putObj (w.heap.size + 4) (.deferred none)) := putObj_chg X _ _ _ (Or.inl rfl)
    have hq := hI.chg hpc (fun g hg => by simp at hg; omega)
    have r1 : (X.putObj (w.heap.size + 4) (.deferred none)).cell? ⟨w.heap.size + 1, 0, none⟩ = some (.int .i64 (i : Int)) := hq.b1.cell 0
    have r2 : (X.putObj (w.heap.size + 4) (.deferred none)).cell? ⟨w.heap.size + 1 + 1, 0, none⟩ = some (.bool true) := hq.b2.cell 0
    have HQ := hid hq
    have HD := hid hD
    clear hi hI hD HSq HB hT0 hpc hq
    gi_wp2
    refine ⟨by simp, .inl ⟨_, _, rfl, run_takeDeferred HD.out, ?_⟩⟩
    exact ⟨.tuple #[.int .i64 (i : Int), .bool true], by simp [results, Try.results42, go_sem, r1, r2], by rw [HT0.out]; rfl, HQ.out.below⟩
end Go.Proofs.Ythadagpfmacemaa
