/- find of package producer: one of the last batches. -/
import Derived.Test.YtobaeiicacpbnaaPWin
namespace Go.Proofs.Ytobaeiicacpbnaa
open Go.RowKit Go.Shelf
attribute [local go_sem] Oper.semAt_some
variable {w w' : World} {B : Nat} {s : PSt}

theorem sizeDn (d : Dn) : (Try.prog.info? 73).map (·.size) = some (dnL d).length := by kernel_rfl
/-- What find keeps while its loop runs. -/
structure FdI (w : World) (q n : Int) (d : Dn) (k : Bool) (Z : World) : Prop where
  below : Below w.heap.size w Z
  b0 : Blk Z w.heap.size #[.int .i64 q] 3
  b1 : Blk Z (w.heap.size + 1) #[.int .i64 n] 3
  b2 : Blk Z (w.heap.size + 2) (dnL d).toArray TDn
  b3 : Blk Z (w.heap.size + 3) #[.bool k] 4
theorem FdI.chg {q n : Int} {d : Dn} {k : Bool} {Z Z' : World} {F : List Nat} (h : FdI w q n d k Z) (hc : Chg F Z Z') (hF : ∀ g ∈ F, w.heap.size + 4 ≤ g) : FdI w q n d k Z' := by
  refine ⟨?_, h.b0.chg hc (fun hm => absurd (hF _ hm) (by omega)), h.b1.chg hc (fun hm => absurd (hF _ hm) (by omega)), h.b2.chg hc (fun hm => absurd (hF _ hm) (by omega)), h.b3.chg hc (fun hm => absurd (hF _ hm) (by omega))⟩
  exact ⟨hc.os.trans h.below.os, hc.tape.trans h.below.tape, hc.output.trans h.below.output, Nat.le_trans h.below.size hc.size, fun k hk => (hc.block k (Nat.lt_of_lt_of_le hk h.below.size) (fun hm => absurd (hF _ hm) (by omega))).trans (h.below.block k hk)⟩
/-- Its two answers are stored. -/
theorem FdI.set {q n : Int} {d d' : Dn} {k k' : Bool} {Z Z' : World} (h : FdI w q n d k Z)
    (hZ : Z' = (((Z.setCell ⟨w.heap.size + 1 + 1, 0, none⟩ (.int .i64 d'.seq)).setCell ⟨w.heap.size + 1 + 1, 1, none⟩ (.int .i64 d'.len)).setCell ⟨w.heap.size + 1 + 1, 2, none⟩ (.int .i64 d'.off)).setCell ⟨w.heap.size + 1 + 1 + 1, 0, none⟩ (.bool k')) :
    FdI w q n d' k' Z' ∧ Chg [w.heap.size + 2, w.heap.size + 3] Z Z' := by
  have hc : Chg [w.heap.size + 2, w.heap.size + 3] Z Z' := by rw [hZ]; exact ((((Chg.refl _ Z).set (Or.inl (by simp)) _ _).set (Or.inl (by simp)) _ _).set (Or.inl (by simp)) _ _).set (Or.inl (by simp)) _ _
  refine ⟨⟨?_, h.b0.chg hc (by simp), h.b1.chg hc (by simp), ?_, ?_⟩, hc⟩
  · exact ⟨hc.os.trans h.below.os, hc.tape.trans h.below.tape, hc.output.trans h.below.output, Nat.le_trans h.below.size hc.size, fun k hk => (hc.block k (Nat.lt_of_lt_of_le hk h.below.size) (by simp; omega)).trans (h.below.block k hk)⟩
  · rw [hZ]
    exact (((h.b2.set 0 (.int .i64 d'.seq)).set 1 (.int .i64 d'.len)).set 2 (.int .i64 d'.off)).other (C := w.heap.size + 1 + 1 + 1) (by omega) 0 _
  · rw [hZ]
    exact (((h.b3.other (C := w.heap.size + 1 + 1) (by omega) 0 (.int .i64 d'.seq)).other (C := w.heap.size + 1 + 1) (by omega) 1 (.int .i64 d'.len)).other (C := w.heap.size + 1 + 1) (by omega) 2 (.int .i64 d'.off)).set 0 _
theorem FdI.ret {q n : Int} {d : Dn} {k : Bool} {Z : World} (h : FdI w q n d k Z) (tmps : Array Value) (h6 : tmps[6]? = some (.pointer (some ⟨w.heap.size + 1 + 1, 0, none⟩))) (h7 : tmps[7]? = some (.pointer (some ⟨w.heap.size + 1 + 1 + 1, 0, none⟩))) :
    (results (Try.f43) tmps).run Try.prog Z = .ok (.tuple #[.agg #[.int .i64 d.seq, .int .i64 d.len, .int .i64 d.off], .bool k]) Z := by
  have c0 : Z.cell? ⟨w.heap.size + 1 + 1, 0, none⟩ = some (.int .i64 d.seq) := h.b2.cell 0
  have c1 : Z.cell? ⟨w.heap.size + 1 + 1, 1, none⟩ = some (.int .i64 d.len) := h.b2.cell 1
  have c2 : Z.cell? ⟨w.heap.size + 1 + 1, 2, none⟩ = some (.int .i64 d.off) := h.b2.cell 2
  have c3 : Z.cell? ⟨w.heap.size + 1 + 1 + 1, 0, none⟩ = some (.bool k) := h.b3.cell 0
  simp only [results, Try.results43]
  simp [go_sem, h6, h7, c0, c1, c2, c3]
theorem findD_step {q n : Int} {k : Nat} (hk : k < s.cnt) : findD q n (s.last.drop k) = if (s.at k).seq = q ∧ (s.at k).len = n then some (s.at k) else findD q n (s.last.drop (k + 1)) := by
  have h := s.last_at k hk
  have hl : k < s.last.length := by rw [s.last_len]; exact hk
  rw [List.getElem?_eq_getElem hl] at h
  rw [List.drop_eq_getElem_cons hl, Option.some.inj h]
  rfl
set_option maxRecDepth 100000 in
set_option maxHeartbeats 400000 in
theorem find_any (h : SBox w B s) (hok : s.ok) (q n : Int) : Calls Try.prog 43 #[.pointer (some ⟨B, 2, none⟩), .int .i64 q, .int .i64 n] w fun e w' => e = .returned (.tuple #[.agg #[.int .i64 ((findD q n s.last).getD dn0).seq, .int .i64 ((findD q n s.last).getD dn0).len, .int .i64 ((findD q n s.last).getD dn0).off], .bool (findD q n s.last).isSome]) ∧ Below w.heap.size w w' := by
  obtain ⟨W5, hW5⟩ : ∃ W5, ((((w.alloc (.cells #[.int .i64 q] 3)).alloc (.cells #[.int .i64 n] 3)).alloc (.cells #[.int .i64 0, .int .i64 0, .int .i64 0] TDn)).alloc (.cells #[.bool false] 4)).alloc (.cells #[.pointer (some ⟨B, 2, none⟩)] 109) = W5 := ⟨_, rfl⟩
  have hb5 : Below w.heap.size w W5 := by rw [← hW5]; exact (((((Below.refl _ w).alloc (Nat.le_refl _) _).alloc (by simp) _).alloc (by simp; omega) _).alloc (by simp; omega) _).alloc (by simp; omega) _
  have hs5 : W5.heap.size = w.heap.size + 5 := by rw [← hW5]; simp
  have hB : FdI w q n dn0 false W5 ∧ Blk W5 (w.heap.size + 4) #[.pointer (some ⟨B, 2, none⟩)] 109 := by
    have q0 : Blk (w.alloc (.cells #[.int .i64 q] 3)) w.heap.size _ _ := heap_alloc_new w _
    have n1 := (Below.refl _ (w.alloc (.cells #[.int .i64 q] 3))).alloc (Nat.le_refl _) (.cells #[.int .i64 n] 3)
    have q1 : Blk _ _ _ _ := heap_alloc_new (w.alloc (.cells #[.int .i64 q] 3)) (.cells #[.int .i64 n] 3)
    rw [show (w.alloc (.cells #[.int .i64 q] 3)).heap.size = w.heap.size + 1 by simp] at q1
    have p0 := q0.later n1
    have e2 : ((w.alloc (.cells #[.int .i64 q] 3)).alloc (.cells #[.int .i64 n] 3)).heap.size = w.heap.size + 2 := by simp
    generalize (w.alloc (.cells #[.int .i64 q] 3)).alloc (.cells #[.int .i64 n] 3) = V at *
    have n2 := (Below.refl _ V).alloc (Nat.le_refl _) (.cells #[.int .i64 0, .int .i64 0, .int .i64 0] TDn)
    have q2 : Blk _ _ _ _ := heap_alloc_new V (.cells #[.int .i64 0, .int .i64 0, .int .i64 0] TDn)
    rw [e2] at q2
    have p02 := p0.later n2
    have p12 := q1.later n2
    have e3 : (V.alloc (.cells #[.int .i64 0, .int .i64 0, .int .i64 0] TDn)).heap.size = w.heap.size + 3 := by simp [e2]
    generalize V.alloc (.cells #[.int .i64 0, .int .i64 0, .int .i64 0] TDn) = U at *
    have n3 := (Below.refl _ U).alloc (Nat.le_refl _) (.cells #[.bool false] 4)
    have q3 : Blk _ _ _ _ := heap_alloc_new U (.cells #[.bool false] 4)
    rw [e3] at q3
    have p03 := p02.later n3
    have p13 := p12.later n3
    have p23 := q2.later n3
    have e4 : (U.alloc (.cells #[.bool false] 4)).heap.size = w.heap.size + 4 := by simp [e3]
    generalize U.alloc (.cells #[.bool false] 4) = T at *
    have n4 := (Below.refl _ T).alloc (Nat.le_refl _) (.cells #[.pointer (some ⟨B, 2, none⟩)] 109)
    have q4 : Blk _ _ _ _ := heap_alloc_new T (.cells #[.pointer (some ⟨B, 2, none⟩)] 109)
    rw [e4] at q4
    rw [← hW5] at hb5 ⊢
    exact ⟨⟨hb5, p03.later n4, p13.later n4, p23.later n4, q3.later n4⟩, q4⟩
  have hBl : B < w.heap.size := Blk.lt h
  have HSq := hid (all_seq (K := fun _ _ => True) (h.later hb5) hok (w.heap.size + 4) [w.heap.size + 4, B] (hB.2.cell 0) (by simp) (by simp) (fun g hg => by simp at hg; omega))
  have HB := hid hB
  have hl := s.last_len
  clear h hok hb5 hB
  refine (callsIn_wide (n := 3)).1 ?_
  refine callsIn_of_wp_marks Try.func43 rfl trivial ?_ rfl
  simp only [Try.ntmps43, List.size_toArray, List.length_cons, List.length_nil, Nat.reduceAdd, Nat.reduceSub, Array.replicate_succ, Array.replicate_zero, List.push_toArray, List.append_toArray, List.nil_append, List.cons_append]
  gi_wp2_with (refine ⟨trivial, ?_⟩; gi_at_call 37; refine (callsIn_wide.2 (all_any ⟨B, 2, none⟩ _)).mono ?_; rintro e w2 ⟨rfl, hw2⟩; obtain rfl := hw2.symm)
  clear hW5
  refine range_A (w.heap.size + 5) hs5 (gf := 50) rfl enters_all HSq.out (fun h k => h.trans k) ?kb (fun k Z => FdI w q n dn0 false Z ∧ findD q n s.last = findD q n (s.last.drop k)) (fun _ Z => ∃ d : Dn, findD q n s.last = some d ∧ FdI w q n d true Z) ?hI ?hIx (fun _ _ _ => trivial) ?h0 ?hps
    (fun args X => { tmps := #[.pointer (some ⟨B, 2, none⟩), .int .i64 q, .int .i64 n, undef, .pointer (some ⟨w.heap.size, 0, none⟩), .pointer (some ⟨w.heap.size + 1, 0, none⟩), .pointer (some ⟨w.heap.size + 1 + 1, 0, none⟩), .pointer (some ⟨w.heap.size + 1 + 1 + 1, 0, none⟩), .pointer (some ⟨X.heap.size, 0, none⟩), .pointer (some ⟨B, 2, none⟩), .func (.func 50) #[] #[.pointer (some ⟨w.heap.size + 1 + 1 + 1 + 1, 0, none⟩)], args.getD 0 undef, undef, undef, undef, undef, undef, undef, undef, undef, undef, undef, undef, undef], defers := [] })
    (fun args X => X.alloc (.cells (match args.getD 0 undef with | .agg cs => cs | _ => #[]) TDn)) ?hx1 ?hKa ?assign ?body ?done ?stop
  case kb => exact fun Z o hZ => ⟨by simp, fun g hg => World.putObj_heap_other (by simp at hg; omega)⟩
  case hI => exact fun k Z Z' h1 hc => ⟨h1.1.chg hc (fun g hg => by simp at hg; omega), h1.2⟩
  case hIx => exact fun k Z Z' h1 hc => by obtain ⟨d, h2, h3⟩ := h1; exact ⟨d, h2, h3.chg hc (fun g hg => by simp at hg; omega)⟩
  case h0 => exact ⟨HB.out.1, rfl⟩
  case hps =>
    rintro k args X ⟨_, rfl⟩
    rfl
  case hx1 => exact fun k args X _ => (Below.refl _ _).alloc (Nat.le_refl _) _
  case hKa => exact fun k args X _ hX => Kg.below ((Below.refl _ _).alloc (Nat.le_refl _) _) (fun g hg => by simp at hg; omega)
  case assign =>
    rintro l k args X L ⟨hk, rfl⟩ hL
    clear HSq HB
    gi_wp2
    exact hL
  case body =>
    rintro l k args X Y hk hX ⟨hI, hT⟩ ⟨hkm, rfl⟩ hc hsz
    have hbx : Blk (X.alloc (.cells #[.int .i64 (s.at k).seq, .int .i64 (s.at k).len, .int .i64 (s.at k).off] TDn)) X.heap.size _ _ := heap_alloc_new X _
    have hby := hbx.chg hc (by simp; omega)
    have HY := hid ((hI.chg (F := []) (Chg.of ((Below.refl _ X).alloc (Nat.le_refl _) _)) (fun g hg => by cases hg)).chg hc (fun g hg => by simp at hg; omega))
    have c0 : Y.cell? ⟨X.heap.size, 0, none⟩ = some (.int .i64 (s.at k).seq) := hby.cell 0
    have c1 : Y.cell? ⟨X.heap.size, 1, none⟩ = some (.int .i64 (s.at k).len) := hby.cell 1
    have c2 : Y.cell? ⟨X.heap.size, 2, none⟩ = some (.int .i64 (s.at k).off) := hby.cell 2
    have a0 : Y.cell? ⟨w.heap.size, 0, none⟩ = some (.int .i64 q) := HY.out.b0.cell 0
    have a1 : Y.cell? ⟨w.heap.size + 1, 0, none⟩ = some (.int .i64 n) := HY.out.b1.cell 0
    have r0 : Y.cell? ⟨w.heap.size + 1 + 1, 0, none⟩ = some (.int .i64 0) := HY.out.b2.cell 0
    have r1 : Y.cell? ⟨w.heap.size + 1 + 1, 1, none⟩ = some (.int .i64 0) := HY.out.b2.cell 1
    have r2 : Y.cell? ⟨w.heap.size + 1 + 1, 2, none⟩ = some (.int .i64 0) := HY.out.b2.cell 2
    have r3 : Y.cell? ⟨w.heap.size + 1 + 1 + 1, 0, none⟩ = some (.bool false) := HY.out.b3.cell 0
    have f0 : Y.frozen? ⟨w.heap.size + 1 + 1, 0, none⟩ = false := HY.out.b2.free 0
    have f1 : Y.frozen? ⟨w.heap.size + 1 + 1, 1, none⟩ = false := HY.out.b2.free 1
    have f2 : Y.frozen? ⟨w.heap.size + 1 + 1, 2, none⟩ = false := HY.out.b2.free 2
    have f3 : Y.frozen? ⟨w.heap.size + 1 + 1 + 1, 0, none⟩ = false := HY.out.b3.free 0
    have hst := findD_step (q := q) (n := n) hkm
    have HT1 := hid (fun (hh : (s.at k).seq = q ∧ (s.at k).len = n) => show findD q n s.last = some (s.at k) from by rw [hT, hst, if_pos hh])
    have HT2 := hid (fun (hh : ¬ ((s.at k).seq = q ∧ (s.at k).len = n)) => show findD q n s.last = findD q n (s.last.drop (k + 1)) from by rw [hT, hst, if_neg hh])
    have hXY : X.heap.size < Y.heap.size := by rw [hsz]; simp
    clear hI hT hc hsz hbx hby HSq HB hst
    by_cases h1 : (s.at k).seq = q
    · by_cases h2 : (s.at k).len = n
      · have HT3 := hid (HT1.out ⟨h1, h2⟩)
        have HSt := hid (HY.out.set (d' := s.at k) (k' := true) rfl)
        rw [h1, h2] at HSt
        rw [h1] at c0
        rw [h2] at c1
        clear HT1 HT2 h1 h2
        generalize (s.at k).off = e2 at *
        gi_wp2
        obtain ⟨hz1, hz2⟩ := HSt.out
        refine ⟨⟨?_, ?_⟩, _, HT3.out, hz1⟩
        · exact hz2.block _ (by omega) (by simp)
        · exact hz2.block _ (by omega) (by simp)
      · have HT3 := hid (HT2.out (fun hh => h2 hh.2))
        have hd : ((s.at k).len == n) = false := by simpa using h2
        rw [h1] at c0
        clear HT1 HT2 h1 h2
        generalize (s.at k).off = e2 at *
        generalize (s.at k).len = e1 at *
        gi_wp2
        exact ⟨⟨rfl, rfl⟩, Kg.refl _ _, HY.out, HT3.out⟩
    · have HT3 := hid (HT2.out (fun hh => h1 hh.1))
      have hd : ((s.at k).seq == q) = false := by simpa using h1
      clear HT1 HT2 h1
      generalize (s.at k).off = e2 at *
      generalize (s.at k).len = e1 at *
      generalize (s.at k).seq = e0 at *
      gi_wp2
      exact ⟨⟨rfl, rfl⟩, Kg.refl _ _, HY.out, HT3.out⟩
  case done =>
    rintro X hX ⟨hI, hT⟩ hD
    have hT0 : findD q n s.last = none := by rw [hT, List.drop_of_length_le (by rw [hl]; omega)]; rfl
    have HT0 := hid hT0
    have HI := hid hI
    have r0 : X.cell? ⟨w.heap.size + 1 + 1, 0, none⟩ = some (.int .i64 0) := hI.b2.cell 0
    have r1 : X.cell? ⟨w.heap.size + 1 + 1, 1, none⟩ = some (.int .i64 0) := hI.b2.cell 1
    have r2 : X.cell? ⟨w.heap.size + 1 + 1, 2, none⟩ = some (.int .i64 0) := hI.b2.cell 2
    have r3 : X.cell? ⟨w.heap.size + 1 + 1 + 1, 0, none⟩ = some (.bool false) := hI.b3.cell 0
    have f0 : X.frozen? ⟨w.heap.size + 1 + 1, 0, none⟩ = false := hI.b2.free 0
    have f1 : X.frozen? ⟨w.heap.size + 1 + 1, 1, none⟩ = false := hI.b2.free 1
    have f2 : X.frozen? ⟨w.heap.size + 1 + 1, 2, none⟩ = false := hI.b2.free 2
    have f3 : X.frozen? ⟨w.heap.size + 1 + 1 + 1, 0, none⟩ = false := hI.b3.free 0
    have HD := hid hD
    have HSt := hid (hI.set (d' := dn0) (k' := false) rfl)
    clear hI hT hD HSq HB hT0
    gi_wp2
    obtain ⟨hz1, hz2⟩ := HSt.out
    have hDf := (hz2.block _ (Array.getElem?_eq_some_iff.1 HD.out).1 (by simp)).trans HD.out
    have hz3 := hz1.chg (putObj_chg _ (w.heap.size + 5) _ (.deferred none) (Or.inl rfl)) (fun g hg => by simp at hg; omega)
    refine ⟨by simp, .inl ⟨_, _, rfl, run_takeDeferred hDf, ?_⟩⟩
    exact ⟨_, hz3.ret _ rfl rfl, by rw [HT0.out]; rfl, hz3.below⟩
  case stop =>
    rintro k X hk ⟨d, hd, hI⟩ hD
    have HT0 := hid hd
    have HQ := hid (hI.chg (putObj_chg X (w.heap.size + 5) _ (.deferred none) (Or.inl rfl)) (fun g hg => by simp at hg; omega))
    have HD := hid hD
    clear hd hI hD HSq HB
    gi_wp2
    refine ⟨by simp, .inl ⟨_, _, rfl, run_takeDeferred HD.out, ?_⟩⟩
    exact ⟨_, HQ.out.ret _ rfl rfl, by rw [HT0.out]; rfl, HQ.out.below⟩
end Go.Proofs.Ytobaeiicacpbnaa
