/- slices.Backward of parts: the iterator. -/
import Derived.Test.YthadagpfmacemaaCTrim
import Derived.Test.YthadagpfmacemaaRangeA
import Derived.Shelf.Abstract
import Derived.Shelf.RegionOpen
import Derived.Stop.RegionWithIn
import Derived.OwnWalkIn
import Derived.TacticsInMore
import Derived.LoopNIn
import Derived.LoopIn
import Derived.BigQuiet
namespace Go.Proofs.Ythadagpfmacemaa
open Go.RowKit Go.Shelf
variable {w w' : World} {l : List Pt} {A : Nat → Sl} {ad : Option Addr} {m c : Nat}

/-- Round k is handed part m - 1 - k. -/
def BackR (l : List Pt) (A : Nat → Sl) (m : Nat) (k : Nat) (args : Array Value) (_ : World) : Prop := k < m ∧ args = #[.int .i64 ((m - 1 - k : Nat) : Int), .agg #[.int .i64 (ptAt l (m - 1 - k)).first, .int .i64 (ptAt l (m - 1 - k)).id, .slice (A (m - 1 - k)).ad (A (m - 1 - k)).m (A (m - 1 - k)).c]]
set_option maxRecDepth 100000 in
set_option maxHeartbeats 400000 in
theorem back_seq (h : CArg w l A ad m c) (gb : Nat) (Gs : List Nat) (K : Nat → World → Prop) (hgb : w.cell? ⟨gb, 0, none⟩ = some (.slice ad m c)) (hg : gb ∈ Gs) (hrow : ∀ b off, ad = some ⟨b, off, none⟩ → m ≠ 0 → b ∈ Gs) (hlt : ∀ g ∈ Gs, g < w.heap.size) :
    SeqR Try.prog 69 #[.pointer (some ⟨gb, 0, none⟩)] (Kg Gs) K (BackR l A m) m w := by
  intro q J Jx W hW hJ _ _ hY h0
  have hm : m ≤ 9223372036854775807 := by have := h.cap; have := h.room; unfold maxLen at this; omega
  have hk0 : Kg Gs w W := Kg.below hW hlt
  have HK0 : Hid (Kg Gs w W) := hk0
  have H : Hid (CArg w l A ad m c) := h
  have HR : Hid (∀ b off, ad = some ⟨b, off, none⟩ → m ≠ 0 → b ∈ Gs) := hrow
  have HY : Hid (∀ k args X, k < m → J k X → BackR l A m k args X → YieldAt Fence.wide 1 Try.prog q args X fun e Y => (e = .returned (.bool true) ∧ J (k + 1) Y ∧ Kg Gs X Y) ∨ (e = .returned (.bool false) ∧ Jx (k + 1) Y)) := hY
  have HC : Hid (w.cell? ⟨gb, 0, none⟩ = some (.slice ad m c)) := hgb
  have ct0 : W.cell? ⟨gb, 0, none⟩ = some (.slice ad m c) := (hk0.cell hg (i := 0)).trans hgb
  clear hW hJ hY h hrow hlt hk0 hgb
  refine callsIn_of_wp Try.func69 rfl trivial ?_ rfl
  simp only [Try.ntmps69, List.size_toArray, List.length_cons, List.length_nil, Nat.reduceAdd, Nat.reduceSub, Array.replicate_succ, Array.replicate_zero, List.push_toArray, List.append_toArray, List.nil_append, List.cons_append]
  gi_wp2
  gi_loopw [3] (fun i wr => ∃ k : Nat, k ≤ m ∧ i = .int .i64 ((m : Int) - 1 - (k : Int)) ∧ Hid (J k wr) ∧ Hid (Kg Gs w wr)) (fun i _ => (intOf i + 1).toNat)
  case atStart => exact ⟨0, Nat.zero_le _, by go_num, h0, HK0⟩
  case round =>
    obtain ⟨k, hk, rfl, HJk, HKk⟩ := hrel
    by_cases hkl : k < m
    · have c1 : wr.cell? ⟨gb, 0, none⟩ = some (.slice ad m c) := (HKk.out.cell hg (i := 0)).trans HC.out
      have hz : decide ((0 : Int) ≤ (m : Int) - 1 - (k : Int)) = true := by simp; omega
      obtain ⟨b, off, rfl, hs, hc⟩ := H.out.cells (by omega)
      have hbg := HR.out b off rfl (by omega)
      obtain ⟨r0, r1, r2⟩ := hc (m - 1 - k) (by omega)
      replace r0 := (HKk.out.cell hbg (i := off + (m - 1 - k) * 3)).trans r0
      replace r1 := (HKk.out.cell hbg (i := off + (m - 1 - k) * 3 + 1)).trans r1
      replace r2 := (HKk.out.cell hbg (i := off + (m - 1 - k) * 3 + 2)).trans r2
      have hix : ((m : Int) - 1 - (k : Int)).toNat = m - 1 - k := by omega
      have hil : m - 1 - k < m := by omega
      have hie : (m : Int) - 1 - (k : Int) = ((m - 1 - k : Nat) : Int) := by omega
      obtain ⟨fn, tmps, assign, body, hy, hR⟩ := YieldAt.mono (R' := fun e Y => ∃ b : Bool, e = .returned (.bool b) ∧ Hid ((b = true → J (k + 1) Y ∧ Kg Gs wr Y) ∧ (b = false → Jx (k + 1) Y))) (HY.out k _ wr hkl HJk.out ⟨hkl, rfl⟩) (by
        rintro e Y (⟨rfl, h1⟩ | ⟨rfl, h1⟩)
        · exact ⟨true, rfl, fun _ => h1, fun h => (by cases h)⟩
        · exact ⟨false, rfl, fun h => (by cases h), fun _ => h1⟩)
      have HRd := hid hR
      clear hR hc hs hbg ct0 HY
      rw [hie] at hz hix ⊢
      clear hix hie
      generalize hi : m - 1 - k = i at *
      have HI := hid hi
      have hz2 : decide ((0 : Int) ≤ (i : Int)) = true := hz
      generalize (ptAt l i).first = f at *
      generalize (ptAt l i).id = d at *
      clear hi hz
      gi_wp2_with (refine HRd.out.mono ?_; rintro e W3 ⟨b, rfl, hb⟩; have HBb := hid hb; clear hb; rcases b with _ | _)
      · have HX := hid (HBb.out.out.2 (by first | rfl | trivial))
        refine bodyPost_ret (results_none rfl _ _ _) rfl ?_
        exact ⟨⟨_, rfl⟩, .inr ⟨k + 1, by omega, HX.out⟩⟩
      · have HJn := hid (HBb.out.out.1 (by first | rfl | trivial)).1
        have HKn := hid (HKk.out.trans (HBb.out.out.1 (by first | rfl | trivial)).2)
        have hI := HI.out
        exact ⟨⟨k + 1, by omega, by congr 1; omega, HJn, HKn⟩, by simp [intOf]⟩
    · obtain rfl : k = m := by omega
      have hz : decide ((0 : Int) ≤ (k : Int) - 1 - (k : Int)) = false := by simp; omega
      gi_wp2
      go_end0
      exact ⟨⟨_, rfl⟩, .inl HJk.out⟩
theorem enters_back : ∀ args w, (callFunc 69 args).run Try.prog w = .ok (.enter 69 args) w := fun _ _ => by kernel_rfl
theorem back_any (ad : Option Addr) (m c : Nat) (w : World) : Calls Try.prog 62 #[.slice ad m c] w fun e w' => e = .returned (.func (.func 69) #[] #[.pointer (some ⟨w.heap.size, 0, none⟩)]) ∧ w' = w.alloc (.cells #[.slice ad m c] 26) := by
  have hmf : ∀ (fn : Fn) (first cap : Array Value) (w : World), (Instr.makeFunc fn first cap).run Try.prog w = .ok (.func fn first cap) w := fun _ _ _ _ => rfl
  go_enter Try.func62, Try.ntmps62
  go_wp2_with fail
  go_ret
  exact ⟨rfl, rfl⟩
end Go.Proofs.Ythadagpfmacemaa

/- holder of package chain. -/
namespace Go.Proofs.Ythadagpfmacemaa
open Go.RowKit Go.Shelf
attribute [local go_sem] Oper.semAt_some
variable {w w' : World} {l : List Pt} {A : Nat → Sl} {ad : Option Addr} {m c : Nat}

/-- The last of the first n parts that begins at a, or ahead of it. -/
def holdT (l : List Pt) (a : Int) : Nat → Option Nat
  | 0 => none
  | n + 1 => if (ptAt l n).first ≤ a then some n else holdT l a n
def holdN (l : List Pt) (a : Int) : Option Nat := holdT l a l.length
theorem holdT_lt {l : List Pt} {a : Int} {n i : Nat} (h : holdT l a n = some i) : i < n ∧ (ptAt l i).first ≤ a := by
  induction n with
  | zero => cases h
  | succ n ih =>
    rw [holdT] at h
    split at h
    · cases h; exact ⟨by omega, by assumption⟩
    · exact ⟨by have := (ih h).1; omega, (ih h).2⟩
/-- What holder keeps while its loop runs. -/
structure HoI (w : World) (a : Int) (p : Int) (k : Bool) (Z : World) : Prop where
  below : Below w.heap.size w Z
  b0 : Blk Z w.heap.size #[.int .i64 a] 3
  b1 : Blk Z (w.heap.size + 1) #[.int .i64 p] 3
  b2 : Blk Z (w.heap.size + 2) #[.bool k] 4
theorem HoI.chg {a p : Int} {k : Bool} {Z Z' : World} {F : List Nat} (h : HoI w a p k Z) (hc : Chg F Z Z') (hF : ∀ g ∈ F, w.heap.size + 3 ≤ g) : HoI w a p k Z' := by
  refine ⟨?_, h.b0.chg hc (fun hm => absurd (hF _ hm) (by omega)), h.b1.chg hc (fun hm => absurd (hF _ hm) (by omega)), h.b2.chg hc (fun hm => absurd (hF _ hm) (by omega))⟩
  exact ⟨hc.os.trans h.below.os, hc.tape.trans h.below.tape, hc.output.trans h.below.output, Nat.le_trans h.below.size hc.size, fun k hk => (hc.block k (Nat.lt_of_lt_of_le hk h.below.size) (fun hm => absurd (hF _ hm) (by omega))).trans (h.below.block k hk)⟩
theorem below_set2 {w Y : World} (h : Below w.heap.size w Y) (N : Nat) {u v : Value} (hN : N = w.heap.size := by rfl) : Below w.heap.size w ((Y.setCell ⟨N + 1, 0, none⟩ u).setCell ⟨N + 1 + 1, 0, none⟩ v) := by
  subst hN
  exact (h.setCell (p := ⟨w.heap.size + 1, 0, none⟩) (Nat.le_succ _) _).setCell (p := ⟨w.heap.size + 1 + 1, 0, none⟩) (by show w.heap.size ≤ w.heap.size + 1 + 1; omega) _
set_option maxRecDepth 100000 in
set_option maxHeartbeats 400000 in
theorem holder_any (h : CArg w l A ad m c) (a : Int) : Calls Try.prog 42 #[.slice ad m c, .int .i64 a] w fun e w' => e = .returned (.tuple #[.int .i64 (((holdN l a).getD 0 : Nat) : Int), .bool (holdN l a).isSome]) ∧ Below w.heap.size w w' := by
  obtain ⟨W4, hW4⟩ : ∃ W4, (((w.alloc (.cells #[.int .i64 a] 3)).alloc (.cells #[.int .i64 0] 3)).alloc (.cells #[.bool false] 4)).alloc (.cells #[.slice ad m c] 26) = W4 := ⟨_, rfl⟩
  have hb4 : Below w.heap.size w W4 := by rw [← hW4]; exact ((((Below.refl _ w).alloc (Nat.le_refl _) _).alloc (by simp) _).alloc (by simp; omega) _).alloc (by simp; omega) _
  have hs4 : W4.heap.size = w.heap.size + 4 := by rw [← hW4]; simp
  have hB : HoI w a 0 false W4 ∧ Blk W4 (w.heap.size + 3) #[.slice ad m c] 26 := by
    have e1 : (w.alloc (.cells #[.int .i64 a] 3)).heap.size = w.heap.size + 1 := by simp
    have e2 : ((w.alloc (.cells #[.int .i64 a] 3)).alloc (.cells #[.int .i64 0] 3)).heap.size = w.heap.size + 2 := by simp
    have e3 : (((w.alloc (.cells #[.int .i64 a] 3)).alloc (.cells #[.int .i64 0] 3)).alloc (.cells #[.bool false] 4)).heap.size = w.heap.size + 3 := by simp
    have q0 : Blk (w.alloc (.cells #[.int .i64 a] 3)) w.heap.size _ _ := heap_alloc_new w _
    have q1 : Blk _ _ _ _ := heap_alloc_new (w.alloc (.cells #[.int .i64 a] 3)) (.cells #[.int .i64 0] 3)
    have q2 : Blk _ _ _ _ := heap_alloc_new ((w.alloc (.cells #[.int .i64 a] 3)).alloc (.cells #[.int .i64 0] 3)) (.cells #[.bool false] 4)
    have q3 : Blk _ _ _ _ := heap_alloc_new (((w.alloc (.cells #[.int .i64 a] 3)).alloc (.cells #[.int .i64 0] 3)).alloc (.cells #[.bool false] 4)) (.cells #[.slice ad m c] 26)
    rw [e1] at q1
    rw [e2] at q2
    rw [e3] at q3
    rw [← hW4] at hb4 ⊢
    have n1 := (Below.refl _ (w.alloc (.cells #[.int .i64 a] 3))).alloc (Nat.le_refl _) (.cells #[.int .i64 0] 3)
    have n2 := (Below.refl _ ((w.alloc (.cells #[.int .i64 a] 3)).alloc (.cells #[.int .i64 0] 3))).alloc (Nat.le_refl _) (.cells #[.bool false] 4)
    have n3 := (Below.refl _ (((w.alloc (.cells #[.int .i64 a] 3)).alloc (.cells #[.int .i64 0] 3)).alloc (.cells #[.bool false] 4))).alloc (Nat.le_refl _) (.cells #[.slice ad m c] 26)
    exact ⟨⟨hb4, ((q0.later n1).later n2).later n3, (q1.later n2).later n3, q2.later n3⟩, q3⟩
  have hl := h.len
  have h4 := h.later hb4
  have hlt4 := h.lt
  obtain ⟨Gs, g1, g2, g3⟩ : ∃ Gs : List Nat, w.heap.size + 3 ∈ Gs ∧ (∀ b off, ad = some ⟨b, off, none⟩ → m ≠ 0 → b ∈ Gs) ∧ ∀ g ∈ Gs, g < w.heap.size + 4 := by
    by_cases h0 : m = 0
    · exact ⟨[w.heap.size + 3], by simp, fun b off e hn => absurd h0 hn, fun g hg => by simp at hg; omega⟩
    · obtain ⟨b, off, rfl, hs, -⟩ := h.cells (by omega)
      exact ⟨[w.heap.size + 3, b], by simp, fun b' off' e _ => by cases e; simp, fun g hg => by simp at hg; omega⟩
  have HSq := hid (back_seq (K := fun _ _ => True) h4 (w.heap.size + 3) Gs (hB.2.cell 0) g1 g2 (fun g hg => by have := g3 g hg; omega))
  have HGs : Hid (∀ g ∈ Gs, g < w.heap.size + 4) := g3
  have HB := hid hB
  clear h h4 hb4 hB hlt4 g1 g2 g3
  refine (callsIn_wide (n := 3)).1 ?_
  refine callsIn_of_wp_marks Try.func42 rfl trivial ?_ rfl
  simp only [Try.ntmps42, List.size_toArray, List.length_cons, List.length_nil, Nat.reduceAdd, Nat.reduceSub, Array.replicate_succ, Array.replicate_zero, List.push_toArray, List.append_toArray, List.nil_append, List.cons_append]
  gi_wp2_with (refine ⟨trivial, ?_⟩; gi_at_call 62; refine (callsIn_wide.2 (back_any ad m c _)).mono ?_; rintro e w2 ⟨rfl, hw2⟩; obtain rfl := hw2.symm)
  clear hW4
  refine range_A (w.heap.size + 4) hs4 (gf := 69) rfl enters_back HSq.out (fun h k => h.trans k) ?kb (fun k Z => HoI w a 0 false Z ∧ holdT l a m = holdT l a (m - k)) (fun _ Z => ∃ i : Nat, holdT l a m = some i ∧ HoI w a (i : Int) true Z) ?hI ?hIx (fun _ _ _ => trivial) ?h0 ?hps
    (fun args X => { tmps := #[.slice ad m c, .int .i64 a, undef, .pointer (some ⟨w.heap.size, 0, none⟩), .pointer (some ⟨w.heap.size + 1, 0, none⟩), .pointer (some ⟨w.heap.size + 1 + 1, 0, none⟩), args.getD 0 undef, .pointer (some ⟨X.heap.size, 0, none⟩), .slice ad m c, .func (.func 69) #[] #[.pointer (some ⟨w.heap.size + 1 + 1 + 1, 0, none⟩)], args.getD 0 undef, args.getD 1 undef, undef, undef, undef, undef, undef], defers := [] })
    (fun args X => X.alloc (.cells (match args.getD 1 undef with | .agg cs => cs | _ => #[]) 61)) ?hx1 ?hKa ?assign ?body ?done ?stop
  case kb => exact fun Z o hZ => ⟨by simp, fun g hg => World.putObj_heap_other (by have := HGs.out g hg; omega)⟩
  case hI => exact fun k Z Z' h1 hc => ⟨h1.1.chg hc (fun g hg => by simp at hg; omega), h1.2⟩
  case hIx => exact fun k Z Z' h1 hc => by obtain ⟨i, h2, h3⟩ := h1; exact ⟨i, h2, h3.chg hc (fun g hg => by simp at hg; omega)⟩
  case h0 => exact ⟨HB.out.1, rfl⟩
  case hps =>
    rintro k args X ⟨_, rfl⟩
    rfl
  case hx1 => exact fun k args X _ => (Below.refl _ _).alloc (Nat.le_refl _) _
  case hKa => exact fun k args X _ hX => Kg.below ((Below.refl _ _).alloc (Nat.le_refl _) _) (fun g hg => by have := HGs.out g hg; omega)
  case assign =>
    rintro q k args X L ⟨hk, rfl⟩ hL
    clear HSq HB HGs
    gi_wp2
    exact hL
  case body =>
    rintro q k args X Y hk hX ⟨hI, hT⟩ ⟨hkm, rfl⟩ hc hsz
    have hbx : Blk (X.alloc (.cells #[.int .i64 (ptAt l (m - 1 - k)).first, .int .i64 (ptAt l (m - 1 - k)).id, .slice (A (m - 1 - k)).ad (A (m - 1 - k)).m (A (m - 1 - k)).c] 61)) X.heap.size _ _ := heap_alloc_new X _
    have hby := hbx.chg hc (by simp; omega)
    have HY := hid ((hI.chg (F := []) (Chg.of ((Below.refl _ X).alloc (Nat.le_refl _) _)) (fun g hg => by cases hg)).chg hc (fun g hg => by simp at hg; omega))
    have c0 : Y.cell? ⟨X.heap.size, 0, none⟩ = some (.int .i64 (ptAt l (m - 1 - k)).first) := hby.cell 0
    have c1 : Y.cell? ⟨w.heap.size, 0, none⟩ = some (.int .i64 a) := HY.out.b0.cell 0
    have c2 : Y.cell? ⟨w.heap.size + 1, 0, none⟩ = some (.int .i64 0) := HY.out.b1.cell 0
    have c3 : Y.cell? ⟨w.heap.size + 1 + 1, 0, none⟩ = some (.bool false) := HY.out.b2.cell 0
    have f2 : Y.frozen? ⟨w.heap.size + 1, 0, none⟩ = false := HY.out.b1.free 0
    have f3 : Y.frozen? ⟨w.heap.size + 1 + 1, 0, none⟩ = false := HY.out.b2.free 0
    have hst : m - k = (m - 1 - k) + 1 := by omega
    have hst2 : m - (k + 1) = m - 1 - k := by omega
    have HT1 := hid (fun (hh : (ptAt l (m - 1 - k)).first ≤ a) => show holdT l a m = some (m - 1 - k) from by rw [hT, hst, holdT, if_pos hh])
    have HT2 := hid (fun (hh : ¬ (ptAt l (m - 1 - k)).first ≤ a) => show holdT l a m = holdT l a (m - (k + 1)) from by rw [hT, hst, holdT, if_neg hh, hst2])
    clear hI hT hc hsz hbx hby HSq HB HGs hst hst2
    generalize (ptAt l (m - 1 - k)).first = f at *
    by_cases hf : f ≤ a
    · have HT3 := hid (HT1.out hf)
      have hd : decide (f ≤ a) = true := by simpa using hf
      clear HT1 HT2 hf
      gi_wp2
      have hy := HY.out
      refine ⟨⟨?_, ?_⟩, m - 1 - k, HT3.out, below_set2 hy.below w.heap.size, ?_, ?_, ?_⟩
      · exact (Below.heap_setCell _ _ _ _ (by show w.heap.size + 4 ≠ w.heap.size + 1 + 1; omega)).trans (Below.heap_setCell _ _ _ _ (by show w.heap.size + 4 ≠ w.heap.size + 1; omega))
      · exact (Below.heap_setCell _ _ _ _ (by show w.heap.size + 4 + 1 ≠ w.heap.size + 1 + 1; omega)).trans (Below.heap_setCell _ _ _ _ (by show w.heap.size + 4 + 1 ≠ w.heap.size + 1; omega))
      · exact (hy.b0.other (by omega) 0 _).other (by omega) 0 _
      · exact (hy.b1.set 0 _).other (by omega) 0 _
      · exact (hy.b2.other (by omega) 0 _).set 0 _
    · have HT3 := hid (HT2.out hf)
      have hd : decide (f ≤ a) = false := by simpa using hf
      clear HT1 HT2 hf
      gi_wp2
      exact ⟨⟨rfl, rfl⟩, Kg.refl _ _, HY.out, HT3.out⟩
  case done =>
    rintro X hX ⟨hI, hT⟩ hD
    have hT0 : holdN l a = none := by unfold holdN; rw [hl, hT, Nat.sub_self]; rfl
    have HT0 := hid hT0
    have HI := hid hI
    have c2 : X.cell? ⟨w.heap.size + 1, 0, none⟩ = some (.int .i64 0) := hI.b1.cell 0
    have c3 : X.cell? ⟨w.heap.size + 1 + 1, 0, none⟩ = some (.bool false) := hI.b2.cell 0
    have f2 : X.frozen? ⟨w.heap.size + 1, 0, none⟩ = false := hI.b1.free 0
    have f3 : X.frozen? ⟨w.heap.size + 1 + 1, 0, none⟩ = false := hI.b2.free 0
    have HD := hid hD
    clear hI hT hD HSq HB hT0
    gi_wp2
    have hc : Chg [w.heap.size + 1, w.heap.size + 2] X ((X.setCell ⟨w.heap.size + 1, 0, none⟩ (.int .i64 0)).setCell ⟨w.heap.size + 1 + 1, 0, none⟩ (.bool false)) := ((Chg.refl _ X).set (Or.inl (by simp)) _ _).set (Or.inl (by simp)) _ _
    have m1 := (HI.out.b1.set 0 (.int .i64 0)).other (C := w.heap.size + 1 + 1) (by omega) 0 (.bool false)
    have m2 := (HI.out.b2.other (C := w.heap.size + 1) (by omega) 0 (.int .i64 0)).set 0 (.bool false)
    have hDf := (hc.block _ (Array.getElem?_eq_some_iff.1 HD.out).1 (by simp)).trans HD.out
    have hbl : Below w.heap.size w ((X.setCell ⟨w.heap.size + 1, 0, none⟩ (.int .i64 0)).setCell ⟨w.heap.size + 1 + 1, 0, none⟩ (.bool false)) := below_set2 HI.out.below w.heap.size
    generalize (X.setCell ⟨w.heap.size + 1, 0, none⟩ (.int .i64 0)).setCell ⟨w.heap.size + 1 + 1, 0, none⟩ (.bool false) = Z at *
    have hpc : Chg [w.heap.size + 4, w.heap.size + 4 + 1] Z (Z.putObj (w.heap.size + 4) (.deferred none)) := putObj_chg Z _ _ _ (Or.inl rfl)
    have r1 : (Z.putObj (w.heap.size + 4) (.deferred none)).cell? ⟨w.heap.size + 1, 0, none⟩ = some (.int .i64 0) := (m1.chg hpc (by simp)).cell 0
    have r2 : (Z.putObj (w.heap.size + 4) (.deferred none)).cell? ⟨w.heap.size + 1 + 1, 0, none⟩ = some (.bool false) := (m2.chg hpc (by simp)).cell 0
    refine ⟨by simp, .inl ⟨_, _, rfl, run_takeDeferred hDf, ?_⟩⟩
    refine ⟨.tuple #[.int .i64 0, .bool false], by simp [results, Try.results42, go_sem, r1, r2], by rw [HT0.out]; rfl, ?_⟩
    exact hbl.trans (hpc.below (by intro g hg; simp at hg; omega) hbl.size)
  case stop =>
    rintro k X hk ⟨i, hi, hI⟩ hD
    have hT0 : holdN l a = some i := by unfold holdN; rw [hl, hi]
    have HT0 := hid hT0
    have hpc : Chg [w.heap.size + 4, w.heap.size + 4 + 1] X (X.putObj (w.heap.size + 4) (.deferred none)) := putObj_chg X _ _ _ (Or.inl rfl)
    have hq := hI.chg hpc (fun g hg => by simp at hg; omega)
    have r1 : (X.putObj (w.heap.size + 4) (.deferred none)).cell? ⟨w.heap.size + 1, 0, none⟩ = some (.int .i64 (i : Int)) := hq.b1.cell 0
    have r2 : (X.putObj (w.heap.size + 4) (.deferred none)).cell? ⟨w.heap.size + 1 + 1, 0, none⟩ = some (.bool true) := hq.b2.cell 0
    have HQ := hid hq
    have HD := hid hD
    clear hi hI hD HSq HB hT0 hpc hq
    gi_wp2
    refine ⟨by simp, .inl ⟨_, _, rfl, run_takeDeferred HD.out, ?_⟩⟩
    exact ⟨.tuple #[.int .i64 (i : Int), .bool true], by simp [results, Try.results42, go_sem, r1, r2], by rw [HT0.out]; rfl, HQ.out.below⟩
end Go.Proofs.Ythadagpfmacemaa

/- Find of package chain. -/
namespace Go.Proofs.Ythadagpfmacemaa
open Go.RowKit
variable {w w' : World} {l : List Pt} {A : Nat → Sl} {ad : Option Addr} {m c : Nat}

/-- Find's answer: part and place, if there is one. -/
def findN (t : Int) (l : List Pt) (a : Int) : Option (Nat × Int) :=
  if a < 0 ∨ a < t then none else match holdN l a with
    | none => none
    | some i => if (ptAt l i).first ≤ a - 4096 then none else some (i, a - (ptAt l i).first)
/-- As the call answers it. -/
def findV (x : Option (Nat × Int)) : Value := match x with
  | none => .tuple #[.int .i64 0, .int .i64 0, .bool false]
  | some (i, q) => .tuple #[.int .i64 (i : Int), .int .i64 q, .bool true]
set_option maxRecDepth 100000 in
set_option maxHeartbeats 1000000 in
theorem find_any (h : CArg w l A ad m c) (o t a : Int) (ha : -9223372036854775808 ≤ a ∧ a ≤ 9223372036854775807) : Calls Try.prog 19 #[.agg #[.int .i64 o, .int .i64 t, .slice ad m c], .int .i64 a] w fun e w' => e = .returned (findV (findN t l a)) ∧ Below w.heap.size w w' := by
  have hl := h.len
  have hm : m ≤ 9223372036854775807 := by have := h.cap; have := h.room; unfold maxLen at this; omega
  have HB : Hid (Below w.heap.size w (w.alloc (.cells #[.int .i64 o, .int .i64 t, .slice ad m c] 28))) := hid ((Below.refl _ _).alloc (Nat.le_refl _) _)
  by_cases a1 : a < 0
  · have e : findN t l a = none := by unfold findN; rw [if_pos (Or.inl a1)]
    rw [e]
    unfold findV
    clear h
    go_enter Try.func19, Try.ntmps19
    go_wp2_with fail
    refine bodyPost_ret (v := .tuple #[.int .i64 0, .int .i64 0, .bool false]) (by simp [results, Try.results19, go_sem]) rfl ⟨rfl, ?_⟩
    exact HB.out
  have d1 : decide (a < 0) = false := by simpa using a1
  by_cases a2 : a < t
  · have e : findN t l a = none := by unfold findN; rw [if_pos (Or.inr a2)]
    rw [e]
    unfold findV
    have d2 : decide (a < t) = true := by simpa using a2
    clear h
    go_enter Try.func19, Try.ntmps19
    go_wp2_with fail
    refine bodyPost_ret (v := .tuple #[.int .i64 0, .int .i64 0, .bool false]) (by simp [results, Try.results19, go_sem]) rfl ⟨rfl, ?_⟩
    exact HB.out
  have d2 : decide (a < t) = false := by simpa using a2
  have h2 := h.later HB.out
  have HC := holder_any h2 a
  have HE : Hid (findN t l a = match holdN l a with | none => none | some i => if (ptAt l i).first ≤ a - 4096 then none else some (i, a - (ptAt l i).first)) := hid (by unfold findN; rw [if_neg (by omega)])
  cases hh : holdN l a with
  | none =>
    rw [hh] at HC HE
    simp only [Option.getD_none, Option.isSome_none] at HC
    have HE2 : Hid (findN t l a = none) := HE
    rw [HE2.out]
    unfold findV
    clear h h2 HE HE2 hh
    go_enter Try.func19, Try.ntmps19
    go_wp2_with (go_at_call 42; refine HC.mono ?_; rintro e w1 ⟨rfl, hb1⟩; have HB1 := hid hb1; clear hb1)
    refine bodyPost_ret (v := .tuple #[.int .i64 0, .int .i64 0, .bool false]) (by simp [results, Try.results19, go_sem]) rfl ⟨rfl, ?_⟩
    exact HB.out.trans (HB1.out.mono HB.out.size)
  | some i =>
    rw [hh] at HC HE
    simp only [Option.getD_some, Option.isSome_some] at HC
    replace HE : Hid (findN t l a = if (ptAt l i).first ≤ a - 4096 then none else some (i, a - (ptAt l i).first)) := HE
    have him := (holdT_lt hh).1
    have hfa := (holdT_lt hh).2
    have hfr := (h.rng i (by omega)).1
    have HW : Hid (∀ W, Below (w.alloc (.cells #[.int .i64 o, .int .i64 t, .slice ad m c] 28)).heap.size (w.alloc (.cells #[.int .i64 o, .int .i64 t, .slice ad m c] 28)) W → CArg W l A ad m c ∧ Blk W w.heap.size #[.int .i64 o, .int .i64 t, .slice ad m c] 28) := hid (fun W hW => ⟨h2.later hW, (show Blk _ w.heap.size _ _ from heap_alloc_new w _).later hW⟩)
    have hilt : i < m := by omega
    obtain ⟨b, off, rfl, hs, hc⟩ := h2.cells (by omega)
    have HWc : Hid (∀ W, Below (w.alloc (.cells #[.int .i64 o, .int .i64 t, .slice (some ⟨b, off, none⟩) m c] 28)).heap.size (w.alloc (.cells #[.int .i64 o, .int .i64 t, .slice (some ⟨b, off, none⟩) m c] 28)) W → W.cell? ⟨b, off + i * 3, none⟩ = some (.int .i64 (ptAt l i).first) ∧ W.cell? ⟨w.heap.size, 2, none⟩ = some (.slice (some ⟨b, off, none⟩) m c)) := hid (fun W hW => by
      obtain ⟨h3, h4⟩ := HW.out W hW
      obtain ⟨b', off', e, -, hc'⟩ := h3.cells (by omega)
      cases e
      exact ⟨(hc' i hilt).1, h4.cell 2⟩)
    have hwr : IntKind.i64.wrap (a - (ptAt l i).first) = a - (ptAt l i).first ∨ (ptAt l i).first ≤ a - 4096 := by rw [IntKind.wrap_i64]; omega
    clear h h2 hc hs HW hh hl
    generalize (ptAt l i).first = f at *
    by_cases a3 : f ≤ a - 4096
    · have d3 : decide (f ≤ a - 4096) = true := by simpa using a3
      have HE2 : Hid (findN t l a = none) := hid (HE.out.trans (if_pos a3))
      rw [HE2.out]
      unfold findV
      clear HE HE2 a3 hwr
      go_enter Try.func19, Try.ntmps19
      go_wp2_with (go_at_call 42; refine HC.mono ?_; rintro e w1 ⟨rfl, hb1⟩; have HB1 := hid hb1; obtain ⟨k1, k2⟩ := HWc.out w1 hb1; clear hb1)
      refine bodyPost_ret (v := .tuple #[.int .i64 0, .int .i64 0, .bool false]) (by simp [results, Try.results19, go_sem]) rfl ⟨rfl, ?_⟩
      exact HB.out.trans (HB1.out.mono HB.out.size)
    · have d3 : decide (f ≤ a - 4096) = false := by simpa using a3
      have HE2 : Hid (findN t l a = some (i, a - f)) := hid (HE.out.trans (if_neg a3))
      rw [HE2.out]
      unfold findV
      replace hwr := hwr.resolve_right a3
      clear HE HE2
      go_enter Try.func19, Try.ntmps19
      go_wp2_with (go_at_call 42; refine HC.mono ?_; rintro e w1 ⟨rfl, hb1⟩; have HB1 := hid hb1; obtain ⟨k1, k2⟩ := HWc.out w1 hb1; clear hb1)
      go_quiet (fail)
      go_wp2_with fail
      refine bodyPost_ret (v := .tuple #[.int .i64 (i : Int), .int .i64 (a - f), .bool true]) (by simp [results, Try.results19, go_sem]) rfl ⟨rfl, ?_⟩
      exact below_drewN' (HB.out.trans (HB1.out.mono HB.out.size)) _
end Go.Proofs.Ythadagpfmacemaa

/- What where of the law's package answers, as plain data. -/
namespace Go.Proofs.Ythadagpfmacemaa
open Go.RowKit
variable {w : World} {l : List Pt} {A : Nat → Sl} {ad : Option Addr} {m c : Nat}

/-- where's answer. -/
def whereN (t : Int) (l : List Pt) (a : Int) : Option (Int × Int) := match findN t l a with
  | none => none
  | some (i, q) => some ((ptAt l i).id, q)
def whereV (x : Option (Int × Int)) : Value := match x with
  | none => .tuple #[.int .i64 0, .int .i64 0, .bool false]
  | some (i, q) => .tuple #[.int .i64 i, .int .i64 q, .bool true]
theorem findN_lt {t : Int} {l : List Pt} {a : Int} {i : Nat} {q : Int} (h : findN t l a = some (i, q)) : i < l.length := by
  unfold findN at h
  split at h
  · cases h
  · split at h
    · cases h
    · rename_i k hk
      split at h
      · cases h
      · cases h
        exact (holdT_lt hk).1
end Go.Proofs.Ythadagpfmacemaa

/- Same and ints of the law's package, of what is the same. -/
namespace Go.Proofs.Ythadagpfmacemaa
open Go.RowKit
variable {w : World} {l : List Pt} {A A2 : Nat → Sl} {ad ad2 : Option Addr} {m c c2 : Nat}

set_option maxRecDepth 100000 in
set_option maxHeartbeats 1000000 in
theorem ints_same {l : List Int} (h : Ints w l ad m c) (h2 : Ints w l ad2 m c2) : Calls Try.prog 41 #[.slice ad m c, .slice ad2 m c2] w fun e w' => e = .returned (.bool true) ∧ ∃ n, w' = w.drewN n := by
  have hm : m ≤ 9223372036854775807 := by have := h.cap; have := h.room; unfold maxLen at this; omega
  have H := hid h
  have H2 := hid h2
  clear h h2
  go_enter Try.func41, Try.ntmps41
  go_wp2_with fail
  go_loopw [5] (fun i wr => ∃ j : Nat, j ≤ m ∧ i = .int .i64 j ∧ ∃ n, wr = w.drewN n) (fun i _ => m - (intOf i).toNat)
  case atStart => exact ⟨0, by omega, rfl, 0, rfl⟩
  case round =>
    obtain ⟨j, hj, rfl, n, rfl⟩ := hrel
    by_cases hlt : j < m
    · have hlti : decide (j < m) = true := by simpa using hlt
      have h1 := H.out.later (below_drewN' (Below.refl _ w) n)
      have h2 := H2.out.later (below_drewN' (Below.refl _ w) n)
      obtain ⟨b, off, rfl, hs, hc⟩ := h1.row.resolve_left (by omega)
      obtain ⟨b2, off2, rfl, hs2, hc2⟩ := h2.row.resolve_left (by omega)
      have r0 := hc j hlt
      have r1 := hc2 j hlt
      clear hc hc2 hs hs2 h1 h2
      generalize l.getD j 0 = x at *
      generalize hW : w.drewN n = W at *
      have HW := hid hW
      clear hW
      go_wp2_with fail
      go_quiet (fail)
      go_wp2_with fail
      exact ⟨⟨j + 1, by omega, by go_num, n + nq, by rw [← HW.out, World.drewN_drewN]⟩, by simp [intOf]; omega⟩
    · obtain rfl : j = m := by omega
      have hlti : decide (j < j) = false := by simp
      go_wp2_with fail
      go_ret
      exact ⟨rfl, n, rfl⟩

set_option maxRecDepth 100000 in
set_option maxHeartbeats 1000000 in
theorem same_any (h : CArg w l A ad m c) (h2 : CArg w l A2 ad2 m c2) (o t : Int) : Calls Try.prog 16 #[.agg #[.int .i64 o, .int .i64 t, .slice ad m c], .agg #[.int .i64 o, .int .i64 t, .slice ad2 m c2]] w fun e w' => e = .returned (.bool true) ∧ Below w.heap.size w w' := by
  have hm : m ≤ 9223372036854775807 := by have := h.cap; have := h.room; unfold maxLen at this; omega
  have HB : Hid (Below w.heap.size w ((w.alloc (.cells #[.int .i64 o, .int .i64 t, .slice ad m c] 28)).alloc (.cells #[.int .i64 o, .int .i64 t, .slice ad2 m c2] 28))) := hid (((Below.refl _ _).alloc (Nat.le_refl _) _).alloc (by simp) _)
  have HF : Hid (∀ n, (∃ X, X = (((w.alloc (.cells #[.int .i64 o, .int .i64 t, .slice ad m c] 28)).alloc (.cells #[.int .i64 o, .int .i64 t, .slice ad2 m c2] 28)).drewN n) ∧ Below w.heap.size w X ∧ CArg X l A ad m c ∧ CArg X l A2 ad2 m c2 ∧ X.cell? ⟨w.heap.size, 2, none⟩ = some (.slice ad m c) ∧ X.cell? ⟨w.heap.size + 1, 2, none⟩ = some (.slice ad2 m c2))) := hid (fun n => by
    have hb : Below w.heap.size w (((w.alloc (.cells #[.int .i64 o, .int .i64 t, .slice ad m c] 28)).alloc (.cells #[.int .i64 o, .int .i64 t, .slice ad2 m c2] 28)).drewN n) := below_drewN' HB.out n
    refine ⟨_, rfl, hb, h.later hb, h2.later hb, ?_, ?_⟩
    · have hk : Blk (w.alloc (.cells #[.int .i64 o, .int .i64 t, .slice ad m c] 28)) w.heap.size #[.int .i64 o, .int .i64 t, .slice ad m c] 28 := heap_alloc_new w _
      exact (hk.later (below_drewN' ((Below.refl _ _).alloc (Nat.le_refl _) _) n)).cell 2
    · have hk : Blk ((w.alloc (.cells #[.int .i64 o, .int .i64 t, .slice ad m c] 28)).alloc (.cells #[.int .i64 o, .int .i64 t, .slice ad2 m c2] 28)) (w.heap.size + 1) #[.int .i64 o, .int .i64 t, .slice ad2 m c2] 28 := by
        have := heap_alloc_new (w.alloc (.cells #[.int .i64 o, .int .i64 t, .slice ad m c] 28)) (.cells #[.int .i64 o, .int .i64 t, .slice ad2 m c2] 28)
        rw [show (w.alloc (.cells #[.int .i64 o, .int .i64 t, .slice ad m c] 28)).heap.size = w.heap.size + 1 from by simp] at this
        exact this
      exact (hk.later (below_drewN' (Below.refl _ _) n)).cell 2)
  clear h h2 HB
  go_enter Try.func16, Try.ntmps16
  go_wp2_with fail
  go_loopw [5] (fun i wr => ∃ j : Nat, j ≤ m ∧ i = .int .i64 j ∧ ∃ n, wr = ((w.alloc (.cells #[.int .i64 o, .int .i64 t, .slice ad m c] 28)).alloc (.cells #[.int .i64 o, .int .i64 t, .slice ad2 m c2] 28)).drewN n) (fun i _ => m - (intOf i).toNat)
  case atStart => exact ⟨0, by omega, rfl, 0, rfl⟩
  case round =>
    obtain ⟨j, hj, rfl, n, rfl⟩ := hrel
    obtain ⟨W, hW, hb, hA, hA2, k1, k2⟩ := HF.out n
    rw [← hW]
    by_cases hlt : j < m
    · have hlti : decide (j < m) = true := by simpa using hlt
      obtain ⟨b, off, rfl, -, hc⟩ := hA.cells (by omega)
      obtain ⟨b2, off2, rfl, -, hc2⟩ := hA2.cells (by omega)
      obtain ⟨r0, r1, r2⟩ := hc j hlt
      obtain ⟨p0, p1, p2⟩ := hc2 j hlt
      have em : (A2 j).m = (A j).m := by
        have e1 := (hA.ints j hlt).1.len
        have e2 := (hA2.ints j hlt).1.len
        omega
      have HI : Hid (∀ n, Calls Try.prog 41 #[.slice (A j).ad (A j).m (A j).c, .slice (A2 j).ad (A j).m (A2 j).c] (W.drewN n) fun e w' => e = .returned (.bool true) ∧ ∃ k, w' = W.drewN k) := hid (fun n => by
        have a1 := (hA.ints j hlt).1.later (below_drewN' (Below.refl _ W) n)
        have a2 := (hA2.ints j hlt).1.later (below_drewN' (Below.refl _ W) n)
        rw [em] at a2
        exact (ints_same a1 a2).mono (fun _ _ hh => ⟨hh.1, by obtain ⟨k, hk⟩ := hh.2; exact ⟨n + k, by rw [hk, World.drewN_drewN]⟩⟩))
      rw [em] at p2
      have HW := hid hW
      clear hW hA hA2 hc hc2 HF hb em
      generalize (ptAt l j).first = x1 at *
      generalize (ptAt l j).id = x2 at *
      generalize A j = A1 at *
      generalize A2 j = A3 at *
      go_wp2_with fail
      go_quiet (first | (go_at_call 41; exact HI.out _) | (go_at_call 41; exact HI.out 0))
      go_wp2_with fail
      exact ⟨⟨j + 1, by omega, by go_num, n + nq, by rw [HW.out, World.drewN_drewN]⟩, by simp [intOf]; omega⟩
    · obtain rfl : j = m := by omega
      have hlti : decide (j < j) = false := by simp
      have HW := hid hb
      clear hA hA2 HF hb hW
      go_wp2_with fail
      go_ret
      exact ⟨rfl, HW.out⟩
end Go.Proofs.Ythadagpfmacemaa
