/- leadTo of package producer: whether batches follow one another up to a number. -/
import Derived.Test.YtobaeiicacpbnaaPColl
import Derived.Test.YtobaeiicacpbnaaPDec
namespace Go.Proofs.Ytobaeiicacpbnaa
open Go.RowKit Go.Shelf
attribute [local go_sem] Oper.semAt_some
variable {w w' : World} {a : Option Addr} {m c : Nat} {l : List Dn}

/-- In W the batches l lie in a slice of m. -/
def DRow (W : World) (a : Option Addr) (m : Nat) (l : List Dn) : Prop := l.length = m ∧ (m = 0 ∨ ∃ g, a = some ⟨g, 0, none⟩ ∧ g < W.heap.size ∧ ∀ i, i < m → W.cell? ⟨g, i * 3, none⟩ = some (.int .i64 (l.getD i dn0).seq) ∧ W.cell? ⟨g, i * 3 + 1, none⟩ = some (.int .i64 (l.getD i dn0).len) ∧ W.cell? ⟨g, i * 3 + 2, none⟩ = some (.int .i64 (l.getD i dn0).off))
theorem dnsV_at : ∀ (l : List Dn) (k : Nat) (d : Dn), l[k]? = some d → ∀ i, i < 3 → (dnsV l)[k * 3 + i]? = (dnL d)[i]?
  | [], k, d, h, i, hi => by simp at h
  | y :: l, 0, d, h, i, hi => by
    simp at h; subst h
    rw [dnsV, List.flatMap_cons, List.getElem?_append_left (by show 0 * 3 + i < 3; omega)]
    simp
  | y :: l, k + 1, d, h, i, hi => by
    have ih := dnsV_at l k d (by simpa using h) i hi
    rw [dnsV, List.flatMap_cons, List.getElem?_append_right (by show 3 ≤ (k + 1) * 3 + i; omega)]
    rw [← ih]
    unfold dnsV
    congr 1
    show (k + 1) * 3 + i - 3 = _
    omega
theorem OwnD.drow {base : Nat} (h : OwnD w base (.slice a m c) l) (hl : l.length = m) : DRow w a m l := by
  refine ⟨hl, ?_⟩
  rcases h.2 with ⟨e, h0⟩ | ⟨g, cap, cur, e, hgb, hgc, -⟩
  · exact Or.inl (by omega)
  · cases e
    refine Or.inr ⟨g, rfl, (Array.getElem?_eq_some_iff.1 hgc).1, fun i hi => ?_⟩
    have hd : l[i]? = some (l.getD i dn0) := by rw [List.getD_eq_getElem?_getD, List.getElem?_eq_getElem (by omega)]; rfl
    have key : ∀ j, j < 3 → w.cell? ⟨g, i * 3 + j, none⟩ = (dnL (l.getD i dn0))[j]? := fun j hj => by
      have hn := dnsV_at l i _ hd j hj
      obtain ⟨u, hu⟩ : ∃ u, (dnL (l.getD i dn0))[j]? = some u := ⟨_, List.getElem?_eq_getElem (by show j < 3; exact hj)⟩
      rw [hu] at hn
      have hc := World.ownsRow.cells h (g := g) rfl (i * 3 + j) u hn
      rw [addr_add, Nat.zero_add] at hc
      rw [hc, hu]
    exact ⟨key 0 (by omega), key 1 (by omega), key 2 (by omega)⟩
theorem DRow.later (h : DRow w a m l) (hb : Below w.heap.size w w') : DRow w' a m l := by
  refine ⟨h.1, ?_⟩
  rcases h.2 with h0 | ⟨g, e, hg, hc⟩
  · exact Or.inl h0
  · refine Or.inr ⟨g, e, Nat.lt_of_lt_of_le hg hb.size, fun i hi => ?_⟩
    rw [hb.cell (p := ⟨g, i * 3, none⟩) hg, hb.cell (p := ⟨g, i * 3 + 1, none⟩) hg, hb.cell (p := ⟨g, i * 3 + 2, none⟩) hg]
    exact hc i hi
/-- Round k is handed batch m - 1 - k. -/
def BackR (l : List Dn) (m : Nat) (k : Nat) (args : Array Value) (_ : World) : Prop := k < m ∧ args = #[.int .i64 ((m - 1 - k : Nat) : Int), .agg #[.int .i64 (l.getD (m - 1 - k) dn0).seq, .int .i64 (l.getD (m - 1 - k) dn0).len, .int .i64 (l.getD (m - 1 - k) dn0).off]]
set_option maxRecDepth 100000 in
set_option maxHeartbeats 400000 in
theorem back_seq (h : DRow w a m l) (hmx : m ≤ 9223372036854775807) (gb : Nat) (Gs : List Nat) (K : Nat → World → Prop) (hgb : w.cell? ⟨gb, 0, none⟩ = some (.slice a m c)) (hg : gb ∈ Gs) (hrow : ∀ b, a = some ⟨b, 0, none⟩ → m ≠ 0 → b ∈ Gs) (hlt : ∀ g ∈ Gs, g < w.heap.size) :
    SeqR Try.prog 69 #[.pointer (some ⟨gb, 0, none⟩)] (Kg Gs) K (BackR l m) m w := by
  intro q J Jx W hW hJ _ _ hY h0
  have hk0 : Kg Gs w W := Kg.below hW hlt
  have HK0 : Hid (Kg Gs w W) := hk0
  have H : Hid (DRow w a m l) := h
  have HR : Hid (∀ b, a = some ⟨b, 0, none⟩ → m ≠ 0 → b ∈ Gs) := hrow
  have HY : Hid (∀ k args X, k < m → J k X → BackR l m k args X → YieldAt Fence.wide 1 Try.prog q args X fun e Y => (e = .returned (.bool true) ∧ J (k + 1) Y ∧ Kg Gs X Y) ∨ (e = .returned (.bool false) ∧ Jx (k + 1) Y)) := hY
  have HC : Hid (w.cell? ⟨gb, 0, none⟩ = some (.slice a m c)) := hgb
  have ct0 : W.cell? ⟨gb, 0, none⟩ = some (.slice a m c) := (hk0.cell hg (i := 0)).trans hgb
  clear hW hJ hY h hrow hlt hk0 hgb
  refine callsIn_of_wp Try.func69 rfl trivial ?_ rfl
  simp only [Try.ntmps69, List.size_toArray, List.length_cons, List.length_nil, Nat.reduceAdd, Nat.reduceSub, Array.replicate_succ, Array.replicate_zero, List.push_toArray, List.append_toArray, List.nil_append, List.cons_append]
  gi_wp2
  gi_loopw [3] (fun i wr => ∃ k : Nat, k ≤ m ∧ i = .int .i64 ((m : Int) - 1 - (k : Int)) ∧ Hid (J k wr) ∧ Hid (Kg Gs w wr)) (fun i _ => (intOf i + 1).toNat)
  case atStart => exact ⟨0, Nat.zero_le _, by go_num, h0, HK0⟩
  case round =>
    obtain ⟨k, hk, rfl, HJk, HKk⟩ := hrel
    by_cases hkl : k < m
    · have c1 : wr.cell? ⟨gb, 0, none⟩ = some (.slice a m c) := (HKk.out.cell hg (i := 0)).trans HC.out
      have hz : decide ((0 : Int) ≤ (m : Int) - 1 - (k : Int)) = true := by simp; omega
      obtain ⟨b, rfl, hs, hc⟩ := H.out.2.resolve_left (by omega)
      have hbg := HR.out b rfl (by omega)
      obtain ⟨r0, r1, r2⟩ := hc (m - 1 - k) (by omega)
      replace r0 := (HKk.out.cell hbg (i := (m - 1 - k) * 3)).trans r0
      replace r1 := (HKk.out.cell hbg (i := (m - 1 - k) * 3 + 1)).trans r1
      replace r2 := (HKk.out.cell hbg (i := (m - 1 - k) * 3 + 2)).trans r2
      have hix : ((m : Int) - 1 - (k : Int)).toNat = m - 1 - k := by omega
      have hil : m - 1 - k < m := by omega
      have hie : (m : Int) - 1 - (k : Int) = ((m - 1 - k : Nat) : Int) := by omega
      obtain ⟨fn, tmps, assign, body, hy, hR⟩ := YieldAt.mono (R' := fun e Y => ∃ b : Bool, e = .returned (.bool b) ∧ Hid ((b = true → J (k + 1) Y ∧ Kg Gs wr Y) ∧ (b = false → Jx (k + 1) Y))) (HY.out k _ wr hkl HJk.out ⟨hkl, rfl⟩) (by
        rintro e Y (⟨rfl, h1⟩ | ⟨rfl, h1⟩)
        · exact ⟨true, rfl, fun _ => h1, fun h => (by cases h)⟩
        · exact ⟨false, rfl, fun h => (by cases h), fun _ => h1⟩)
      have HRd := hid hR
      clear hR hc hs hbg ct0 HY
      rw [hie] at hz hix ⊢
      clear hix hie
      generalize hi : m - 1 - k = i at *
      have HI := hid hi
      have hz2 : decide ((0 : Int) ≤ (i : Int)) = true := hz
      generalize (l.getD i dn0).seq = e0 at *
      generalize (l.getD i dn0).len = e1 at *
      generalize (l.getD i dn0).off = e2 at *
      clear hi hz
      gi_wp2_with (refine HRd.out.mono ?_; rintro e W3 ⟨b, rfl, hb⟩; have HBb := hid hb; clear hb; rcases b with _ | _)
      · have HX := hid (HBb.out.out.2 (by first | rfl | trivial))
        refine bodyPost_ret (results_none rfl _ _ _) rfl ?_
        exact ⟨⟨_, rfl⟩, .inr ⟨k + 1, by omega, HX.out⟩⟩
      · have HJn := hid (HBb.out.out.1 (by first | rfl | trivial)).1
        have HKn := hid (HKk.out.trans (HBb.out.out.1 (by first | rfl | trivial)).2)
        have hI := HI.out
        exact ⟨⟨k + 1, by omega, by congr 1; omega, HJn, HKn⟩, by simp [intOf]⟩
    · obtain rfl : k = m := by omega
      have hz : decide ((0 : Int) ≤ (k : Int) - 1 - (k : Int)) = false := by simp; omega
      gi_wp2
      go_end0
      exact ⟨⟨_, rfl⟩, .inl HJk.out⟩
theorem enters_back : ∀ args w, (callFunc 69 args).run Try.prog w = .ok (.enter 69 args) w := fun _ _ => by kernel_rfl
theorem back_any (ad : Option Addr) (m c : Nat) (w : World) : Calls Try.prog 53 #[.slice ad m c] w fun e w' => e = .returned (.func (.func 69) #[] #[.pointer (some ⟨w.heap.size, 0, none⟩)]) ∧ w' = w.alloc (.cells #[.slice ad m c] TDs) := by
  have hmf : ∀ (fn : Fn) (first cap : Array Value) (w : World), (Instr.makeFunc fn first cap).run Try.prog w = .ok (.func fn first cap) w := fun _ _ _ _ => rfl
  go_enter Try.func53, Try.ntmps53
  go_wp2_with fail
  go_ret
  exact ⟨rfl, rfl⟩
/-- Whether batches, the newest first, lead to a number. -/
def leadR : List Dn → Int → Bool
  | [], n => decide (0 ≤ n)
  | d :: l, n => if 1 ≤ d.len ∧ d.len ≤ 64 ∧ isOff d.off = true ∧ d.seq = n - d.len then leadR l d.seq else false
theorem rev_at (l : List Dn) (k : Nat) (hk : k < l.length) : l.reverse.drop k = l.getD (l.length - 1 - k) dn0 :: l.reverse.drop (k + 1) := by
  have hl : k < l.reverse.length := by simpa using hk
  rw [List.drop_eq_getElem_cons hl, List.getElem_reverse, List.getD_eq_getElem?_getD, List.getElem?_eq_getElem (by omega)]
  rfl
/-- What leadTo keeps while its loop runs. -/
structure LdI (w : World) (n : Int) (k : Bool) (Z : World) : Prop where
  below : Below w.heap.size w Z
  b0 : Blk Z w.heap.size #[.int .i64 n] 3
  b1 : Blk Z (w.heap.size + 1) #[.bool k] 4
theorem LdI.chg {n : Int} {k : Bool} {Z Z' : World} {F : List Nat} (h : LdI w n k Z) (hc : Chg F Z Z') (hF : ∀ g ∈ F, w.heap.size + 2 ≤ g) : LdI w n k Z' := by
  refine ⟨?_, h.b0.chg hc (fun hm => absurd (hF _ hm) (by omega)), h.b1.chg hc (fun hm => absurd (hF _ hm) (by omega))⟩
  exact ⟨hc.os.trans h.below.os, hc.tape.trans h.below.tape, hc.output.trans h.below.output, Nat.le_trans h.below.size hc.size, fun k hk => (hc.block k (Nat.lt_of_lt_of_le hk h.below.size) (fun hm => absurd (hF _ hm) (by omega))).trans (h.below.block k hk)⟩
set_option maxRecDepth 100000 in
set_option maxHeartbeats 1000000 in
theorem leadTo_any (h : DRow w a m l) (hm : m ≤ 5) (n : Int) (h0 : 0 ≤ n) (hn : n ≤ 2147483648) : Calls Try.prog 41 #[.int .i64 n, .slice a m c] w fun e w' => e = .returned (.bool (leadR l.reverse n)) ∧ Below w.heap.size w w' := by
  obtain ⟨W3, hW3⟩ : ∃ W3, ((w.alloc (.cells #[.int .i64 n] 3)).alloc (.cells #[.bool false] 4)).alloc (.cells #[.slice a m c] TDs) = W3 := ⟨_, rfl⟩
  have hb3 : Below w.heap.size w W3 := by rw [← hW3]; exact (((Below.refl _ w).alloc (Nat.le_refl _) _).alloc (by simp) _).alloc (by simp; omega) _
  have hs3 : W3.heap.size = w.heap.size + 3 := by rw [← hW3]; simp
  have hB : LdI w n false W3 ∧ Blk W3 (w.heap.size + 2) #[.slice a m c] TDs := by
    have q0 : Blk (w.alloc (.cells #[.int .i64 n] 3)) w.heap.size _ _ := heap_alloc_new w _
    have n1 := (Below.refl _ (w.alloc (.cells #[.int .i64 n] 3))).alloc (Nat.le_refl _) (.cells #[.bool false] 4)
    have q1 : Blk _ _ _ _ := heap_alloc_new (w.alloc (.cells #[.int .i64 n] 3)) (.cells #[.bool false] 4)
    rw [show (w.alloc (.cells #[.int .i64 n] 3)).heap.size = w.heap.size + 1 by simp] at q1
    have p0 := q0.later n1
    have e2 : ((w.alloc (.cells #[.int .i64 n] 3)).alloc (.cells #[.bool false] 4)).heap.size = w.heap.size + 2 := by simp
    generalize (w.alloc (.cells #[.int .i64 n] 3)).alloc (.cells #[.bool false] 4) = V at *
    have n2 := (Below.refl _ V).alloc (Nat.le_refl _) (.cells #[.slice a m c] TDs)
    have q2 : Blk _ _ _ _ := heap_alloc_new V (.cells #[.slice a m c] TDs)
    rw [e2] at q2
    rw [← hW3] at hb3 ⊢
    exact ⟨⟨hb3, p0.later n2, q1.later n2⟩, q2⟩
  have hl := h.1
  obtain ⟨Gs, g1, g2, g3⟩ : ∃ Gs : List Nat, w.heap.size + 2 ∈ Gs ∧ (∀ b, a = some ⟨b, 0, none⟩ → m ≠ 0 → b ∈ Gs) ∧ ∀ g ∈ Gs, g < w.heap.size + 3 ∧ g ≠ w.heap.size ∧ g ≠ w.heap.size + 1 := by
    rcases h.2 with h0 | ⟨b, rfl, hs, -⟩
    · exact ⟨[w.heap.size + 2], by simp, fun b e hn => absurd h0 hn, fun g hg => by simp at hg; omega⟩
    · exact ⟨[w.heap.size + 2, b], by simp, fun b' e _ => by cases e; simp, fun g hg => by simp at hg; omega⟩
  have HSq := hid (back_seq (K := fun _ _ => True) (h.later hb3) (by omega) (w.heap.size + 2) Gs (hB.2.cell 0) g1 g2 (fun g hg => by have := (g3 g hg).1; omega))
  have HGs : Hid (∀ g ∈ Gs, g < w.heap.size + 3 ∧ g ≠ w.heap.size ∧ g ≠ w.heap.size + 1) := g3
  have HB := hid hB
  clear h hb3 hB g1 g2 g3
  refine (callsIn_wide (n := 3)).1 ?_
  refine callsIn_of_wp_marks Try.func41 rfl trivial ?_ rfl
  simp only [Try.ntmps41, List.size_toArray, List.length_cons, List.length_nil, Nat.reduceAdd, Nat.reduceSub, Array.replicate_succ, Array.replicate_zero, List.push_toArray, List.append_toArray, List.nil_append, List.cons_append]
  gi_wp2_with (refine ⟨trivial, ?_⟩; gi_at_call 53; refine (callsIn_wide.2 (back_any a m c _)).mono ?_; rintro e w2 ⟨rfl, hw2⟩; obtain rfl := hw2.symm)
  clear hW3
  refine range_A (w.heap.size + 3) hs3 (gf := 69) rfl enters_back HSq.out (fun h k => h.trans k) ?kb (fun k Z => ∃ nx : Int, LdI w nx false Z ∧ leadR l.reverse n = leadR (l.reverse.drop k) nx ∧ -(64 * k : Int) ≤ nx ∧ nx ≤ 2147483648) (fun _ Z => ∃ nx : Int, LdI w nx false Z ∧ leadR l.reverse n = false) ?hI ?hIx (fun _ _ _ => trivial) ?h0 ?hps
    (fun args X => { tmps := #[.int .i64 n, .slice a m c, .pointer (some ⟨w.heap.size, 0, none⟩), undef, .pointer (some ⟨w.heap.size + 1, 0, none⟩), undef, .pointer (some ⟨X.heap.size, 0, none⟩), .slice a m c, .func (.func 69) #[] #[.pointer (some ⟨w.heap.size + 1 + 1, 0, none⟩)], args.getD 0 undef, args.getD 1 undef, undef, undef, undef, undef, undef, undef, undef, undef, undef, undef, undef, undef, undef, undef, undef, undef, undef, undef, undef, undef, undef, undef, undef, undef, undef, undef, undef], defers := [] })
    (fun args X => X.alloc (.cells (match args.getD 1 undef with | .agg cs => cs | _ => #[]) TDn)) ?hx1 ?hKa ?assign ?body ?done ?stop
  case kb => exact fun Z o hZ => ⟨by simp, fun g hg => World.putObj_heap_other (by have := (HGs.out g hg).1; omega)⟩
  case hI => exact fun k Z Z' ⟨nx, h1, h2⟩ hc => ⟨nx, h1.chg hc (fun g hg => by simp at hg; omega), h2⟩
  case hIx => exact fun k Z Z' ⟨nx, h1, h2⟩ hc => ⟨nx, h1.chg hc (fun g hg => by simp at hg; omega), h2⟩
  case h0 => exact ⟨n, HB.out.1, rfl, by omega, hn⟩
  case hps =>
    rintro k args X ⟨_, rfl⟩
    rfl
  case hx1 => exact fun k args X _ => (Below.refl _ _).alloc (Nat.le_refl _) _
  case hKa => exact fun k args X _ hX => Kg.below ((Below.refl _ _).alloc (Nat.le_refl _) _) (fun g hg => by have := (HGs.out g hg).1; omega)
  case assign =>
    rintro q k args X L ⟨hk, rfl⟩ hL
    clear HSq HB HGs
    generalize l.getD (m - 1 - k) dn0 = d at *
    gi_wp2
    exact hL
  case body =>
    rintro q k args X Y hk hX ⟨nx, hI, hT, hn1, hn2⟩ ⟨hkm, rfl⟩ hc hsz
    have hra := rev_at l k (by omega)
    rw [hl] at hra
    have hbx : Blk (X.alloc (.cells #[.int .i64 (l.getD (m - 1 - k) dn0).seq, .int .i64 (l.getD (m - 1 - k) dn0).len, .int .i64 (l.getD (m - 1 - k) dn0).off] TDn)) X.heap.size _ _ := heap_alloc_new X _
    have hby := hbx.chg hc (by simp; omega)
    generalize l.getD (m - 1 - k) dn0 = d at *
    have HY := hid ((hI.chg (F := []) (Chg.of ((Below.refl _ X).alloc (Nat.le_refl _) _)) (fun g hg => by cases hg)).chg hc (fun g hg => by simp at hg; omega))
    have c0 : Y.cell? ⟨X.heap.size, 0, none⟩ = some (.int .i64 d.seq) := hby.cell 0
    have c1 : Y.cell? ⟨X.heap.size, 1, none⟩ = some (.int .i64 d.len) := hby.cell 1
    have c2 : Y.cell? ⟨X.heap.size, 2, none⟩ = some (.int .i64 d.off) := hby.cell 2
    have a0 : Y.cell? ⟨w.heap.size, 0, none⟩ = some (.int .i64 nx) := HY.out.b0.cell 0
    have a1 : Y.cell? ⟨w.heap.size + 1, 0, none⟩ = some (.bool false) := HY.out.b1.cell 0
    have f0 : Y.frozen? ⟨w.heap.size, 0, none⟩ = false := HY.out.b0.free 0
    have f1 : Y.frozen? ⟨w.heap.size + 1, 0, none⟩ = false := HY.out.b1.free 0
    have HT : Hid (leadR l.reverse n = if 1 ≤ d.len ∧ d.len ≤ 64 ∧ isOff d.off = true ∧ d.seq = nx - d.len then leadR (l.reverse.drop (k + 1)) d.seq else false) := by rw [hT, hra]; exact rfl
    have hXY : X.heap.size < Y.heap.size := by rw [hsz]; simp
    have HFa : Hid (∀ Z, Z = Y.setCell ⟨w.heap.size + 1, 0, none⟩ (.bool false) → LdI w nx false Z ∧ ∀ g, g ≠ w.heap.size + 1 → Z.heap[g]? = Y.heap[g]?) := fun Z hZ => by
      subst hZ
      exact ⟨⟨HY.out.below.setCell (p := ⟨w.heap.size + 1, 0, none⟩) (by show w.heap.size ≤ w.heap.size + 1; omega) _, HY.out.b0.other (by omega) 0 _, HY.out.b1.set 0 (.bool false)⟩, fun g hg => Below.heap_setCell _ _ _ _ hg⟩
    have HGo : Hid (∀ Z, Z = Y.setCell ⟨w.heap.size, 0, none⟩ (.int .i64 d.seq) → LdI w d.seq false Z ∧ Y.heap.size ≤ Z.heap.size ∧ ∀ g, g ≠ w.heap.size → Z.heap[g]? = Y.heap[g]?) := fun Z hZ => by
      subst hZ
      exact ⟨⟨HY.out.below.setCell (p := ⟨w.heap.size, 0, none⟩) (Nat.le_refl _) _, HY.out.b0.set 0 (.int .i64 d.seq), HY.out.b1.other (by omega) 0 _⟩, by simp [World.setCell], fun g hg => Below.heap_setCell _ _ _ _ hg⟩
    obtain ⟨e0, he0⟩ : ∃ e0, d.seq = e0 := ⟨_, rfl⟩
    obtain ⟨e1, he1⟩ : ∃ e1, d.len = e1 := ⟨_, rfl⟩
    obtain ⟨e2, he2⟩ : ∃ e2, d.off = e2 := ⟨_, rfl⟩
    rw [he0] at c0 HT HGo
    rw [he1] at c1 HT
    rw [he2] at c2 HT
    clear hI hT hc hsz hbx hby HSq HB hra he0 he1 he2
    by_cases k1 : e1 < 1
    · have hd1 : decide (e1 < 1) = true := by simpa using k1
      have HF := hid (HT.out.trans (if_neg (by omega)))
      clear HT k1
      gi_wp2
      refine ⟨trivial, ?_⟩
      gi_wp2
      obtain ⟨z1, z2⟩ := HFa.out _ rfl
      exact ⟨⟨z2 _ (by omega), z2 _ (by omega)⟩, nx, z1, HF.out⟩
    have hd1 : decide (e1 < 1) = false := by simpa using k1
    by_cases k2 : 64 < e1
    · have hd2 : decide (64 < e1) = true := by simpa using k2
      have HF := hid (HT.out.trans (if_neg (by omega)))
      clear HT k1 k2
      gi_wp2
      refine ⟨trivial, ?_⟩
      gi_wp2
      obtain ⟨z1, z2⟩ := HFa.out _ rfl
      exact ⟨⟨z2 _ (by omega), z2 _ (by omega)⟩, nx, z1, HF.out⟩
    have hd2 : decide (64 < e1) = false := by simpa using k2
    cases k3 : isOff e2 with
    | false =>
      have HF := hid (HT.out.trans (if_neg (by simp [k3])))
      clear HT k1 k2
      gi_wp2_with (refine ⟨trivial, ?_⟩; gi_at_call 33; refine (CallsIn.inRound q (callsIn_wide.2 (off_any _ _))).mono ?_; rintro e w2 ⟨rfl, hw2⟩; obtain rfl := hw2.symm; rw [k3])
      obtain ⟨z1, z2⟩ := HFa.out _ rfl
      exact ⟨⟨z2 _ (by omega), z2 _ (by omega)⟩, nx, z1, HF.out⟩
    | true =>
    have hwr : IntKind.i64.wrap (nx - e1) = nx - e1 := by rw [IntKind.wrap_i64]; omega
    by_cases k4 : e0 = nx - e1
    · have HF := hid (HT.out.trans (if_pos ⟨by omega, by omega, k3, k4⟩))
      have hlo : -(64 * ((k + 1 : Nat) : Int)) ≤ e0 := by omega
      have hhi : e0 ≤ 2147483648 := by omega
      have HLo := hid hlo
      have HHi := hid hhi
      subst k4
      clear HT k1 k2 hlo hhi
      gi_wp2_with (refine ⟨trivial, ?_⟩; gi_at_call 33; refine (CallsIn.inRound q (callsIn_wide.2 (off_any _ _))).mono ?_; rintro e w2 ⟨rfl, hw2⟩; obtain rfl := hw2.symm; rw [k3])
      obtain ⟨z1, z3, z2⟩ := HGo.out _ rfl
      exact ⟨⟨z2 _ (by omega), z2 _ (by omega)⟩, ⟨z3, fun g hg => z2 g (HGs.out g hg).2.1⟩, _, z1, HF.out, HLo.out, HHi.out⟩
    · have HF := hid (HT.out.trans (if_neg (fun hh => k4 hh.2.2.2)))
      have hd4 : (e0 == nx - e1) = false := by simpa using k4
      clear HT k1 k2
      gi_wp2_with (refine ⟨trivial, ?_⟩; gi_at_call 33; refine (CallsIn.inRound q (callsIn_wide.2 (off_any _ _))).mono ?_; rintro e w2 ⟨rfl, hw2⟩; obtain rfl := hw2.symm; rw [k3])
      obtain ⟨z1, z2⟩ := HFa.out _ rfl
      exact ⟨⟨z2 _ (by omega), z2 _ (by omega)⟩, nx, z1, HF.out⟩
  case done =>
    rintro X hX ⟨nx, hI, hT, -, -⟩ hD
    have hT0 : leadR l.reverse n = decide (0 ≤ nx) := by rw [hT, List.drop_of_length_le (by simp; omega)]; rfl
    have HT0 := hid hT0
    have HI := hid hI
    have c2 : X.cell? ⟨w.heap.size, 0, none⟩ = some (.int .i64 nx) := hI.b0.cell 0
    have c3 : X.cell? ⟨w.heap.size + 1, 0, none⟩ = some (.bool false) := hI.b1.cell 0
    have f3 : X.frozen? ⟨w.heap.size + 1, 0, none⟩ = false := hI.b1.free 0
    have HD := hid hD
    clear hI hT hD HSq HB hT0
    gi_wp2
    have hc : Chg [w.heap.size + 1] X (X.setCell ⟨w.heap.size + 1, 0, none⟩ (.bool (decide (0 ≤ nx)))) := (Chg.refl _ X).set (Or.inl (by simp)) _ _
    have hDf := (hc.block _ (Array.getElem?_eq_some_iff.1 HD.out).1 (by simp)).trans HD.out
    have m1 := HI.out.b1.set 0 (.bool (decide (0 ≤ nx)))
    have hbl : Below w.heap.size w (X.setCell ⟨w.heap.size + 1, 0, none⟩ (.bool (decide (0 ≤ nx)))) := HI.out.below.setCell (p := ⟨w.heap.size + 1, 0, none⟩) (by show w.heap.size ≤ w.heap.size + 1; omega) _
    generalize X.setCell ⟨w.heap.size + 1, 0, none⟩ (.bool (decide (0 ≤ nx))) = Z at *
    have hpc : Chg [w.heap.size + 3, w.heap.size + 3 + 1] Z (Z.putObj (w.heap.size + 3) (.deferred none)) := putObj_chg Z _ _ _ (Or.inl rfl)
    have r1 : (Z.putObj (w.heap.size + 3) (.deferred none)).cell? ⟨w.heap.size + 1, 0, none⟩ = some (.bool (decide (0 ≤ nx))) := (m1.chg hpc (by simp)).cell 0
    refine ⟨by simp, .inl ⟨_, _, rfl, run_takeDeferred hDf, ?_⟩⟩
    refine ⟨.bool (decide (0 ≤ nx)), by simp [results, Try.results41, go_sem, r1], by rw [HT0.out], ?_⟩
    exact hbl.trans (hpc.below (by intro g hg; simp at hg; omega) hbl.size)
  case stop =>
    rintro k X hk ⟨nx, hI, hT⟩ hD
    have HT0 := hid hT
    have hpc : Chg [w.heap.size + 3, w.heap.size + 3 + 1] X (X.putObj (w.heap.size + 3) (.deferred none)) := putObj_chg X _ _ _ (Or.inl rfl)
    have hq := hI.chg hpc (fun g hg => by simp at hg; omega)
    have r1 : (X.putObj (w.heap.size + 3) (.deferred none)).cell? ⟨w.heap.size + 1, 0, none⟩ = some (.bool false) := hq.b1.cell 0
    have HQ := hid hq
    have HD := hid hD
    clear hI hD HSq HB hpc hq hT
    gi_wp2
    refine ⟨by simp, .inl ⟨_, _, rfl, run_takeDeferred HD.out, ?_⟩⟩
    exact ⟨.bool false, by simp [results, Try.results41, go_sem, r1], by rw [HT0.out], HQ.out.below⟩
end Go.Proofs.Ytobaeiicacpbnaa
