/- sides: the greatest from one side, the least from the other. -/
import Derived.Test.YtpjemifoilbjeaaHBack
import Derived.Laws.MakeOwn
namespace Go.Proofs.Ytpjemifoilbjeaa
open Go.RowKit Hy
attribute [local go_sem] Oper.semAt_some
variable {w w' : World} {l : List Stp} {a : Option Addr} {m c : Nat}

/-- The greatest beginning up to a step. -/
def gmx (l : List Stp) (i : Nat) : Int := (l.take i).foldl (fun z x => max z x.2.1) (-9223372036854775808)
/-- The least end from a step on. -/
def lmn (l : List Stp) (i : Nat) : Int := (l.drop i).foldr (fun x z => min z x.2.2) 9223372036854775807
/-- A row of which the first i are told, the others 0. -/
def rowG (f : Nat → Int) (m i : Nat) : Array Value := ((List.range m).map (fun k => Value.int .i64 (if k < i then f k else 0))).toArray
/-- A row of which those from i on are told. -/
def rowL (f : Nat → Int) (m i : Nat) : Array Value := ((List.range m).map (fun k => Value.int .i64 (if k < i then 0 else f k))).toArray
def zeros (m : Nat) : Array Value := (List.replicate m (.int .i64 0)).toArray
theorem make_zeros (p : Nat) (hp : p ≤ 1048576) (W : World) : (Instr.makeSlice 40 (.int .i64 (p : Int)) (.int .i64 (p : Int))).run Try.prog W = .ok (.slice (some ⟨W.heap.size, 0, none⟩) p p) (W.alloc (.cells (zeros p) 3)) := by
  have hinf : (Try.prog.info? 3).map (fun i => (i.zero, i.size, i.bytes)) = some (some (.int .i64 0), 1, 8) := by kernel_rfl
  obtain ⟨i0, hi, hz0, hz1, hz2⟩ := info_parts hinf
  have h := run_makeSlice (P := Try.prog) W 40 3 i0 (.int .i64 0) kZ_ok.und hi hz0 .i64 .i64 (p : Int) (p : Int) (by omega) (by omega) (by rw [hz1]; omega) (by rw [hz2]; omega) (by omega)
  rw [h]
  have e : madeCells (Value.int .i64 0).cells (((p : Nat) : Int).toNat * i0.size) = zeros p := by
    rw [hz1, Int.toNat_natCast, Nat.mul_one]
    unfold zeros
    apply Array.ext
    · simp [madeCells]
    · intro j h1 h2
      simp [madeCells, Value.cells, Nat.mod_one]
  rw [e]
  rfl
theorem rowG_zero (f : Nat → Int) (m : Nat) : rowG f m 0 = zeros m := by
  unfold rowG zeros
  congr 1
  apply List.ext_getElem
  · simp
  · intro i h1 h2; simp
theorem rowL_end (f : Nat → Int) (m : Nat) : rowL f m m = zeros m := by
  unfold rowL zeros
  congr 1
  apply List.ext_getElem
  · simp
  · intro i h1 h2
    have : i < m := by simpa using h1
    simp [this]
theorem rowG_set (f : Nat → Int) {m i : Nat} (_hi : i < m) : (rowG f m i).setIfInBounds i (.int .i64 (f i)) = rowG f m (i + 1) := by
  unfold rowG
  rw [List.setIfInBounds_toArray]
  congr 1
  apply List.ext_getElem
  · simp
  · intro k h1 h2
    rw [List.getElem_set]
    simp only [List.getElem_map, List.getElem_range]
    by_cases e : i = k
    · subst e; rw [if_pos rfl, if_pos (by omega)]
    · rw [if_neg e]
      by_cases h : k < i
      · rw [if_pos h, if_pos (by omega)]
      · rw [if_neg h, if_neg (by omega)]
theorem rowL_set (f : Nat → Int) {m i : Nat} (_hi : i < m) : (rowL f m (i + 1)).setIfInBounds i (.int .i64 (f i)) = rowL f m i := by
  unfold rowL
  rw [List.setIfInBounds_toArray]
  congr 1
  apply List.ext_getElem
  · simp
  · intro k h1 h2
    rw [List.getElem_set]
    simp only [List.getElem_map, List.getElem_range]
    by_cases e : i = k
    · subst e; rw [if_pos rfl, if_neg (by omega)]
    · rw [if_neg e]
      by_cases h : k < i
      · rw [if_pos h, if_pos (by omega)]
      · rw [if_neg h, if_neg (by omega)]
theorem four_new (w : World) (A B C D : Obj) : ((((w.alloc A).alloc B).alloc C).alloc D).drew.heap[w.heap.size]? = some A ∧ ((((w.alloc A).alloc B).alloc C).alloc D).drew.heap[w.heap.size + 1]? = some B ∧ ((((w.alloc A).alloc B).alloc C).alloc D).drew.heap[w.heap.size + 1 + 1]? = some C ∧ ((((w.alloc A).alloc B).alloc C).alloc D).drew.heap[w.heap.size + 1 + 1 + 1]? = some D ∧ RowKit.Below w.heap.size w ((((w.alloc A).alloc B).alloc C).alloc D).drew ∧ ((((w.alloc A).alloc B).alloc C).alloc D).drew.heap.size = w.heap.size + 4 := by
  have k : ∀ (V : World) (o : Obj) (i : Nat), i < V.heap.size → (V.alloc o).heap[i]? = V.heap[i]? := fun V o i hi => ((Below.refl _ V).alloc (Nat.le_refl _) o).block i hi
  have s1 : (w.alloc A).heap.size = w.heap.size + 1 := by simp
  have s2 : ((w.alloc A).alloc B).heap.size = w.heap.size + 1 + 1 := by simp
  have s3 : (((w.alloc A).alloc B).alloc C).heap.size = w.heap.size + 1 + 1 + 1 := by simp
  have n0 : (w.alloc A).heap[w.heap.size]? = some A := heap_alloc_new w A
  have n1 : ((w.alloc A).alloc B).heap[w.heap.size + 1]? = some B := by rw [← s1]; exact heap_alloc_new (w.alloc A) B
  have n2 : (((w.alloc A).alloc B).alloc C).heap[w.heap.size + 1 + 1]? = some C := by rw [← s2]; exact heap_alloc_new ((w.alloc A).alloc B) C
  have n3 : ((((w.alloc A).alloc B).alloc C).alloc D).heap[w.heap.size + 1 + 1 + 1]? = some D := by rw [← s3]; exact heap_alloc_new (((w.alloc A).alloc B).alloc C) D
  refine ⟨?_, ?_, ?_, n3, ?_, ?_⟩
  · show ((((w.alloc A).alloc B).alloc C).alloc D).heap[_]? = _
    rw [k _ D _ (by omega), k _ C _ (by omega), k _ B _ (by omega), n0]
  · show ((((w.alloc A).alloc B).alloc C).alloc D).heap[_]? = _
    rw [k _ D _ (by omega), k _ C _ (by omega), n1]
  · show ((((w.alloc A).alloc B).alloc C).alloc D).heap[_]? = _
    rw [k _ D _ (by omega), n2]
  · exact (((((Below.refl _ w).alloc (Nat.le_refl _) _).alloc (by simp) _).alloc (by simp; omega) _).alloc (by simp; omega) _).drew
  · show ((((w.alloc A).alloc B).alloc C).alloc D).heap.size = _
    simp
/-- What the loops of sides keep: the rows G and L, the boxes of a function, of a row and of the least. -/
structure SdI (w : World) (G L N : Nat) (l : List Stp) (m i j : Nat) (Z : World) : Prop where
  rg : Blk Z G (rowG (fun k => gmx l (k + 1)) m i) 3
  rl : Blk Z L (rowL (fun k => lmn l k) m j) 3
  bf : Blk Z w.heap.size #[.func (.func 37) #[] #[]] 76
  bs : Blk Z (w.heap.size + 1) #[.slice (some ⟨L, 0, none⟩) m m] 40
  bn : Blk Z (w.heap.size + 4) #[.int .i64 (lmn l j)] 3
  below : RowKit.Below w.heap.size w Z
  num : (G = w.heap.size + 2 ∧ L = w.heap.size + 3) ∨ (G = w.heap.size + 3 ∧ L = w.heap.size + 2)
  size : N ≤ Z.heap.size ∧ w.heap.size + 5 ≤ N
theorem SdI.chg {G L N i j : Nat} {Z Z' : World} {F : List Nat} (h : SdI w G L N l m i j Z) (hc : Chg F Z Z') (hF : ∀ b ∈ F, N ≤ b) : SdI w G L N l m i j Z' := by
  have h1 := h.num
  have h2 := h.size
  have hn : ∀ b, b < N → b ∉ F := fun b hb hm => by have := hF b hm; omega
  refine ⟨h.rg.chg hc (hn _ (by omega)), h.rl.chg hc (hn _ (by omega)), h.bf.chg hc (hn _ (by omega)), h.bs.chg hc (hn _ (by omega)), h.bn.chg hc (hn _ (by omega)), ?_, h.num, Nat.le_trans h.size.1 hc.size, h.size.2⟩
  exact ⟨hc.os.trans h.below.os, hc.tape.trans h.below.tape, hc.output.trans h.below.output, Nat.le_trans h.below.size hc.size, fun k hk => (hc.block k (Nat.lt_of_lt_of_le hk h.below.size) (hn k (by omega))).trans (h.below.block k hk)⟩
theorem SdI.later {G L N i j : Nat} {Z Z' : World} (h : SdI w G L N l m i j Z) (hb : RowKit.Below Z.heap.size Z Z') : SdI w G L N l m i j Z' := h.chg (F := []) (Chg.of hb) (fun b hb => by cases hb)
theorem gmx_succ {i : Nat} (hi : i < l.length) : gmx l (i + 1) = max (gmx l i) (l.getD i st0).2.1 := by
  unfold gmx
  rw [take_snoc_any l st0 i hi, List.foldl_append]
  rfl
theorem lmn_succ {i : Nat} (hi : i < l.length) : lmn l i = min (lmn l (i + 1)) (l.getD i st0).2.2 := by
  unfold lmn
  rw [List.drop_eq_getElem_cons hi, List.getD_eq_getElem?_getD, List.getElem?_eq_getElem hi]
  rfl
theorem SdI.gset {G L N i j : Nat} {Z : World} (h : SdI w G L N l m i j Z) (hi : i < m) : SdI w G L N l m (i + 1) j (Z.setCell ⟨G, i, none⟩ (.int .i64 (gmx l (i + 1)))) := by
  have h1 := h.num
  have h2 := h.size
  refine ⟨?_, h.rl.other (by omega) _ _, h.bf.other (by omega) _ _, h.bs.other (by omega) _ _, h.bn.other (by omega) _ _, h.below.setCell (p := ⟨G, i, none⟩) (by show w.heap.size ≤ G; omega) _, h.num, by simp [World.setCell]; omega, h.size.2⟩
  have := h.rg.set i (.int .i64 (gmx l (i + 1)))
  rw [rowG_set (fun k => gmx l (k + 1)) hi] at this
  exact this
theorem SdI.lset {G L N i j : Nat} {Z : World} (h : SdI w G L N l m i (j + 1) Z) (hj : j < m) : SdI w G L N l m i j ((Z.setCell ⟨w.heap.size + 4, 0, none⟩ (.int .i64 (lmn l j))).setCell ⟨L, j, none⟩ (.int .i64 (lmn l j))) := by
  have h1 := h.num
  have h2 := h.size
  have b1 : RowKit.Below w.heap.size w (Z.setCell ⟨w.heap.size + 4, 0, none⟩ (.int .i64 (lmn l j))) := h.below.setCell (p := ⟨w.heap.size + 4, 0, none⟩) (by show w.heap.size ≤ w.heap.size + 4; omega) _
  refine ⟨(h.rg.other (by omega) _ _).other (by omega) _ _, ?_, (h.bf.other (by omega) _ _).other (by omega) _ _, (h.bs.other (by omega) _ _).other (by omega) _ _, (h.bn.set 0 (.int .i64 (lmn l j))).other (by omega) _ _, b1.setCell (p := ⟨L, j, none⟩) (by show w.heap.size ≤ L; omega) _, h.num, by simp [World.setCell]; omega, h.size.2⟩
  have := (h.rl.other (by omega : L ≠ w.heap.size + 4) 0 (.int .i64 (lmn l j))).set j (.int .i64 (lmn l j))
  rw [rowL_set (fun k => lmn l k) hj] at this
  exact this
set_option maxRecDepth 20000 in
set_option maxHeartbeats 4000000 in
theorem sides_any (h : ArgK kSt w l a m c) (hm : m ≤ 100000) : Calls Try.prog 35 #[.slice a m c, .func (.func 36) #[] #[], .func (.func 37) #[] #[]] w fun e w' => ∃ G L : Nat, e = .returned (.tuple #[.slice (some ⟨G, 0, none⟩) m m, .slice (some ⟨L, 0, none⟩) m m]) ∧ Blk w' G (rowG (fun k => gmx l (k + 1)) m m) 3 ∧ Blk w' L (rowL (fun k => lmn l k) m 0) 3 ∧ Below w.heap.size w w' := by
  have HA := hid h
  have hmk := fun W => make_zeros m (by omega) W
  clear h
  refine (callsIn_wide (n := 3)).1 ?_
  refine callsIn_of_wp_marks Try.func35 rfl trivial ?_ rfl
  simp only [Try.ntmps35, List.size_toArray, List.length_cons, List.length_nil, Nat.reduceAdd, Nat.reduceSub, Array.replicate_succ, Array.replicate_zero, List.push_toArray, List.append_toArray, List.nil_append, List.cons_append]
  gi_wp2
  gi_region
  · obtain ⟨G, hG⟩ : ∃ G, w.heap.size + 1 + 1 = G := ⟨_, rfl⟩
    obtain ⟨L, hL⟩ : ∃ L, w.heap.size + 1 + 1 + 1 = L := ⟨_, rfl⟩
    rw [hL, hG]
    obtain ⟨Z, hZ⟩ : ∃ Z, ((((w.alloc (.cells #[.func (.func 37) #[] #[]] 76)).alloc (.cells #[.slice (some ⟨L, 0, none⟩) m m] 40)).alloc (.cells (zeros m) 3)).alloc (.cells (zeros m) 3)).drew = Z := ⟨_, rfl⟩
    have hI0 : SdI w G L (w.heap.size + 5) l m 0 m (Z.alloc (.cells #[.int .i64 9223372036854775807] 3)) := by
      obtain ⟨f0, f1, f2, f3, f4, f5⟩ := four_new w (.cells #[.func (.func 37) #[] #[]] 76) (.cells #[.slice (some ⟨L, 0, none⟩) m m] 40) (.cells (zeros m) 3) (.cells (zeros m) 3)
      rw [hZ] at f0 f1 f2 f3 f4 f5
      have hb : RowKit.Below Z.heap.size Z (Z.alloc (.cells #[.int .i64 9223372036854775807] 3)) := (Below.refl _ _).alloc (Nat.le_refl _) _
      have g1 : Blk Z G (zeros m) 3 := by rw [← hG]; first | exact f2 | exact f3
      have g2 : Blk Z L (zeros m) 3 := by rw [← hL]; first | exact f2 | exact f3
      have e1 : lmn l m = 9223372036854775807 := by unfold lmn; rw [List.drop_of_length_le (by rw [HA.out.len]; exact Nat.le_refl _)]; rfl
      have hn : Blk (Z.alloc (.cells #[.int .i64 9223372036854775807] 3)) (w.heap.size + 4) #[.int .i64 9223372036854775807] 3 := by rw [← f5]; exact heap_alloc_new Z _
      refine ⟨by rw [rowG_zero]; exact g1.later hb, by rw [rowL_end]; exact g2.later hb, Blk.later (w := Z) f0 hb, Blk.later (w := Z) f1 hb, by rw [e1]; exact hn, f4.trans (hb.mono f4.size), by omega, by rw [World.size_alloc]; omega, Nat.le_refl _⟩
    have HI0 := hid hI0
    have HNm : Hid ((G = w.heap.size + 2 ∧ L = w.heap.size + 3) ∨ (G = w.heap.size + 3 ∧ L = w.heap.size + 2)) := hI0.num
    rw [hZ]
    have HZs : Hid (Z.heap.size = w.heap.size + 4) := by rw [← hZ]; exact (four_new w _ _ _ _).2.2.2.2.2
    clear hI0 hG hL hmk hZ
    gi_wp2
    gi_loopw [22, 8] (fun iv hv wr => ∃ i : Nat, i ≤ m ∧ iv = .int .i64 (i : Int) ∧ hv = .int .i64 (gmx l i) ∧ Hid (SdI w G L (w.heap.size + 5) l m i m wr)) (fun iv _ _ => m - (intOf iv).toNat)
    case atStart => exact ⟨0, by omega, rfl, rfl, HI0⟩
    case round =>
      obtain ⟨i, hi, rfl, rfl, HI⟩ := hrel
      clear HI0
      by_cases hlt : i < m
      · obtain ⟨b, off, rfl, hb, hc⟩ := (HA.out.later HI.out.below).cells (by omega)
        have c0 := hc i hlt 0 (by decide)
        have c1 := hc i hlt 1 (by decide)
        have c2 := hc i hlt 2 (by decide)
        have hcap := HA.out.cap
        have HG1 : Hid (gmx l (i + 1) = max (gmx l i) (l.getD i st0).2.1) := gmx_succ (by rw [HA.out.len]; exact hlt)
        obtain ⟨x, hx⟩ : ∃ x, l.getD i st0 = x := ⟨_, rfl⟩
        rw [show l.getD i kSt.z = l.getD i st0 from rfl, hx] at c0 c1 c2
        rw [hx] at HG1
        obtain ⟨e0, e1, e2⟩ := x
        have q0 : wr.cell? ⟨b, off + i * 3, none⟩ = some (.int .i64 e0) := c0
        have q1 : wr.cell? ⟨b, off + i * 3 + 1, none⟩ = some (.int .i64 e1) := c1
        have q2 : wr.cell? ⟨b, off + i * 3 + 2, none⟩ = some (.int .i64 e2) := c2
        have b1 : RowKit.Below wr.heap.size wr (wr.alloc (.cells #[.int .i64 e0, .int .i64 e1, .int .i64 e2] 75)) := (Below.refl _ _).alloc (Nat.le_refl _) _
        have b2 : RowKit.Below (wr.alloc (.cells #[.int .i64 e0, .int .i64 e1, .int .i64 e2] 75)).heap.size (wr.alloc (.cells #[.int .i64 e0, .int .i64 e1, .int .i64 e2] 75)) ((wr.alloc (.cells #[.int .i64 e0, .int .i64 e1, .int .i64 e2] 75)).alloc (.cells #[.int .i64 e0, .int .i64 e1, .int .i64 e2] 75)) := (Below.refl _ _).alloc (Nat.le_refl _) _
        have hI2 := (HI.out.later b1).later b2
        have HI3 := hid (hI2.gset hlt)
        have HG2 : Hid (gmx l (i + 1) = max (gmx l i) e1) := HG1.out
        have f0 := hI2.rg.free i
        have k0 : ((wr.alloc (.cells #[.int .i64 e0, .int .i64 e1, .int .i64 e2] 75)).alloc (.cells #[.int .i64 e0, .int .i64 e1, .int .i64 e2] 75)).cell? ⟨G, i, none⟩ = some (.int .i64 0) := (hI2.rg.cell i).trans (by unfold rowG; simp [hlt])
        have HCb : Hid (∀ W, Calls Try.prog 36 #[.agg #[.int .i64 e0, .int .i64 e1, .int .i64 e2]] W fun e w' => e = .returned (.int .i64 e1) ∧ w' = W.alloc (.cells #[.int .i64 e0, .int .i64 e1, .int .i64 e2] 75)) := fun W => begin_any (e0, e1, e2) W
        generalize gmx l i = z0 at *
        clear hc c0 c1 c2 hx HG1 b1 b2 hI2
        gi_wp2_with (refine ⟨trivial, ?_⟩; gi_at_call 36; (with_reducible_and_instances (refine (callsIn_wide.2 (HCb.out _)).mono ?_)); rintro e w2 ⟨rfl, hw2⟩; obtain rfl := hw2.symm)
        exact ⟨⟨i + 1, by omega, by go_num, by rw [HG2.out], by have h := HI3.out; rw [HG2.out] at h; exact h⟩, by simp [intOf]; omega⟩
      · obtain rfl : m = i := by omega
        obtain ⟨X0, rfl⟩ : ∃ q, q = wr := ⟨wr, rfl⟩
        gi_wp2_with (refine ⟨trivial, ?_⟩; gi_at_call 44; (with_reducible_and_instances (refine (callsIn_wide.2 (back_any a m c _)).mono ?_)); rintro e w2 ⟨rfl, hw2⟩; obtain rfl := hw2.symm)
        have hXs : w.heap.size + 5 ≤ X0.heap.size := HI.out.size.1
        have hx0 : RowKit.Below X0.heap.size X0 (X0.alloc (.cells #[.slice a m c] 55)) := (Below.refl _ _).alloc (Nat.le_refl _) _
        have hAx : ArgK kSt (X0.alloc (.cells #[.slice a m c] 55)) l a m c := (HA.out.later HI.out.below).later hx0
        have hs0 : (X0.alloc (.cells #[.slice a m c] 55)).heap.size = X0.heap.size + 1 := by simp
        have hgb : Blk (X0.alloc (.cells #[.slice a m c] 55)) X0.heap.size #[.slice a m c] 55 := heap_alloc_new X0 _
        obtain ⟨Gs, g1, g2, g3⟩ : ∃ Gs : List Nat, X0.heap.size ∈ Gs ∧ (∀ b off, a = some ⟨b, off, none⟩ → m ≠ 0 → b ∈ Gs) ∧ ∀ g ∈ Gs, g = X0.heap.size ∨ g < w.heap.size := by
          by_cases h0 : m = 0
          · exact ⟨[X0.heap.size], by simp, fun b off e hn => absurd h0 hn, fun g hg => by simp at hg; exact Or.inl hg⟩
          · obtain ⟨b, off, rfl, hb, -⟩ := HA.out.cells (by omega)
            exact ⟨[X0.heap.size, b], by simp, fun b' o' e _ => by injection e with e; injection e with e1 e2; simp [e1], fun g hg => by
              simp at hg
              rcases hg with rfl | rfl
              · exact Or.inl rfl
              · exact Or.inr hb⟩
        have HSq := hid (back_seq (K := fun _ _ => True) hAx X0.heap.size Gs (hgb.cell 0) g1 g2 (fun g hg => by have := g3 g hg; omega))
        have HGs : Hid (∀ g ∈ Gs, g = X0.heap.size ∨ g < w.heap.size) := g3
        have HI1 : Hid (SdI w G L X0.heap.size l m m (m - 0) (X0.alloc (.cells #[.slice a m c] 55))) := by
          have h := HI.out.later hx0
          exact ⟨h.rg, h.rl, h.bf, h.bs, h.bn, h.below, h.num, ⟨by omega, hXs⟩⟩
        have HLm : Hid (l.length = m) := HA.out.len
        have HXs := hid hXs
        clear hXs hx0 hAx hgb g1 g2 g3 HI HA
        refine range_A (X0.heap.size + 1) hs0 (gf := 49) rfl enters_back HSq.out (fun h k => h.trans k) ?kb (fun k Z => SdI w G L X0.heap.size l m m (m - k) Z) (fun _ _ => False) ?hI ?hIx (fun _ _ _ => trivial) ?h0 ?hps
          (fun args X => { tmps := #[.slice a m c, .func (.func 36) #[] #[], .func (.func 37) #[] #[], undef, undef, .pointer (some ⟨w.heap.size, 0, none⟩), .slice (some ⟨G, 0, none⟩) m m, .pointer (some ⟨w.heap.size + 1, 0, none⟩), .int .i64 (gmx l m), .pointer (some ⟨Z.heap.size, 0, none⟩), u10, u11, args.getD 0 undef, .pointer (some ⟨X.heap.size, 0, none⟩), .slice a m c, .int .i64 (m : Int), .slice (some ⟨G, 0, none⟩) m m, .slice a m c, .int .i64 (m : Int), .slice (some ⟨L, 0, none⟩) m m, .slice a m c, .int .i64 (m : Int), .int .i64 (m : Int), .bool false, u24, u25, u26, u27, u28, u29, u30, u31, u32, u33, u34, u35, u36, .slice a m c, .func (.func 49) #[] #[.pointer (some ⟨X0.heap.size, 0, none⟩)], args.getD 0 undef, args.getD 1 undef, undef, undef, undef, undef, undef, undef, undef, undef, undef, undef, undef], defers := [] })
          (fun args X => X.alloc (.cells (match args.getD 1 undef with | .agg cs => cs | _ => #[]) 75)) ?hx1 ?hKa ?assign ?body ?done ?stop
        case kb => exact fun Z o hZ => ⟨by simp, fun g hg => World.putObj_heap_other (by have h1 := HGs.out g hg; have h2 := HXs.out; omega)⟩
        case hI => exact fun k Z Z' h1 hc => h1.chg hc (fun g hg => by simp at hg; omega)
        case hIx => exact fun k Z Z' h1 hc => h1
        case h0 => exact HI1.out
        case hps =>
          rintro k args X ⟨_, rfl⟩
          rfl
        case hx1 => exact fun k args X _ => (Below.refl _ _).alloc (Nat.le_refl _) _
        case hKa => exact fun k args X _ hX => Kg.below ((Below.refl _ _).alloc (Nat.le_refl _) _) (fun g hg => by have h1 := HGs.out g hg; have h2 := HXs.out; omega)
        case assign =>
          rintro q k args X K ⟨hk, rfl⟩ hK
          clear HSq HI1 HGs
          generalize l.getD (m - 1 - k) st0 = d at *
          gi_wp2
          exact hK
        case body =>
          rintro q k args X Y hk hX hI ⟨hkm, rfl⟩ hc hsz
          clear HSq HI1
          obtain ⟨j, hj⟩ : ∃ j, m - 1 - k = j := ⟨_, rfl⟩
          rw [show m - k = j + 1 by omega] at hI
          rw [hj] at hc hsz ⊢
          have hjm : j < m := by omega
          have hmin := lmn_succ (l := l) (i := j) (by rw [HLm.out]; exact hjm)
          obtain ⟨d, hd⟩ : ∃ d, l.getD j st0 = d := ⟨_, rfl⟩
          rw [hd] at hc hsz hmin ⊢
          obtain ⟨e0, e1, e2⟩ := d
          dsimp only at hc hsz hmin ⊢
          have hbx : Blk (X.alloc (.cells #[.int .i64 e0, .int .i64 e1, .int .i64 e2] 75)) X.heap.size _ _ := heap_alloc_new X _
          have hby := hbx.chg hc (by simp; omega)
          have hIY := (hI.later ((Below.refl _ _).alloc (Nat.le_refl _) (.cells #[.int .i64 e0, .int .i64 e1, .int .i64 e2] 75))).chg hc (fun g hg => by simp at hg; omega)
          have c0 : Y.cell? ⟨X.heap.size, 0, none⟩ = some (.int .i64 e0) := hby.cell 0
          have c1 : Y.cell? ⟨X.heap.size, 1, none⟩ = some (.int .i64 e1) := hby.cell 1
          have c2 : Y.cell? ⟨X.heap.size, 2, none⟩ = some (.int .i64 e2) := hby.cell 2
          have a0 : Y.cell? ⟨Z.heap.size, 0, none⟩ = some (.int .i64 (lmn l (j + 1))) := by rw [HZs.out]; exact hIY.bn.cell 0
          have a1 : Y.cell? ⟨w.heap.size, 0, none⟩ = some (.func (.func 37) #[] #[]) := hIY.bf.cell 0
          have HCe : Hid (∀ W, Calls Try.prog 37 #[.agg #[.int .i64 e0, .int .i64 e1, .int .i64 e2]] W fun e w' => e = .returned (.int .i64 e2) ∧ w' = W.alloc (.cells #[.int .i64 e0, .int .i64 e1, .int .i64 e2] 75)) := fun W => end_any (e0, e1, e2) W
          obtain ⟨V, hV⟩ : ∃ V, Y.alloc (.cells #[.int .i64 e0, .int .i64 e1, .int .i64 e2] 75) = V := ⟨_, rfl⟩
          have hYV : Chg [] Y V := by rw [← hV]; exact Chg.of (F := []) ((Below.refl _ _).alloc (Nat.le_refl _) _)
          have hIV := hIY.chg hYV (fun b hb => by cases hb)
          have f0 : V.frozen? ⟨Z.heap.size, 0, none⟩ = false := by rw [HZs.out]; exact hIV.bn.free 0
          have v0 : V.cell? ⟨Z.heap.size, 0, none⟩ = some (.int .i64 (lmn l (j + 1))) := by rw [HZs.out]; exact hIV.bn.cell 0
          have hne := HNm.out
          have hv : lmn l j = min (lmn l (j + 1)) e2 := hmin
          have hW := hIV.lset hjm
          have m1 := hIV.rl.other (by omega : L ≠ w.heap.size + 4) 0 (.int .i64 (min (lmn l (j + 1)) e2))
          have m2 := hIV.bs.other (by omega : w.heap.size + 1 ≠ w.heap.size + 4) 0 (.int .i64 (min (lmn l (j + 1)) e2))
          have m3 := hIV.bn.set 0 (.int .i64 (min (lmn l (j + 1)) e2))
          rw [hv] at hW
          rw [← HZs.out] at m1 m2 m3 hW
          have s1 : (V.setCell ⟨Z.heap.size, 0, none⟩ (.int .i64 (min (lmn l (j + 1)) e2))).cell? ⟨w.heap.size + 1, 0, none⟩ = some (.slice (some ⟨L, 0, none⟩) m m) := m2.cell 0
          have s2 : (V.setCell ⟨Z.heap.size, 0, none⟩ (.int .i64 (min (lmn l (j + 1)) e2))).cell? ⟨Z.heap.size, 0, none⟩ = some (.int .i64 (min (lmn l (j + 1)) e2)) := m3.cell 0
          have s3 : (V.setCell ⟨Z.heap.size, 0, none⟩ (.int .i64 (min (lmn l (j + 1)) e2))).cell? ⟨L, j, none⟩ = some (.int .i64 0) := (m1.cell j).trans (by unfold rowL; simp [hjm])
          have s4 := m1.free j
          have HFin : Hid (∀ Z', Chg [] ((V.setCell ⟨Z.heap.size, 0, none⟩ (.int .i64 (min (lmn l (j + 1)) e2))).setCell ⟨L, j, none⟩ (.int .i64 (min (lmn l (j + 1)) e2))) Z' → (Z'.heap[X0.heap.size + 1]? = Y.heap[X0.heap.size + 1]? ∧ Z'.heap[X0.heap.size + 1 + 1]? = Y.heap[X0.heap.size + 1 + 1]?) ∧ Kg Gs Y Z' ∧ SdI w G L X0.heap.size l m m (m - (k + 1)) Z') := fun Z' hZ' => by
            have hst : Chg [Z.heap.size, L] Y Z' := (((hYV.mono (G := [Z.heap.size, L]) (fun k hk => by cases hk)).set (Or.inl (by simp)) 0 _).set (Or.inl (by simp)) j _).trans hZ' (fun k hk => by cases hk)
            have hXY : X.heap.size ≤ Y.heap.size := by rw [hsz, World.size_alloc]; omega
            have hz := HZs.out
            have hxs := HXs.out
            refine ⟨⟨hst.block _ (by omega) (by simp; omega), hst.block _ (by omega) (by simp; omega)⟩, ⟨hst.size, fun g hg => hst.block g (by have := HGs.out g hg; omega) (by have := HGs.out g hg; simp; omega)⟩, ?_⟩
            rw [show m - (k + 1) = j by omega]
            exact hW.chg hZ' (fun b hb => by cases hb)
          rw [← hV] at f0 v0 s1 s2 s3 s4 HFin
          clear hI hc hsz hmin hd hbx hby hIY hIV hYV hV hW m1 m2 m3 hv hne
          gi_wp2
          gi_region_with (refine ⟨trivial, ?_⟩; gi_at_call 37; (with_reducible_and_instances (refine (CallsIn.inRound q (callsIn_wide.2 (HCe.out _))).mono ?_)); rintro e w5 ⟨rfl, hw5⟩; obtain rfl := hw5.symm)
          all_goals
            gi_wp2
            exact HFin.out _ (by first | exact Chg.refl _ _ | exact (Chg.refl _ _).drew)
        case done =>
          rintro X hX hI hD
          rw [Nat.sub_self] at hI
          have c5 : X.cell? ⟨w.heap.size + 1, 0, none⟩ = some (.slice (some ⟨L, 0, none⟩) m m) := hI.bs.cell 0
          have f5 : X.frozen? ⟨w.heap.size + 1, 0, none⟩ = false := hI.bs.free 0
          have HI := hid hI
          have HD := hid hD
          clear hI hD HSq HI1
          gi_wp2
          gi_region
          all_goals
            gi_wp2
            have hne := HNm.out
            have hxs := HXs.out
            have hst : Chg [w.heap.size + 1] X (X.setCell ⟨w.heap.size + 1, 0, none⟩ (.slice (some ⟨L, 0, none⟩) m m)).drew := ((Chg.refl _ X).set (Or.inl (by simp)) _ _).drew
            have hDf := (hst.block _ (Array.getElem?_eq_some_iff.1 HD.out).1 (by simp; omega)).trans HD.out
            have hrg := HI.out.rg.chg hst (by simp; omega)
            have hrl := HI.out.rl.chg hst (by simp; omega)
            have hbs : Blk (X.setCell ⟨w.heap.size + 1, 0, none⟩ (.slice (some ⟨L, 0, none⟩) m m)).drew (w.heap.size + 1) #[.slice (some ⟨L, 0, none⟩) m m] 40 := HI.out.bs.set 0 _
            have hbl : RowKit.Below w.heap.size w (X.setCell ⟨w.heap.size + 1, 0, none⟩ (.slice (some ⟨L, 0, none⟩) m m)).drew := (HI.out.below.setCell (p := ⟨w.heap.size + 1, 0, none⟩) (by show w.heap.size ≤ w.heap.size + 1; omega) _).drew
            generalize (X.setCell ⟨w.heap.size + 1, 0, none⟩ (.slice (some ⟨L, 0, none⟩) m m)).drew = W4 at *
            have hpc : Chg [X0.heap.size + 1, X0.heap.size + 1 + 1] W4 (W4.putObj (X0.heap.size + 1) (.deferred none)) := putObj_chg W4 _ _ _ (Or.inl rfl)
            have r1 : (W4.putObj (X0.heap.size + 1) (.deferred none)).cell? ⟨w.heap.size + 1, 0, none⟩ = some (.slice (some ⟨L, 0, none⟩) m m) := (hbs.chg hpc (by simp; omega)).cell 0
            refine ⟨by simp, .inl ⟨_, _, rfl, run_takeDeferred hDf, ?_⟩⟩
            refine ⟨.tuple #[.slice (some ⟨G, 0, none⟩) m m, .slice (some ⟨L, 0, none⟩) m m], by simp [results, Try.results35, go_sem, r1], G, L, rfl, hrg.chg hpc (by simp; omega), hrl.chg hpc (by simp; omega), ?_⟩
            exact hbl.trans (hpc.below (by intro g hg; simp at hg; omega) hbl.size)
        case stop => exact fun k X hk h => h.elim
  · obtain ⟨G, hG⟩ : ∃ G, w.heap.size + 1 + 1 + 1 = G := ⟨_, rfl⟩
    obtain ⟨L, hL⟩ : ∃ L, w.heap.size + 1 + 1 = L := ⟨_, rfl⟩
    rw [hG, hL]
    obtain ⟨Z, hZ⟩ : ∃ Z, ((((w.alloc (.cells #[.func (.func 37) #[] #[]] 76)).alloc (.cells #[.slice (some ⟨L, 0, none⟩) m m] 40)).alloc (.cells (zeros m) 3)).alloc (.cells (zeros m) 3)).drew = Z := ⟨_, rfl⟩
    have hI0 : SdI w G L (w.heap.size + 5) l m 0 m (Z.alloc (.cells #[.int .i64 9223372036854775807] 3)) := by
      obtain ⟨f0, f1, f2, f3, f4, f5⟩ := four_new w (.cells #[.func (.func 37) #[] #[]] 76) (.cells #[.slice (some ⟨L, 0, none⟩) m m] 40) (.cells (zeros m) 3) (.cells (zeros m) 3)
      rw [hZ] at f0 f1 f2 f3 f4 f5
      have hb : RowKit.Below Z.heap.size Z (Z.alloc (.cells #[.int .i64 9223372036854775807] 3)) := (Below.refl _ _).alloc (Nat.le_refl _) _
      have g1 : Blk Z G (zeros m) 3 := by rw [← hG]; first | exact f2 | exact f3
      have g2 : Blk Z L (zeros m) 3 := by rw [← hL]; first | exact f2 | exact f3
      have e1 : lmn l m = 9223372036854775807 := by unfold lmn; rw [List.drop_of_length_le (by rw [HA.out.len]; exact Nat.le_refl _)]; rfl
      have hn : Blk (Z.alloc (.cells #[.int .i64 9223372036854775807] 3)) (w.heap.size + 4) #[.int .i64 9223372036854775807] 3 := by rw [← f5]; exact heap_alloc_new Z _
      refine ⟨by rw [rowG_zero]; exact g1.later hb, by rw [rowL_end]; exact g2.later hb, Blk.later (w := Z) f0 hb, Blk.later (w := Z) f1 hb, by rw [e1]; exact hn, f4.trans (hb.mono f4.size), by omega, by rw [World.size_alloc]; omega, Nat.le_refl _⟩
    have HI0 := hid hI0
    have HNm : Hid ((G = w.heap.size + 2 ∧ L = w.heap.size + 3) ∨ (G = w.heap.size + 3 ∧ L = w.heap.size + 2)) := hI0.num
    rw [hZ]
    have HZs : Hid (Z.heap.size = w.heap.size + 4) := by rw [← hZ]; exact (four_new w _ _ _ _).2.2.2.2.2
    clear hI0 hG hL hmk hZ
    gi_wp2
    gi_loopw [22, 8] (fun iv hv wr => ∃ i : Nat, i ≤ m ∧ iv = .int .i64 (i : Int) ∧ hv = .int .i64 (gmx l i) ∧ Hid (SdI w G L (w.heap.size + 5) l m i m wr)) (fun iv _ _ => m - (intOf iv).toNat)
    case atStart => exact ⟨0, by omega, rfl, rfl, HI0⟩
    case round =>
      obtain ⟨i, hi, rfl, rfl, HI⟩ := hrel
      clear HI0
      by_cases hlt : i < m
      · obtain ⟨b, off, rfl, hb, hc⟩ := (HA.out.later HI.out.below).cells (by omega)
        have c0 := hc i hlt 0 (by decide)
        have c1 := hc i hlt 1 (by decide)
        have c2 := hc i hlt 2 (by decide)
        have hcap := HA.out.cap
        have HG1 : Hid (gmx l (i + 1) = max (gmx l i) (l.getD i st0).2.1) := gmx_succ (by rw [HA.out.len]; exact hlt)
        obtain ⟨x, hx⟩ : ∃ x, l.getD i st0 = x := ⟨_, rfl⟩
        rw [show l.getD i kSt.z = l.getD i st0 from rfl, hx] at c0 c1 c2
        rw [hx] at HG1
        obtain ⟨e0, e1, e2⟩ := x
        have q0 : wr.cell? ⟨b, off + i * 3, none⟩ = some (.int .i64 e0) := c0
        have q1 : wr.cell? ⟨b, off + i * 3 + 1, none⟩ = some (.int .i64 e1) := c1
        have q2 : wr.cell? ⟨b, off + i * 3 + 2, none⟩ = some (.int .i64 e2) := c2
        have b1 : RowKit.Below wr.heap.size wr (wr.alloc (.cells #[.int .i64 e0, .int .i64 e1, .int .i64 e2] 75)) := (Below.refl _ _).alloc (Nat.le_refl _) _
        have b2 : RowKit.Below (wr.alloc (.cells #[.int .i64 e0, .int .i64 e1, .int .i64 e2] 75)).heap.size (wr.alloc (.cells #[.int .i64 e0, .int .i64 e1, .int .i64 e2] 75)) ((wr.alloc (.cells #[.int .i64 e0, .int .i64 e1, .int .i64 e2] 75)).alloc (.cells #[.int .i64 e0, .int .i64 e1, .int .i64 e2] 75)) := (Below.refl _ _).alloc (Nat.le_refl _) _
        have hI2 := (HI.out.later b1).later b2
        have HI3 := hid (hI2.gset hlt)
        have HG2 : Hid (gmx l (i + 1) = max (gmx l i) e1) := HG1.out
        have f0 := hI2.rg.free i
        have k0 : ((wr.alloc (.cells #[.int .i64 e0, .int .i64 e1, .int .i64 e2] 75)).alloc (.cells #[.int .i64 e0, .int .i64 e1, .int .i64 e2] 75)).cell? ⟨G, i, none⟩ = some (.int .i64 0) := (hI2.rg.cell i).trans (by unfold rowG; simp [hlt])
        have HCb : Hid (∀ W, Calls Try.prog 36 #[.agg #[.int .i64 e0, .int .i64 e1, .int .i64 e2]] W fun e w' => e = .returned (.int .i64 e1) ∧ w' = W.alloc (.cells #[.int .i64 e0, .int .i64 e1, .int .i64 e2] 75)) := fun W => begin_any (e0, e1, e2) W
        generalize gmx l i = z0 at *
        clear hc c0 c1 c2 hx HG1 b1 b2 hI2
        gi_wp2_with (refine ⟨trivial, ?_⟩; gi_at_call 36; (with_reducible_and_instances (refine (callsIn_wide.2 (HCb.out _)).mono ?_)); rintro e w2 ⟨rfl, hw2⟩; obtain rfl := hw2.symm)
        exact ⟨⟨i + 1, by omega, by go_num, by rw [HG2.out], by have h := HI3.out; rw [HG2.out] at h; exact h⟩, by simp [intOf]; omega⟩
      · obtain rfl : m = i := by omega
        obtain ⟨X0, rfl⟩ : ∃ q, q = wr := ⟨wr, rfl⟩
        gi_wp2_with (refine ⟨trivial, ?_⟩; gi_at_call 44; (with_reducible_and_instances (refine (callsIn_wide.2 (back_any a m c _)).mono ?_)); rintro e w2 ⟨rfl, hw2⟩; obtain rfl := hw2.symm)
        have hXs : w.heap.size + 5 ≤ X0.heap.size := HI.out.size.1
        have hx0 : RowKit.Below X0.heap.size X0 (X0.alloc (.cells #[.slice a m c] 55)) := (Below.refl _ _).alloc (Nat.le_refl _) _
        have hAx : ArgK kSt (X0.alloc (.cells #[.slice a m c] 55)) l a m c := (HA.out.later HI.out.below).later hx0
        have hs0 : (X0.alloc (.cells #[.slice a m c] 55)).heap.size = X0.heap.size + 1 := by simp
        have hgb : Blk (X0.alloc (.cells #[.slice a m c] 55)) X0.heap.size #[.slice a m c] 55 := heap_alloc_new X0 _
        obtain ⟨Gs, g1, g2, g3⟩ : ∃ Gs : List Nat, X0.heap.size ∈ Gs ∧ (∀ b off, a = some ⟨b, off, none⟩ → m ≠ 0 → b ∈ Gs) ∧ ∀ g ∈ Gs, g = X0.heap.size ∨ g < w.heap.size := by
          by_cases h0 : m = 0
          · exact ⟨[X0.heap.size], by simp, fun b off e hn => absurd h0 hn, fun g hg => by simp at hg; exact Or.inl hg⟩
          · obtain ⟨b, off, rfl, hb, -⟩ := HA.out.cells (by omega)
            exact ⟨[X0.heap.size, b], by simp, fun b' o' e _ => by injection e with e; injection e with e1 e2; simp [e1], fun g hg => by
              simp at hg
              rcases hg with rfl | rfl
              · exact Or.inl rfl
              · exact Or.inr hb⟩
        have HSq := hid (back_seq (K := fun _ _ => True) hAx X0.heap.size Gs (hgb.cell 0) g1 g2 (fun g hg => by have := g3 g hg; omega))
        have HGs : Hid (∀ g ∈ Gs, g = X0.heap.size ∨ g < w.heap.size) := g3
        have HI1 : Hid (SdI w G L X0.heap.size l m m (m - 0) (X0.alloc (.cells #[.slice a m c] 55))) := by
          have h := HI.out.later hx0
          exact ⟨h.rg, h.rl, h.bf, h.bs, h.bn, h.below, h.num, ⟨by omega, hXs⟩⟩
        have HLm : Hid (l.length = m) := HA.out.len
        have HXs := hid hXs
        clear hXs hx0 hAx hgb g1 g2 g3 HI HA
        refine range_A (X0.heap.size + 1) hs0 (gf := 49) rfl enters_back HSq.out (fun h k => h.trans k) ?kb (fun k Z => SdI w G L X0.heap.size l m m (m - k) Z) (fun _ _ => False) ?hI ?hIx (fun _ _ _ => trivial) ?h0 ?hps
          (fun args X => { tmps := #[.slice a m c, .func (.func 36) #[] #[], .func (.func 37) #[] #[], undef, undef, .pointer (some ⟨w.heap.size, 0, none⟩), .slice (some ⟨G, 0, none⟩) m m, .pointer (some ⟨w.heap.size + 1, 0, none⟩), .int .i64 (gmx l m), .pointer (some ⟨Z.heap.size, 0, none⟩), u10, u11, args.getD 0 undef, .pointer (some ⟨X.heap.size, 0, none⟩), .slice a m c, .int .i64 (m : Int), .slice (some ⟨G, 0, none⟩) m m, .slice a m c, .int .i64 (m : Int), .slice (some ⟨L, 0, none⟩) m m, .slice a m c, .int .i64 (m : Int), .int .i64 (m : Int), .bool false, u24, u25, u26, u27, u28, u29, u30, u31, u32, u33, u34, u35, u36, .slice a m c, .func (.func 49) #[] #[.pointer (some ⟨X0.heap.size, 0, none⟩)], args.getD 0 undef, args.getD 1 undef, undef, undef, undef, undef, undef, undef, undef, undef, undef, undef, undef], defers := [] })
          (fun args X => X.alloc (.cells (match args.getD 1 undef with | .agg cs => cs | _ => #[]) 75)) ?hx1 ?hKa ?assign ?body ?done ?stop
        case kb => exact fun Z o hZ => ⟨by simp, fun g hg => World.putObj_heap_other (by have h1 := HGs.out g hg; have h2 := HXs.out; omega)⟩
        case hI => exact fun k Z Z' h1 hc => h1.chg hc (fun g hg => by simp at hg; omega)
        case hIx => exact fun k Z Z' h1 hc => h1
        case h0 => exact HI1.out
        case hps =>
          rintro k args X ⟨_, rfl⟩
          rfl
        case hx1 => exact fun k args X _ => (Below.refl _ _).alloc (Nat.le_refl _) _
        case hKa => exact fun k args X _ hX => Kg.below ((Below.refl _ _).alloc (Nat.le_refl _) _) (fun g hg => by have h1 := HGs.out g hg; have h2 := HXs.out; omega)
        case assign =>
          rintro q k args X K ⟨hk, rfl⟩ hK
          clear HSq HI1 HGs
          generalize l.getD (m - 1 - k) st0 = d at *
          gi_wp2
          exact hK
        case body =>
          rintro q k args X Y hk hX hI ⟨hkm, rfl⟩ hc hsz
          clear HSq HI1
          obtain ⟨j, hj⟩ : ∃ j, m - 1 - k = j := ⟨_, rfl⟩
          rw [show m - k = j + 1 by omega] at hI
          rw [hj] at hc hsz ⊢
          have hjm : j < m := by omega
          have hmin := lmn_succ (l := l) (i := j) (by rw [HLm.out]; exact hjm)
          obtain ⟨d, hd⟩ : ∃ d, l.getD j st0 = d := ⟨_, rfl⟩
          rw [hd] at hc hsz hmin ⊢
          obtain ⟨e0, e1, e2⟩ := d
          dsimp only at hc hsz hmin ⊢
          have hbx : Blk (X.alloc (.cells #[.int .i64 e0, .int .i64 e1, .int .i64 e2] 75)) X.heap.size _ _ := heap_alloc_new X _
          have hby := hbx.chg hc (by simp; omega)
          have hIY := (hI.later ((Below.refl _ _).alloc (Nat.le_refl _) (.cells #[.int .i64 e0, .int .i64 e1, .int .i64 e2] 75))).chg hc (fun g hg => by simp at hg; omega)
          have c0 : Y.cell? ⟨X.heap.size, 0, none⟩ = some (.int .i64 e0) := hby.cell 0
          have c1 : Y.cell? ⟨X.heap.size, 1, none⟩ = some (.int .i64 e1) := hby.cell 1
          have c2 : Y.cell? ⟨X.heap.size, 2, none⟩ = some (.int .i64 e2) := hby.cell 2
          have a0 : Y.cell? ⟨Z.heap.size, 0, none⟩ = some (.int .i64 (lmn l (j + 1))) := by rw [HZs.out]; exact hIY.bn.cell 0
          have a1 : Y.cell? ⟨w.heap.size, 0, none⟩ = some (.func (.func 37) #[] #[]) := hIY.bf.cell 0
          have HCe : Hid (∀ W, Calls Try.prog 37 #[.agg #[.int .i64 e0, .int .i64 e1, .int .i64 e2]] W fun e w' => e = .returned (.int .i64 e2) ∧ w' = W.alloc (.cells #[.int .i64 e0, .int .i64 e1, .int .i64 e2] 75)) := fun W => end_any (e0, e1, e2) W
          obtain ⟨V, hV⟩ : ∃ V, Y.alloc (.cells #[.int .i64 e0, .int .i64 e1, .int .i64 e2] 75) = V := ⟨_, rfl⟩
          have hYV : Chg [] Y V := by rw [← hV]; exact Chg.of (F := []) ((Below.refl _ _).alloc (Nat.le_refl _) _)
          have hIV := hIY.chg hYV (fun b hb => by cases hb)
          have f0 : V.frozen? ⟨Z.heap.size, 0, none⟩ = false := by rw [HZs.out]; exact hIV.bn.free 0
          have v0 : V.cell? ⟨Z.heap.size, 0, none⟩ = some (.int .i64 (lmn l (j + 1))) := by rw [HZs.out]; exact hIV.bn.cell 0
          have hne := HNm.out
          have hv : lmn l j = min (lmn l (j + 1)) e2 := hmin
          have hW := hIV.lset hjm
          have m1 := hIV.rl.other (by omega : L ≠ w.heap.size + 4) 0 (.int .i64 (min (lmn l (j + 1)) e2))
          have m2 := hIV.bs.other (by omega : w.heap.size + 1 ≠ w.heap.size + 4) 0 (.int .i64 (min (lmn l (j + 1)) e2))
          have m3 := hIV.bn.set 0 (.int .i64 (min (lmn l (j + 1)) e2))
          rw [hv] at hW
          rw [← HZs.out] at m1 m2 m3 hW
          have s1 : (V.setCell ⟨Z.heap.size, 0, none⟩ (.int .i64 (min (lmn l (j + 1)) e2))).cell? ⟨w.heap.size + 1, 0, none⟩ = some (.slice (some ⟨L, 0, none⟩) m m) := m2.cell 0
          have s2 : (V.setCell ⟨Z.heap.size, 0, none⟩ (.int .i64 (min (lmn l (j + 1)) e2))).cell? ⟨Z.heap.size, 0, none⟩ = some (.int .i64 (min (lmn l (j + 1)) e2)) := m3.cell 0
          have s3 : (V.setCell ⟨Z.heap.size, 0, none⟩ (.int .i64 (min (lmn l (j + 1)) e2))).cell? ⟨L, j, none⟩ = some (.int .i64 0) := (m1.cell j).trans (by unfold rowL; simp [hjm])
          have s4 := m1.free j
          have HFin : Hid (∀ Z', Chg [] ((V.setCell ⟨Z.heap.size, 0, none⟩ (.int .i64 (min (lmn l (j + 1)) e2))).setCell ⟨L, j, none⟩ (.int .i64 (min (lmn l (j + 1)) e2))) Z' → (Z'.heap[X0.heap.size + 1]? = Y.heap[X0.heap.size + 1]? ∧ Z'.heap[X0.heap.size + 1 + 1]? = Y.heap[X0.heap.size + 1 + 1]?) ∧ Kg Gs Y Z' ∧ SdI w G L X0.heap.size l m m (m - (k + 1)) Z') := fun Z' hZ' => by
            have hst : Chg [Z.heap.size, L] Y Z' := (((hYV.mono (G := [Z.heap.size, L]) (fun k hk => by cases hk)).set (Or.inl (by simp)) 0 _).set (Or.inl (by simp)) j _).trans hZ' (fun k hk => by cases hk)
            have hXY : X.heap.size ≤ Y.heap.size := by rw [hsz, World.size_alloc]; omega
            have hz := HZs.out
            have hxs := HXs.out
            refine ⟨⟨hst.block _ (by omega) (by simp; omega), hst.block _ (by omega) (by simp; omega)⟩, ⟨hst.size, fun g hg => hst.block g (by have := HGs.out g hg; omega) (by have := HGs.out g hg; simp; omega)⟩, ?_⟩
            rw [show m - (k + 1) = j by omega]
            exact hW.chg hZ' (fun b hb => by cases hb)
          rw [← hV] at f0 v0 s1 s2 s3 s4 HFin
          clear hI hc hsz hmin hd hbx hby hIY hIV hYV hV hW m1 m2 m3 hv hne
          gi_wp2
          gi_region_with (refine ⟨trivial, ?_⟩; gi_at_call 37; (with_reducible_and_instances (refine (CallsIn.inRound q (callsIn_wide.2 (HCe.out _))).mono ?_)); rintro e w5 ⟨rfl, hw5⟩; obtain rfl := hw5.symm)
          all_goals
            gi_wp2
            exact HFin.out _ (by first | exact Chg.refl _ _ | exact (Chg.refl _ _).drew)
        case done =>
          rintro X hX hI hD
          rw [Nat.sub_self] at hI
          have c5 : X.cell? ⟨w.heap.size + 1, 0, none⟩ = some (.slice (some ⟨L, 0, none⟩) m m) := hI.bs.cell 0
          have f5 : X.frozen? ⟨w.heap.size + 1, 0, none⟩ = false := hI.bs.free 0
          have HI := hid hI
          have HD := hid hD
          clear hI hD HSq HI1
          gi_wp2
          gi_region
          all_goals
            gi_wp2
            have hne := HNm.out
            have hxs := HXs.out
            have hst : Chg [w.heap.size + 1] X (X.setCell ⟨w.heap.size + 1, 0, none⟩ (.slice (some ⟨L, 0, none⟩) m m)).drew := ((Chg.refl _ X).set (Or.inl (by simp)) _ _).drew
            have hDf := (hst.block _ (Array.getElem?_eq_some_iff.1 HD.out).1 (by simp; omega)).trans HD.out
            have hrg := HI.out.rg.chg hst (by simp; omega)
            have hrl := HI.out.rl.chg hst (by simp; omega)
            have hbs : Blk (X.setCell ⟨w.heap.size + 1, 0, none⟩ (.slice (some ⟨L, 0, none⟩) m m)).drew (w.heap.size + 1) #[.slice (some ⟨L, 0, none⟩) m m] 40 := HI.out.bs.set 0 _
            have hbl : RowKit.Below w.heap.size w (X.setCell ⟨w.heap.size + 1, 0, none⟩ (.slice (some ⟨L, 0, none⟩) m m)).drew := (HI.out.below.setCell (p := ⟨w.heap.size + 1, 0, none⟩) (by show w.heap.size ≤ w.heap.size + 1; omega) _).drew
            generalize (X.setCell ⟨w.heap.size + 1, 0, none⟩ (.slice (some ⟨L, 0, none⟩) m m)).drew = W4 at *
            have hpc : Chg [X0.heap.size + 1, X0.heap.size + 1 + 1] W4 (W4.putObj (X0.heap.size + 1) (.deferred none)) := putObj_chg W4 _ _ _ (Or.inl rfl)
            have r1 : (W4.putObj (X0.heap.size + 1) (.deferred none)).cell? ⟨w.heap.size + 1, 0, none⟩ = some (.slice (some ⟨L, 0, none⟩) m m) := (hbs.chg hpc (by simp; omega)).cell 0
            refine ⟨by simp, .inl ⟨_, _, rfl, run_takeDeferred hDf, ?_⟩⟩
            refine ⟨.tuple #[.slice (some ⟨G, 0, none⟩) m m, .slice (some ⟨L, 0, none⟩) m m], by simp [results, Try.results35, go_sem, r1], G, L, rfl, hrg.chg hpc (by simp; omega), hrl.chg hpc (by simp; omega), ?_⟩
            exact hbl.trans (hpc.below (by intro g hg; simp at hg; omega) hbl.size)
        case stop => exact fun k X hk h => h.elim
end Go.Proofs.Ytpjemifoilbjeaa
