/- whoHad of package assign. -/
import Derived.Test.YtakpdhmfbgfblaaAHad1
namespace Go.Proofs.Ytakpdhmfbgfblaa
open Go.RowKit Go.Shelf
attribute [local go_sem] Oper.semAt_some
variable {w w' : World} {oa : Option Addr} {om oc : Nat} {A : List ShA} {P : List (List Int)}

/-- Shares that came in. -/
structure OldA (w : World) (A : List ShA) (P : List (List Int)) (oa : Option Addr) (om oc : Nat) : Prop where
  row : ArgK kSh w A oa om oc
  len : A.length = P.length
  part : ∀ i, i < A.length → ArgK kZ w (P.getD i []) (A.getD i sh0).2.ad (A.getD i sh0).2.m (A.getD i sh0).2.c
  names : ∀ i, i < A.length → (A.getD i sh0).1.length ≤ maxLen
theorem OldA.later (h : OldA w A P oa om oc) (hb : Below w.heap.size w w') : OldA w' A P oa om oc := ⟨h.row.later hb, h.len, fun i hi => (h.part i hi).later hb, h.names⟩
/-- What whoHad keeps while it lists. -/
structure LiI (w : World) (A : List ShA) (m k : Nat) (Z : World) : Prop where
  below : Below w.heap.size w Z
  map : MapF Z 9 w.heap.size k (lstF (A.drop (m - k)))
  box : Blk Z (w.heap.size + 1) #[.map (some w.heap.size)] TMp
theorem LiI.chg {m k : Nat} {Z Z' : World} {F : List Nat} (h : LiI w A m k Z) (hc : Chg F Z Z') (hF : ∀ g ∈ F, w.heap.size + 2 ≤ g) : LiI w A m k Z' := by
  refine ⟨⟨hc.os.trans h.below.os, hc.tape.trans h.below.tape, hc.output.trans h.below.output, Nat.le_trans h.below.size hc.size, fun k hk => (hc.block k (Nat.lt_of_lt_of_le hk h.below.size) (fun hm => by have := hF _ hm; omega)).trans (h.below.block k hk)⟩, h.map.keep (hc.block _ h.map.lt (fun hm => by have := hF _ hm; omega)), h.box.chg hc (fun hm => by have := hF _ hm; omega)⟩
theorem getD_app_left {α : Type} (l k : List α) (z : α) (i : Nat) (h : i < l.length) : (l ++ k).getD i z = l.getD i z := by rw [List.getD_eq_getElem?_getD, List.getElem?_append_left h, ← List.getD_eq_getElem?_getD]
theorem getD_app_last {α : Type} (l : List α) (x z : α) (i : Nat) (h : i = l.length) : (l ++ [x]).getD i z = x := by rw [List.getD_eq_getElem?_getD, h, List.getElem?_append_right (Nat.le_refl _)]; simp
/-- One name more: what is left of the deck, and what each had. -/
def hadS (ns : List Nm) (P : List (List Int)) (s : List Int × List (List Int)) (nm : Nm) : List Int × List (List Int) := ((pickN s.1 (lstd ns P nm)).1, s.2 ++ [risZ (pickN s.1 (lstd ns P nm)).2])
def hadN (ns : List Nm) (P : List (List Int)) (xs : List Int) (names : List Nm) : List Int × List (List Int) := names.foldl (hadS ns P) (xs, [])
theorem hadN_snoc (ns : List Nm) (P : List (List Int)) (xs : List Int) (names : List Nm) (nm : Nm) : hadN ns P xs (names ++ [nm]) = hadS ns P (hadN ns P xs names) nm := by unfold hadN; rw [List.foldl_append]; rfl
theorem fold_inv (ns : List Nm) (P : List (List Int)) : ∀ (names : List Nm) (s : List Int × List (List Int)), s.1.Pairwise (· < ·) → (names.foldl (hadS ns P) s).1.Pairwise (· < ·) ∧ (names.foldl (hadS ns P) s).1.length ≤ s.1.length ∧ (names.foldl (hadS ns P) s).2.length = s.2.length + names.length
  | [], s, h => ⟨h, Nat.le_refl _, rfl⟩
  | nm :: names, s, h => by
    obtain ⟨h1, h2, h3⟩ := fold_inv ns P names (hadS ns P s nm) (pickN_rise _ _ h)
    refine ⟨h1, Nat.le_trans h2 ?_, ?_⟩
    · have := pickN_len s.1 (lstd ns P nm); show (pickN s.1 (lstd ns P nm)).1.length ≤ _; omega
    · rw [List.foldl_cons, h3]; show (s.2 ++ [_]).length + _ = _; rw [List.length_append, List.length_cons]; simp; omega
theorem hadN_inv (ns : List Nm) (P : List (List Int)) (p : Nat) (names : List Nm) : (hadN ns P (allP p) names).1.Pairwise (· < ·) ∧ (hadN ns P (allP p) names).1.length ≤ p ∧ (hadN ns P (allP p) names).2.length = names.length := by
  obtain ⟨h1, h2, h3⟩ := fold_inv ns P names (allP p, []) (allP_rise p)
  rw [show ((allP p, []) : List Int × List (List Int)).1.length = p from allP_len p] at h2
  exact ⟨h1, h2, by unfold hadN; simpa using h3⟩
/-- What whoHad keeps while it goes through the names. -/
structure WhI (w : World) (A : List ShA) (P : List (List Int)) (s : List Nm) (p M2 D b N2 : Nat) (om : Nat) (j : Nat) (H : List ShA) (Z : World) : Prop where
  below : Below w.heap.size w Z
  map : MapF Z 9 w.heap.size om (lstF A)
  box : Blk Z (w.heap.size + 1) #[.map (some w.heap.size)] TMp
  dfr : Z.heap[w.heap.size + 3]? = some (.deferred (some []))
  had : MapF Z 9 M2 j (hdF H)
  dk : DeckP Z D b (hadN (A.map (·.1)) P (allP p) (s.take j)).1
  names : H.map (·.1) = s.take j
  rows : ∀ i, i < H.length → OwnK kZ Z N2 (H.getD i sh0).2.v ((hadN (A.map (·.1)) P (allP p) (s.take j)).2.getD i [])
  size : N2 ≤ Z.heap.size
structure WhO (w : World) (M2 D b N2 : Nat) : Prop where
  o1 : w.heap.size + 5 ≤ M2
  o2 : M2 < D
  o3 : D ≤ b
  o4 : b < N2
/-- The next name: what the pick and the store into the map leave. -/
theorem WhI.next {s : List Nm} {p M2 D b N2 om j : Nat} {H : List ShA} {Z W2 : World} {sl : Sl} {nm : Nm} (h : WhI w A P s p M2 D b N2 om j H Z) (ho : WhO w M2 D b N2) (hj : j < s.length) (hnm : s.getD j [] = nm) (hn : nm.length ≤ maxLen) (hjm : j < maxLen)
    (hO : OwnK kZ W2 Z.heap.size sl.v (risZ (pickN (hadN (A.map (·.1)) P (allP p) (s.take j)).1 (lstd (A.map (·.1)) P nm)).2)) (hd : DeckP W2 D b (pickN (hadN (A.map (·.1)) P (allP p) (s.take j)).1 (lstd (A.map (·.1)) P nm)).1) (hc : Chg [D, b] Z W2) :
    ∃ W3, (Instr.mapUpdate TMp (.map (some M2)) (.string (nmS nm)) sl.v).run Try.prog W2 = .ok () W3 ∧ WhI w A P s p M2 D b N2 om (j + 1) (H ++ [(nm, sl)]) W3 ∧ Chg [M2] W2 W3 := by
  have o1 := ho.o1
  have o2 := ho.o2
  have o3 := ho.o3
  have o4 := ho.o4
  have hs := h.size
  have hM2 : MapF W2 9 M2 j (hdF H) := h.had.keep (hc.block _ h.had.lt (by simp; omega))
  obtain ⟨W3, hr, hM3, hc3⟩ := hM2.store keyN Try.underlying45 hjm (key := .string (nmS nm)) (val := sl.v) (keyOf_n nm hn)
  have hz2 := hc.size
  have hz3 := hc3.size
  have hl : H.length = j := by have := congrArg List.length h.names; rw [List.length_map, List.length_take] at this; omega
  have ht : s.take (j + 1) = s.take j ++ [nm] := by rw [take_snoc_any s [] j hj, hnm]
  have hhl : (hadN (A.map (·.1)) P (allP p) (s.take j)).2.length = j := by rw [(hadN_inv _ P p _).2.2, List.length_take]; omega
  have hsn : hadN (A.map (·.1)) P (allP p) (s.take (j + 1)) = hadS (A.map (·.1)) P (hadN (A.map (·.1)) P (allP p) (s.take j)) nm := by rw [ht, hadN_snoc]
  refine ⟨W3, hr, ⟨?_, ?_, ?_, ?_, ?_, ?_, ?_, ?_, ?_⟩, hc3⟩
  · exact h.below.trans ((hc.below (N := w.heap.size) (fun k hk => by simp at hk; omega) (by have := h.below.size; omega)).trans (hc3.below (N := w.heap.size) (fun k hk => by simp at hk; omega) (by have := h.below.size; omega)))
  · exact (h.map.keep (hc.block _ h.map.lt (by simp; omega))).keep (hc3.block _ (by have := h.map.lt; omega) (by simp; omega))
  · exact (h.box.chg hc (by simp; omega)).chg hc3 (by simp; omega)
  · have hlt : w.heap.size + 3 < Z.heap.size := (Array.getElem?_eq_some_iff.1 h.dfr).1
    rw [hc3.block _ (by omega) (by simp; omega), hc.block _ hlt (by simp; omega)]
    exact h.dfr
  · rw [hdF_snoc]; exact hM3
  · rw [hsn]; exact hd.chg hc3 (by simp; omega) (by simp; omega)
  · rw [List.map_append, h.names, ht]; rfl
  · intro i hi
    rw [hsn]
    show OwnK kZ W3 N2 _ ((_ ++ [_]).getD i [])
    by_cases e : i < H.length
    · rw [getD_app_left _ _ _ _ e, getD_app_left _ _ _ _ (by omega)]
      have hr := h.rows i e
      have hr2 := hr.chg hc (fun g hg hm => by have := (hr.block g hg).1; simp at hm; omega)
      exact hr2.chg hc3 (fun g hg hm => by have := (hr2.block g hg).1; simp at hm; omega)
    · have e0 : i = H.length := by rw [List.length_append] at hi; simp at hi; omega
      rw [getD_app_last _ _ _ _ e0, getD_app_last _ _ _ _ (by omega)]
      exact (hO.mono hs).chg hc3 (fun g hg hm => by have := (hO.block g hg).1; simp at hm; omega)
  · omega
/-- What whoHad answers: a map that says of each name what it had. -/
def WhPost (w : World) (A : List ShA) (P : List (List Int)) (s : List Nm) (m p : Nat) (e : Ending) (w' : World) : Prop :=
  ∃ M2 H, e = .returned (.map (some M2)) ∧ w.heap.size ≤ M2 ∧ M2 < w'.heap.size ∧ MapF w' 9 M2 m (hdF H) ∧ H.map (·.1) = s ∧ (∀ i, i < H.length → OwnK kZ w' w.heap.size (H.getD i sh0).2.v ((hadN (A.map (·.1)) P (allP p) s).2.getD i [])) ∧ Below w.heap.size w w'
set_option maxRecDepth 100000 in
set_option maxHeartbeats 4000000 in
theorem whoHad_any (h : OldA w A P oa om oc) {ad : Option Addr} {m c : Nat} {l : List Nm} (hm : ArgK kS w l ad m c) (hmb : m ≤ 1000) (hnl : ∀ s ∈ l, s.length ≤ 64) (p : Nat) (hp : p ≤ 32) :
    Calls Try.prog 15 #[.slice oa om oc, .slice ad m c, .int .i64 (p : Int)] w fun e w' => WhPost w A P (risN l) m p e w' := by
  obtain ⟨W1, hW1⟩ : ∃ W1, ((w.alloc (.map #[] 0)).alloc (.cells #[.map (some w.heap.size)] TMp)).alloc (.cells #[.slice oa om oc] 24) = W1 := ⟨_, rfl⟩
  have hs1 : W1.heap.size = w.heap.size + 3 := by rw [← hW1]; simp
  have bA : Below w.heap.size w (w.alloc (.map #[] 0)) := (Below.refl _ _).alloc (Nat.le_refl _) _
  have hb1 : Below w.heap.size w W1 := by rw [← hW1]; exact (bA.alloc (by simp) _).alloc (by simp; omega) _
  have hmap1 : MapF W1 9 w.heap.size 0 (lstF (A.drop (om - 0))) := by
    rw [Nat.sub_zero, List.drop_of_length_le (by rw [h.row.len]; exact Nat.le_refl _)]
    refine MapF.empty ?_
    rw [← hW1, Below.heap_alloc _ _ _ (by simp; omega), Below.heap_alloc _ _ _ (by simp)]
    exact World.alloc_heap_new w _
  have hbox1 : Blk W1 (w.heap.size + 1) #[.map (some w.heap.size)] TMp := by
    have h0 : Blk ((w.alloc (.map #[] 0)).alloc (.cells #[.map (some w.heap.size)] TMp)) (w.alloc (.map #[] 0)).heap.size #[.map (some w.heap.size)] TMp := heap_alloc_new _ _
    rw [World.size_alloc] at h0
    rw [← hW1]
    exact (Below.heap_alloc _ _ _ (by simp)).trans h0
  have hgb1 : W1.cell? ⟨w.heap.size + 2, 0, none⟩ = some (.slice oa om oc) := by
    have h0 : Blk W1 ((w.alloc (.map #[] 0)).alloc (.cells #[.map (some w.heap.size)] TMp)).heap.size #[.slice oa om oc] 24 := by rw [← hW1]; exact heap_alloc_new _ _
    rw [World.size_alloc, World.size_alloc] at h0
    exact h0.cell 0
  have HI1 : Hid (LiI w A om 0 W1) := ⟨hb1, hmap1, hbox1⟩
  obtain ⟨Gs, hG1, hG2, hG3⟩ : ∃ Gs : List Nat, w.heap.size + 2 ∈ Gs ∧ (∀ b off, oa = some ⟨b, off, none⟩ → om ≠ 0 → b ∈ Gs) ∧ ∀ g ∈ Gs, g = w.heap.size + 2 ∨ g < w.heap.size := by
    by_cases h0 : om = 0
    · exact ⟨[w.heap.size + 2], by simp, fun _ _ _ hm => absurd h0 hm, fun g hg => by simp at hg; omega⟩
    · obtain ⟨b, off, e, hb, -⟩ := h.row.cells (by omega)
      exact ⟨[w.heap.size + 2, b], by simp, fun b' off' e' _ => by rw [e] at e'; cases e'; simp, fun g hg => by simp at hg; omega⟩
  have HSq := hid (back_seq (K := fun _ _ => True) (h.row.later hb1) (w.heap.size + 1 + 1) Gs hgb1 hG1 hG2 (fun g hg => by have := hG3 g hg; omega))
  have HG := hid hG3
  have hBk := hid (back_any oa om oc)
  have hol := h.row.len
  have HNm := hid h.names
  have hom : om ≤ 9223372036854775807 := by have := h.row.cap; have := h.row.room; unfold maxLen at this; omega
  have H0 := hid h
  have HMb := hid hm
  have HNl := hid hnl
  have hmm : ∀ (t : TypeId) (w : World), (Instr.makeMap t none).run Try.prog w = .ok (.map (some w.heap.size)) (w.alloc (.map #[] 0)) := fun t w => run_makeMap _ w
  clear h hm hnl hb1 hmap1 hbox1 hgb1 hG1 hG2 hG3 bA
  refine (callsIn_wide (n := 3)).1 ?_
  refine callsIn_of_wp_marks Try.func15 rfl trivial ?_ rfl
  simp only [Try.ntmps15, List.size_toArray, List.length_cons, List.length_nil, Nat.reduceAdd, Nat.reduceSub, Array.replicate_succ, Array.replicate_zero, List.push_toArray, List.append_toArray, List.nil_append, List.cons_append]
  gi_wp2_with (refine ⟨trivial, ?_⟩; gi_at_call 34; refine (callsIn_wide.2 (hBk.out _)).mono ?_; rintro e w2 ⟨rfl, hw2⟩; obtain rfl := hw2.symm)
  clear hW1 hBk
  refine range_A (w.heap.size + 3) hs1 (gf := 42) rfl enters_back HSq.out (fun h k => h.trans k) ?kb (fun k Z => LiI w A om k Z) (fun _ _ => False) ?hI ?hIx (fun _ _ _ => trivial) ?h0 ?hps
    (fun args X => { tmps := #[.slice oa om oc, .slice ad m c, .int .i64 (p : Int), undef, undef, undef, .map none, .pointer (some ⟨w.heap.size + 1, 0, none⟩), undef, .pointer (some ⟨X.heap.size, 0, none⟩), undef, undef, undef, undef, .map (some w.heap.size), .slice oa om oc, .func (.func 42) #[] #[.pointer (some ⟨w.heap.size + 1 + 1, 0, none⟩)], args.getD 0 undef, args.getD 1 undef, undef, undef, undef, undef, undef, undef, undef, undef, undef, undef, undef, undef, undef, undef, undef, undef, undef, undef, undef, undef, undef, undef, undef, undef], defers := [] })
    (fun args X => X.alloc (.cells (match args.getD 1 undef with | .agg cs => cs | _ => #[]) 35)) ?hx1 ?hKa ?assign ?body ?done ?stop
  case kb => exact fun Z o hZ => ⟨by simp, fun g hg => World.putObj_heap_other (by have := HG.out g hg; omega)⟩
  case hI => exact fun k Z Z' h1 hc => h1.chg hc (fun g hg => by simp at hg; omega)
  case hIx => exact fun _ _ _ h _ => h
  case h0 => exact HI1.out
  case hps =>
    rintro k args X ⟨_, rfl⟩
    rfl
  case hx1 => exact fun k args X _ => (Below.refl _ _).alloc (Nat.le_refl _) _
  case hKa => exact fun k args X _ hX => Kg.below ((Below.refl _ _).alloc (Nat.le_refl _) _) (fun g hg => by have := HG.out g hg; omega)
  case assign =>
    rintro q k args X L ⟨hk, rfl⟩ hL
    clear HSq HI1 HG H0 HMb HNl HNm
    generalize A.getD (om - 1 - k) sh0 = x at *
    obtain ⟨nm, xa, xm, xc⟩ := x
    dsimp only at *
    generalize nmS nm = e0 at *
    gi_wp2
    exact hL
  case body =>
    rintro q k args X Y hk hX hI ⟨hkm, rfl⟩ hc hsz
    obtain ⟨i, hi⟩ : ∃ i, om - 1 - k = i := ⟨_, rfl⟩
    have hdr := drop_back hol hk
    rw [hi] at hdr hc hsz ⊢
    have hnm := HNm.out i (by rw [hol]; omega)
    obtain ⟨x, hx⟩ : ∃ x, A.getD i sh0 = x := ⟨_, rfl⟩
    rw [hx] at hdr hc hsz hnm ⊢
    obtain ⟨nm, xa, xm, xc⟩ := x
    have hc' : Chg [w.heap.size + 3, w.heap.size + 3 + 1] (X.alloc (.cells #[.string (nmS nm), .slice xa xm xc] 35)) Y := hc
    have hsz' : Y.heap.size = (X.alloc (.cells #[.string (nmS nm), .slice xa xm xc] 35)).heap.size := hsz
    rw [World.size_alloc] at hsz'
    have hbx : Blk (X.alloc (.cells #[.string (nmS nm), .slice xa xm xc] 35)) X.heap.size _ _ := heap_alloc_new X _
    have hby := hbx.chg hc' (by simp; omega)
    have hIY := (hI.chg (F := []) (Chg.of ((Below.refl _ X).alloc (Nat.le_refl _) _)) (fun g hg => by cases hg)).chg hc' (fun g hg => by simp at hg; omega)
    have c0 := hby.cell 0
    have c1 := hby.cell 1
    have c2 := hIY.box.cell 0
    simp only [List.getElem?_toArray, List.getElem?_cons_zero, List.getElem?_cons_succ] at c0 c1 c2
    have hkl : k < maxLen := by have := H0.out.row.cap; have := H0.out.row.room; omega
    obtain ⟨W3, hr3, hM3, hc3⟩ := hIY.map.store keyN Try.underlying45 hkl (key := .string (nmS nm)) (val := .slice xa xm xc) (keyOf_n nm hnm)
    have HZ : Hid (LiI w A om (k + 1) W3) := by
      refine ⟨hIY.below.trans (hc3.below (fun g hg => by simp at hg; omega) hIY.below.size), ?_, hIY.box.chg hc3 (by simp)⟩
      rw [hdr]
      exact hM3
    have HC3 := hid hc3
    have hYX : X.heap.size < Y.heap.size := by omega
    have HYk : Hid (∀ g ∈ Gs, g < Y.heap.size ∧ g ≠ w.heap.size) := fun g hg => by have := HG.out g hg; omega
    show Code.wpIn _ _ _ _ _ { tmps := #[.slice oa om oc, .slice ad m c, .int .i64 (p : Int), undef, undef, undef, .map none, .pointer (some ⟨w.heap.size + 1, 0, none⟩), undef, .pointer (some ⟨X.heap.size, 0, none⟩), undef, undef, undef, undef, .map (some w.heap.size), .slice oa om oc, .func (.func 42) #[] #[.pointer (some ⟨w.heap.size + 1 + 1, 0, none⟩)], .int .i64 ((i : Nat) : Int), .agg #[.string (nmS nm), .slice xa xm xc], undef, undef, undef, undef, undef, undef, undef, undef, undef, undef, undef, undef, undef, undef, undef, undef, undef, undef, undef, undef, undef, undef, undef, undef], defers := [] } _
    clear hI hc hc' hsz hsz' hbx hby hIY HSq HI1 HG H0 HMb HNl HNm hM3 hc3 hdr hx hnm hkl
    generalize nmS nm = e0 at *
    gi_wp2
    refine ⟨⟨?_, ?_⟩, ?_, HZ.out⟩
    · exact HC3.out.block _ (by omega) (fun hm => by have := List.mem_singleton.1 hm; omega)
    · exact HC3.out.block _ (by omega) (fun hm => by have := List.mem_singleton.1 hm; omega)
    · exact ⟨HC3.out.size, fun g hg => HC3.out.block g (HYk.out g hg).1 (fun hm => (HYk.out g hg).2 (List.mem_singleton.1 hm))⟩
  case done =>
    rintro X hX hI hD
    have hXm : MapF X 9 w.heap.size om (lstF A) := by have h := hI.map; rw [Nat.sub_self, List.drop_zero] at h; exact h
    obtain ⟨X1, hX1⟩ : ∃ X1, X.alloc (.map #[] 0) = X1 := ⟨_, rfl⟩
    have s1 : X1.heap.size = X.heap.size + 1 := by rw [← hX1]; simp
    have b1 : Below X.heap.size X X1 := by rw [← hX1]; exact (Below.refl _ _).alloc (Nat.le_refl _) _
    have m1 : X1.heap[X.heap.size]? = some (.map #[] 0) := by rw [← hX1]; exact World.alloc_heap_new X _
    have HPa := hid (parts_any p (by omega) X1)
    have HRi : Hid (∀ W, Below w.heap.size w W → Calls Try.prog 30 #[.slice ad m c] W fun e w' => ∃ v, e = .returned v ∧ OwnK kS w' W.heap.size v (risN l) ∧ Below W.heap.size W w') := fun W hb => rising_any (HMb.out.later hb) (by omega)
    have hsl : (risN l).length = m := by rw [risN_len]; exact HMb.out.len
    have HSl := hid hsl
    have HSn : Hid (∀ i, i < m → ((risN l).getD i []).length ≤ 64) := fun i hi => by
      have hmem : (risN l).getD i [] ∈ risN l := by rw [List.getD_eq_getElem?_getD, List.getElem?_eq_getElem (by omega)]; exact List.getElem_mem _
      exact HNl.out _ ((risN_perm l).mem_iff.1 hmem)
    have HbX := hid hI.below
    have HbxX := hid hI.box
    have HXm := hid hXm
    have HDf := hid hD
    have HB1 := hid b1
    have HM1 := hid m1
    have hXl := hI.below.size
    clear hI hD b1 m1 hXm hsl HSq HI1 HG HNl HNm HMb
    obtain ⟨s, hse⟩ : ∃ s, risN l = s := ⟨_, rfl⟩
    rw [hse] at HSl HSn HRi
    have HSe := hid hse
    clear hse
    gi_wp2_with (first
      | (refine ⟨trivial, ?_⟩; gi_at_call 14; (with_reducible_and_instances (refine (callsIn_wide.2 HPa.out).mono ?_)); rintro e X2 ⟨b, rfl, a2, a3, a4, a5⟩; have HA2 := hid a2; have HA3 := hid a3; have HA4 := hid a4; have HA5 := hid a5; have HbX2 : Hid (Below w.heap.size w X2) := HbX.out.trans ((HB1.out.mono (by omega)).trans (a5.mono (by omega))); have HR2 := hid (HRi.out X2 HbX2.out); clear a2 a3 a4 a5)
      | (refine ⟨trivial, ?_⟩; gi_at_call 30; (with_reducible_and_instances (refine (callsIn_wide.2 HR2.out).mono ?_)); rintro e X3 ⟨vn, rfl, hOn, hBn⟩; obtain ⟨na, nc, hvn, hAn⟩ := hOn.form kS_ok.tofit; rw [HSl.out] at hvn hAn; subst hvn; have HOn := hid hOn; have HAn := hid hAn; have HBn := hid hBn; clear hOn hAn hBn))
    have z2 := HA5.out.size
    have z3 := HBn.out.size
    have a3 := HA3.out
    have a4 := HA4.out
    have bX3 : Below X1.heap.size X1 X3 := HA5.out.trans (HBn.out.mono z2)
    have bXX3 : Below X.heap.size X X3 := HB1.out.trans (bX3.mono (by omega))
    have ho : WhO w X.heap.size X1.heap.size b X3.heap.size := ⟨by omega, by omega, a3, by omega⟩
    have hw0 : WhI w A P s p X.heap.size X1.heap.size b X3.heap.size om 0 [] X3 := by
      refine ⟨HbX.out.trans (bXX3.mono hXl), HXm.out.keep (bXX3.block _ HXm.out.lt), HbxX.out.later bXX3, (bXX3.block _ (by omega)).trans HDf.out, ?_, ?_, rfl, fun i hi => by simp at hi, Nat.le_refl _⟩
      · exact MapF.empty ((bX3.block _ (by omega)).trans HM1.out)
      · exact HA2.out.later HBn.out
    have HNb : Hid (∀ b' off, na = some ⟨b', off, none⟩ → X2.heap.size ≤ b') := fun b' off e => by
      subst e
      rcases HOn.out.2 with ⟨e, -⟩ | ⟨g, cap, cur, e, hb, -⟩
      · cases e
      · cases e; exact hb
    have HO := hid ho
    have HW0 := hid hw0
    have hX1l : X1.heap.size < X2.heap.size := by omega
    have hb2 : b < X2.heap.size := by omega
    have hXX1 : X.heap.size < X1.heap.size := by omega
    have hX3 : X2.heap.size ≤ X3.heap.size := z3
    have hwX : w.heap.size ≤ X.heap.size := hXl
    rw [s1] at HO HW0 hX1l hXX1 a3
    clear ho hw0 bX3 bXX3 HA2 HA3 HA4 HA5 HB1 HM1 HbX HbxX HXm HDf HPa HRi HOn HBn HR2 HbX2 z2 z3 s1 hX1
    gi_loopw [30] (fun jv wr => ∃ (j : Nat) (H : List ShA), j ≤ m ∧ jv = .int .i64 (j : Int) ∧ Hid (WhI w A P s p X.heap.size (X.heap.size + 1) b X3.heap.size om j H wr) ∧ Hid (ArgK kS wr s na m nc)) (fun jv _ => m - (intOf jv).toNat)
    case atStart => exact ⟨0, [], by omega, rfl, HW0, HAn⟩
    case round =>
      obtain ⟨j, H, hj, rfl, HW, HA⟩ := hrel
      clear HW0 HAn
      by_cases hlt : j < m
      · obtain ⟨bn, off, rfl, hsn, hcn⟩ := HA.out.cells (by omega)
        have r0 : wr.cell? ⟨bn, off + j, none⟩ = some (.string (nmS (s.getD j []))) := by have := hcn j hlt 0 (by decide); rw [Nat.mul_one, Nat.add_zero] at this; exact this
        have hnb := HNb.out bn off rfl
        obtain ⟨nm, hnm⟩ : ∃ nm, s.getD j [] = nm := ⟨_, rfl⟩
        have hn64 : nm.length ≤ maxLen := by rw [← hnm]; have := HSn.out j hlt; unfold maxLen; omega
        rw [hnm] at r0
        obtain ⟨sl, hsl, hsA⟩ := lstF_look (w := w) A P H0.out.len H0.out.part nm
        have hlk := HW.out.map.look keyN Try.underlying45 (zeroM wr) (keyOf_n nm hn64)
        rw [hsl] at hlk
        unfold Sl.v at hlk
        have hbx := HW.out.box.cell 0
        simp only [List.getElem?_toArray, List.getElem?_cons_zero] at hbx
        obtain ⟨h1, h2, h3⟩ := hadN_inv (A.map (·.1)) P p (s.take j)
        have hblk : lstd (A.map (·.1)) P nm ≠ [] → ∀ b' off, sl.ad = some ⟨b', off, none⟩ → b' ≠ (X.heap.size + 1) ∧ b' ≠ b := fun hne b' off' e => by
          rcases hsA.row with h | ⟨b2, off2, e2, hb2', -⟩
          · exact absurd h hne
          · rw [e] at e2; cases e2; have := HO.out.o2; have := HO.out.o3; omega
        have HPk := hid (pick_any HW.out.dk (by have := HW.out.size; have := HO.out.o4; omega) h1 (by omega) (hsA.later HW.out.below) hblk)
        have HNx : Hid (∀ W2 sl2, OwnK kZ W2 wr.heap.size (Sl.v sl2) _ → DeckP W2 (X.heap.size + 1) b _ → Chg [(X.heap.size + 1), b] wr W2 → _) := fun W2 sl2 hO hd hc => WhI.next (sl := sl2) HW.out HO.out (by rw [HSl.out]; exact hlt) hnm hn64 (by unfold maxLen; omega) hO hd hc
        have HAk : Hid (∀ W2 W3, Chg [(X.heap.size + 1), b] wr W2 → Chg [X.heap.size] W2 W3 → ArgK kS W3 s (some ⟨bn, off, none⟩) m nc) := fun W2 W3 hc1 hc2 => (HA.out.chg hc1 (fun _ b' off' e => by cases e; simp; omega)).chg hc2 (fun _ b' off' e => by cases e; simp; omega)
        obtain ⟨sa, sm, sc⟩ := sl
        dsimp only at HPk
        generalize hns : nmS nm = ns at *
        clear hns hcn hsn hsA hsl h1 h2 h3 hblk HW HA hn64 hnm
        gi_wp2_with (first
          | (refine ⟨trivial, ?_⟩; gi_at_call 18; (with_reducible_and_instances (refine (callsIn_wide.2 HPk.out).mono ?_)); rintro e W2 ⟨v, rfl, hO, hd, hc⟩; obtain ⟨va, vc, hv, -⟩ := hO.form kZ_ok.tofit; generalize List.length (risZ _) = vm at hv; subst hv; obtain ⟨W3, hr3, hn3, hc3⟩ := HNx.out W2 ⟨va, vm, vc⟩ hO hd hc; unfold Sl.v at hr3; have HN3 := hid hn3; have HC2 := hid hc; have HC3 := hid hc3; clear hO hd hc hn3 hc3))
        exact ⟨⟨j + 1, _, by omega, by go_num, HN3, HAk.out W2 W3 HC2.out HC3.out⟩, by simp [intOf]; omega⟩
      · obtain rfl : m = j := by omega
        have hpc := putObj_chg wr (w.heap.size + 3) _ (.deferred none) (Or.inl rfl)
        have hw1 := HO.out.o1
        have hw2 := HO.out.o2
        have hw3 := HO.out.o3
        have hw4 := HO.out.o4
        have hszr := HW.out.size
        have HFin : Hid (∀ (W : World), Chg [w.heap.size + 3, w.heap.size + 3 + 1] wr W → w.heap.size ≤ X.heap.size ∧ X.heap.size < W.heap.size ∧ MapF W 9 X.heap.size m (hdF H) ∧ H.map (·.1) = s ∧ (∀ i, i < H.length → OwnK kZ W w.heap.size (H.getD i sh0).2.v ((hadN (A.map (·.1)) P (allP p) s).2.getD i [])) ∧ Below w.heap.size w W) := fun W hc => by
          have ht : s.take m = s := List.take_of_length_le (by rw [HSl.out]; exact Nat.le_refl _)
          have hz := hc.size
          refine ⟨hwX, by omega, HW.out.had.keep (hc.block _ HW.out.had.lt (by simp; omega)), by rw [HW.out.names, ht], fun i hi => ?_, HW.out.below.trans (hc.below (fun k hk => by simp at hk; omega) (by omega))⟩
          have hr := HW.out.rows i hi
          rw [ht] at hr
          exact (hr.chg hc (fun g hg hm => by have := (hr.block g hg).1; simp at hm; omega)).mono (by omega)
        have HDf := hid HW.out.dfr
        have HP := hid hpc
        clear HW HA hpc hw1 hw2 hw3 hw4 hszr
        gi_wp2
        refine ⟨by simp, .inl ⟨_, _, rfl, run_takeDeferred HDf.out, ?_⟩⟩
        exact ⟨_, results_tmp Try.results15 _ _ _, X.heap.size, H, rfl, by rw [HSe.out]; exact HFin.out _ HP.out⟩
  case stop => exact fun k X hk h _ => h.elim
end Go.Proofs.Ytakpdhmfbgfblaa
