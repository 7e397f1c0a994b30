/- Shares that came in, listed by names; slices.Backward over them. Names as keys of a map. whoHad of package assign. The steps of Sticky (by gensteps.py). -/
import Derived.Test.YtipgociofjokeaaGreatPGXA2
import Derived.Test.YtipgociofjokeaaGreatMapF
import Derived.Test.YtipgociofjokeaaGreatPGOwn
import Derived.Shelf.Abstract
import Derived.StringKeys
namespace Go.Proofs.YtipgociofjokeaaGreat
open Go.RowKit Go.Shelf
attribute [local go_sem] Oper.semAt_some
variable {w w' : World} {a : Option Addr} {m c : Nat} {A : List ShA}

/-- Round k is handed share m - 1 - k. -/
def BackR (A : List ShA) (m : Nat) (k : Nat) (args : Array Value) (_ : World) : Prop := k < m ∧ args = #[.int .i64 ((m - 1 - k : Nat) : Int), .agg #[.string (nmS (A.getD (m - 1 - k) sh0).1), .slice (A.getD (m - 1 - k) sh0).2.ad (A.getD (m - 1 - k) sh0).2.m (A.getD (m - 1 - k) sh0).2.c]]
set_option maxRecDepth 100000 in
set_option maxHeartbeats 400000 in
theorem back_seq (h : ArgK kSh w A a m c) (gb : Nat) (Gs : List Nat) (K : Nat → World → Prop) (hgb : w.cell? ⟨gb, 0, none⟩ = some (.slice a m c)) (hg : gb ∈ Gs) (hrow : ∀ b off, a = some ⟨b, off, none⟩ → m ≠ 0 → b ∈ Gs) (hlt : ∀ g ∈ Gs, g < w.heap.size) :
    SeqR Tryz.prog 100 #[.pointer (some ⟨gb, 0, none⟩)] (Kg Gs) K (BackR A m) m w := by
  intro q J Jx W hW hJ _ _ hY h0
  have hk0 : Kg Gs w W := Kg.below hW hlt
  have HK0 : Hid (Kg Gs w W) := hk0
  have H := hid h
  have HR : Hid (∀ b off, a = some ⟨b, off, none⟩ → m ≠ 0 → b ∈ Gs) := hrow
  have HY : Hid (∀ k args X, k < m → J k X → BackR A m k args X → YieldAt Fence.wide 1 Tryz.prog q args X fun e Y => (e = .returned (.bool true) ∧ J (k + 1) Y ∧ Kg Gs X Y) ∨ (e = .returned (.bool false) ∧ Jx (k + 1) Y)) := hY
  have HC : Hid (w.cell? ⟨gb, 0, none⟩ = some (.slice a m c)) := hgb
  have ct0 : W.cell? ⟨gb, 0, none⟩ = some (.slice a m c) := (hk0.cell hg (i := 0)).trans hgb
  have hmx : m ≤ 9223372036854775807 := by have := h.cap; have := h.room; unfold maxLen at this; omega
  clear hW hJ hY h hrow hlt hk0 hgb
  refine callsIn_of_wp Tryz.func100 rfl trivial ?_ rfl
  simp only [Tryz.ntmps100, List.size_toArray, List.length_cons, List.length_nil, Nat.reduceAdd, Nat.reduceSub, Array.replicate_succ, Array.replicate_zero, List.push_toArray, List.append_toArray, List.nil_append, List.cons_append]
  gi_wp2
  gi_loopw [3] (fun i wr => ∃ k : Nat, k ≤ m ∧ i = .int .i64 ((m : Int) - 1 - (k : Int)) ∧ Hid (J k wr) ∧ Hid (Kg Gs w wr)) (fun i _ => (intOf i + 1).toNat)
  case atStart => exact ⟨0, Nat.zero_le _, by go_num, h0, HK0⟩
  case round =>
    obtain ⟨k, hk, rfl, HJk, HKk⟩ := hrel
    by_cases hkl : k < m
    · have c1 : wr.cell? ⟨gb, 0, none⟩ = some (.slice a m c) := (HKk.out.cell hg (i := 0)).trans HC.out
      have hz : decide ((0 : Int) ≤ (m : Int) - 1 - (k : Int)) = true := by simp; omega
      obtain ⟨b, off, rfl, hs, hc⟩ := H.out.cells (by omega)
      have hbg := HR.out b off rfl (by omega)
      have r0 : wr.cell? ⟨b, off + (m - 1 - k) * 2, none⟩ = some (.string (nmS (A.getD (m - 1 - k) sh0).1)) := (HKk.out.cell hbg (i := off + (m - 1 - k) * 2)).trans (by have := hc (m - 1 - k) (by omega) 0 (by decide); rw [Nat.add_zero] at this; exact this)
      have r1 : wr.cell? ⟨b, off + (m - 1 - k) * 2 + 1, none⟩ = some (.slice (A.getD (m - 1 - k) sh0).2.ad (A.getD (m - 1 - k) sh0).2.m (A.getD (m - 1 - k) sh0).2.c) := (HKk.out.cell hbg (i := off + (m - 1 - k) * 2 + 1)).trans (hc (m - 1 - k) (by omega) 1 (by decide))
      have hix : ((m : Int) - 1 - (k : Int)).toNat = m - 1 - k := by omega
      have hil : m - 1 - k < m := by omega
      have hie : (m : Int) - 1 - (k : Int) = ((m - 1 - k : Nat) : Int) := by omega
      obtain ⟨fn, tmps, assign, body, hy, hR⟩ := YieldAt.mono (R' := fun e Y => ∃ b : Bool, e = .returned (.bool b) ∧ Hid ((b = true → J (k + 1) Y ∧ Kg Gs wr Y) ∧ (b = false → Jx (k + 1) Y))) (HY.out k _ wr hkl HJk.out ⟨hkl, rfl⟩) (by
        rintro e Y (⟨rfl, h1⟩ | ⟨rfl, h1⟩)
        · exact ⟨true, rfl, fun _ => h1, fun h => (by cases h)⟩
        · exact ⟨false, rfl, fun h => (by cases h), fun _ => h1⟩)
      have HRd := hid hR
      clear hR hc hs hbg ct0 HY
      rw [hie] at hz hix ⊢
      clear hix hie
      generalize hi : m - 1 - k = i at *
      have HI := hid hi
      have hz2 : decide ((0 : Int) ≤ (i : Int)) = true := hz
      generalize A.getD i sh0 = x at *
      obtain ⟨nm, xa, xm, xc⟩ := x
      dsimp only at *
      generalize nmS nm = e0 at *
      clear hi hz
      gi_wp2_with (refine HRd.out.mono ?_; rintro e W3 ⟨b, rfl, hb⟩; have HBb := hid hb; clear hb; rcases b with _ | _)
      · have HX := hid (HBb.out.out.2 (by first | rfl | trivial))
        refine bodyPost_ret (results_none rfl _ _ _) rfl ?_
        exact ⟨⟨_, rfl⟩, .inr ⟨k + 1, by omega, HX.out⟩⟩
      · have HJn := hid (HBb.out.out.1 (by first | rfl | trivial)).1
        have HKn := hid (HKk.out.trans (HBb.out.out.1 (by first | rfl | trivial)).2)
        have hI := HI.out
        exact ⟨⟨k + 1, by omega, by congr 1; omega, HJn, HKn⟩, by simp [intOf]⟩
    · obtain rfl : k = m := by omega
      have hz : decide ((0 : Int) ≤ (k : Int) - 1 - (k : Int)) = false := by simp; omega
      gi_wp2
      go_end0
      exact ⟨⟨_, rfl⟩, .inl HJk.out⟩
theorem enters_back : ∀ args w, (callFunc 100 args).run Tryz.prog w = .ok (.enter 100 args) w := fun _ _ => by kernel_rfl
theorem back_any (ad : Option Addr) (m c : Nat) (w : World) : Calls Tryz.prog 94 #[.slice ad m c] w fun e w' => e = .returned (.func (.func 100) #[] #[.pointer (some ⟨w.heap.size, 0, none⟩)]) ∧ w' = w.alloc (.cells #[.slice ad m c] 85) := by
  have hmf : ∀ (fn : Fn) (first cap : Array Value) (w : World), (Instr.makeFunc fn first cap).run Tryz.prog w = .ok (.func fn first cap) w := fun _ _ _ _ => rfl
  go_enter Tryz.func94, Tryz.ntmps94
  go_wp2_with fail
  go_ret
  exact ⟨rfl, rfl⟩
end Go.Proofs.YtipgociofjokeaaGreat
namespace Go.Proofs.YtipgociofjokeaaGreat
open Go.RowKit
variable {w w' : World}

abbrev TMp : TypeId := 106
theorem keyN : Maps.Keyed Tryz.prog 9 := Maps.string_keyed Tryz.underlying9
theorem keyOf_n (s : Nm) (hs : s.length ≤ maxLen) : keyOf Tryz.prog 9 (.string (nmS s)) = some (.string s) := by
  rw [Go.WideMaps.keyOf_string_mk Tryz.underlying9 (by rw [nmS_size]; exact hs)]
  rfl
theorem zeroM (w : World) : (zeroValue 34).run Tryz.prog w = .ok (.slice none 0 0) w := by
  have h : (Tryz.prog.info? 34).map (fun i => (i.zero, i.size, i.bytes)) = some (some (.slice none 0 0), 1, 24) := by kernel_rfl
  obtain ⟨i0, hi, hz0, hz1, hz2⟩ := info_parts h
  simp [zeroValue, typeInfo, hi, hz0]
/-- What a list of shares is as a map: the first of a name counts. -/
noncomputable def lstF : List ShA → Lit → Option Value
  | [] => fun _ => none
  | x :: A => updF (lstF A) (.string x.1) (some x.2.v)
/-- The partitions of the first share of a name. -/
def lstd : List Nm → List (List Int) → Nm → List Int
  | n :: ns, p :: P, nm => if n = nm then p else lstd ns P nm
  | _, _, _ => []
theorem lstF_look : ∀ (A : List ShA) (P : List (List Int)), A.length = P.length → (∀ i, i < A.length → ArgK kZ w (P.getD i []) (A.getD i sh0).2.ad (A.getD i sh0).2.m (A.getD i sh0).2.c) → ∀ nm, ∃ s : Sl, (lstF A (.string nm)).getD (.slice none 0 0) = s.v ∧ ArgK kZ w (lstd (A.map (·.1)) P nm) s.ad s.m s.c
  | [], [], _, _, nm => ⟨sl0, rfl, rfl, fun _ => ⟨rfl, rfl⟩, Nat.le_refl _, by unfold maxLen; show 0 ≤ _; omega, Or.inl rfl⟩
  | x :: A, p :: P, hl, h, nm => by
    obtain ⟨s, h1, h2⟩ := lstF_look A P (by simpa using hl) (fun i hi => by have := h (i + 1) (by simp; omega); simpa using this) nm
    by_cases e : x.1 = nm
    · subst e
      refine ⟨x.2, ?_, ?_⟩
      · show (updF (lstF A) (.string x.1) (some x.2.v) (.string x.1)).getD _ = _
        rw [updF_same]; rfl
      · show ArgK kZ w (if x.1 = x.1 then p else _) _ _ _
        rw [if_pos rfl]
        exact h 0 (by simp)
    · refine ⟨s, ?_, ?_⟩
      · show (updF (lstF A) (.string x.1) (some x.2.v) (.string nm)).getD _ = _
        rw [updF_other _ (fun e2 => e (by injection e2 with e2; exact e2.symm))]
        exact h1
      · show ArgK kZ w (if x.1 = nm then p else _) _ _ _
        rw [if_neg e]
        exact h2
  | [], _ :: _, hl, _, _ => by simp at hl
  | _ :: _, [], hl, _, _ => by simp at hl
theorem drop_back {A : List ShA} {m k : Nat} (hl : A.length = m) (hk : k < m) : A.drop (m - (k + 1)) = A.getD (m - 1 - k) sh0 :: A.drop (m - k) := by
  have e : m - (k + 1) = m - 1 - k := by omega
  have h : m - 1 - k < A.length := by omega
  rw [e, List.drop_eq_getElem_cons h, List.getD_eq_getElem?_getD, List.getElem?_eq_getElem h]
  congr 2
  omega
/-- What had becomes, name by name. -/
noncomputable def hdF (H : List ShA) : Lit → Option Value := H.foldl (fun f x => updF f (.string x.1) (some x.2.v)) (fun _ => none)
theorem hdF_snoc (H : List ShA) (x : ShA) : hdF (H ++ [x]) = updF (hdF H) (.string x.1) (some x.2.v) := by unfold hdF; rw [List.foldl_append]; rfl
theorem fold_other : ∀ (H : List ShA) (f : Lit → Option Value) (nm : Nm), nm ∉ H.map (·.1) → H.foldl (fun f x => updF f (.string x.1) (some x.2.v)) f (.string nm) = f (.string nm)
  | [], _, _, _ => rfl
  | x :: H, f, nm, h => by
    rw [List.foldl_cons, fold_other H _ nm (fun hm => h (List.mem_cons_of_mem _ hm)), updF_other _ (fun e => h (by injection e with e; rw [e]; simp))]
theorem fold_look : ∀ (H : List ShA) (f : Lit → Option Value), (H.map (·.1)).Nodup → ∀ i, i < H.length → H.foldl (fun f x => updF f (.string x.1) (some x.2.v)) f (.string (H.getD i sh0).1) = some (H.getD i sh0).2.v
  | [], _, _, _, hi => by simp at hi
  | x :: H, f, hn, i, hi => by
    rw [List.map_cons, List.nodup_cons] at hn
    rw [List.foldl_cons]
    cases i with
    | zero => exact (fold_other H _ x.1 hn.1).trans (updF_same _ _ _)
    | succ i => exact fold_look H _ hn.2 i (by simpa using hi)
theorem hdF_look (H : List ShA) (hn : (H.map (·.1)).Nodup) (i : Nat) (hi : i < H.length) : hdF H (.string (H.getD i sh0).1) = some (H.getD i sh0).2.v := fold_look H _ hn i hi
end Go.Proofs.YtipgociofjokeaaGreat
namespace Go.Proofs.YtipgociofjokeaaGreat
open Go.RowKit Go.Shelf
attribute [local go_sem] Oper.semAt_some
variable {w w' : World} {oa : Option Addr} {om oc : Nat} {A : List ShA} {P : List (List Int)}

/-- Shares that came in. -/
structure OldA (w : World) (A : List ShA) (P : List (List Int)) (oa : Option Addr) (om oc : Nat) : Prop where
  row : ArgK kSh w A oa om oc
  len : A.length = P.length
  part : ∀ i, i < A.length → ArgK kZ w (P.getD i []) (A.getD i sh0).2.ad (A.getD i sh0).2.m (A.getD i sh0).2.c
  names : ∀ i, i < A.length → (A.getD i sh0).1.length ≤ maxLen
theorem OldA.later (h : OldA w A P oa om oc) (hb : Below w.heap.size w w') : OldA w' A P oa om oc := ⟨h.row.later hb, h.len, fun i hi => (h.part i hi).later hb, h.names⟩
/-- What whoHad keeps while it lists. -/
structure LiI (w : World) (A : List ShA) (m k : Nat) (Z : World) : Prop where
  below : Below w.heap.size w Z
  map : MapF Z 9 w.heap.size k (lstF (A.drop (m - k)))
  box : Blk Z (w.heap.size + 1) #[.map (some w.heap.size)] TMp
theorem LiI.chg {m k : Nat} {Z Z' : World} {F : List Nat} (h : LiI w A m k Z) (hc : Chg F Z Z') (hF : ∀ g ∈ F, w.heap.size + 2 ≤ g) : LiI w A m k Z' := by
  refine ⟨⟨hc.os.trans h.below.os, hc.tape.trans h.below.tape, hc.output.trans h.below.output, Nat.le_trans h.below.size hc.size, fun k hk => (hc.block k (Nat.lt_of_lt_of_le hk h.below.size) (fun hm => by have := hF _ hm; omega)).trans (h.below.block k hk)⟩, h.map.keep (hc.block _ h.map.lt (fun hm => by have := hF _ hm; omega)), h.box.chg hc (fun hm => by have := hF _ hm; omega)⟩
theorem getD_app_left {α : Type} (l k : List α) (z : α) (i : Nat) (h : i < l.length) : (l ++ k).getD i z = l.getD i z := by rw [List.getD_eq_getElem?_getD, List.getElem?_append_left h, ← List.getD_eq_getElem?_getD]
theorem getD_app_last {α : Type} (l : List α) (x z : α) (i : Nat) (h : i = l.length) : (l ++ [x]).getD i z = x := by rw [List.getD_eq_getElem?_getD, h, List.getElem?_append_right (Nat.le_refl _)]; simp
/-- One name more: what is left of the deck, and what each had. -/
def hadS (ns : List Nm) (P : List (List Int)) (s : List Int × List (List Int)) (nm : Nm) : List Int × List (List Int) := ((pickN s.1 (lstd ns P nm)).1, s.2 ++ [risZ (pickN s.1 (lstd ns P nm)).2])
def hadN (ns : List Nm) (P : List (List Int)) (xs : List Int) (names : List Nm) : List Int × List (List Int) := names.foldl (hadS ns P) (xs, [])
theorem hadN_snoc (ns : List Nm) (P : List (List Int)) (xs : List Int) (names : List Nm) (nm : Nm) : hadN ns P xs (names ++ [nm]) = hadS ns P (hadN ns P xs names) nm := by unfold hadN; rw [List.foldl_append]; rfl
theorem fold_inv (ns : List Nm) (P : List (List Int)) : ∀ (names : List Nm) (s : List Int × List (List Int)), s.1.Pairwise (· < ·) → (names.foldl (hadS ns P) s).1.Pairwise (· < ·) ∧ (names.foldl (hadS ns P) s).1.length ≤ s.1.length ∧ (names.foldl (hadS ns P) s).2.length = s.2.length + names.length
  | [], s, h => ⟨h, Nat.le_refl _, rfl⟩
  | nm :: names, s, h => by
    obtain ⟨h1, h2, h3⟩ := fold_inv ns P names (hadS ns P s nm) (pickN_rise _ _ h)
    refine ⟨h1, Nat.le_trans h2 ?_, ?_⟩
    · have := pickN_len s.1 (lstd ns P nm); show (pickN s.1 (lstd ns P nm)).1.length ≤ _; omega
    · rw [List.foldl_cons, h3]; show (s.2 ++ [_]).length + _ = _; rw [List.length_append, List.length_cons]; simp; omega
theorem hadN_inv (ns : List Nm) (P : List (List Int)) (p : Nat) (names : List Nm) : (hadN ns P (allP p) names).1.Pairwise (· < ·) ∧ (hadN ns P (allP p) names).1.length ≤ p ∧ (hadN ns P (allP p) names).2.length = names.length := by
  obtain ⟨h1, h2, h3⟩ := fold_inv ns P names (allP p, []) (allP_rise p)
  rw [show ((allP p, []) : List Int × List (List Int)).1.length = p from allP_len p] at h2
  exact ⟨h1, h2, by unfold hadN; simpa using h3⟩
/-- What whoHad keeps while it goes through the names. -/
structure WhI (w : World) (A : List ShA) (P : List (List Int)) (s : List Nm) (p M2 D b N2 : Nat) (om : Nat) (j : Nat) (H : List ShA) (Z : World) : Prop where
  below : Below w.heap.size w Z
  map : MapF Z 9 w.heap.size om (lstF A)
  box : Blk Z (w.heap.size + 1) #[.map (some w.heap.size)] TMp
  dfr : Z.heap[w.heap.size + 3]? = some (.deferred (some []))
  had : MapF Z 9 M2 j (hdF H)
  dk : DeckP Z D b (hadN (A.map (·.1)) P (allP p) (s.take j)).1
  names : H.map (·.1) = s.take j
  rows : ∀ i, i < H.length → OwnK kZ Z N2 (H.getD i sh0).2.v ((hadN (A.map (·.1)) P (allP p) (s.take j)).2.getD i [])
  size : N2 ≤ Z.heap.size
structure WhO (w : World) (M2 D b N2 : Nat) : Prop where
  o1 : w.heap.size + 5 ≤ M2
  o2 : M2 < D
  o3 : D ≤ b
  o4 : b < N2
/-- The next name: what the pick and the store into the map leave. -/
theorem WhI.next {s : List Nm} {p M2 D b N2 om j : Nat} {H : List ShA} {Z W2 : World} {sl : Sl} {nm : Nm} (h : WhI w A P s p M2 D b N2 om j H Z) (ho : WhO w M2 D b N2) (hj : j < s.length) (hnm : s.getD j [] = nm) (hn : nm.length ≤ maxLen) (hjm : j < maxLen)
    (hO : OwnK kZ W2 Z.heap.size sl.v (risZ (pickN (hadN (A.map (·.1)) P (allP p) (s.take j)).1 (lstd (A.map (·.1)) P nm)).2)) (hd : DeckP W2 D b (pickN (hadN (A.map (·.1)) P (allP p) (s.take j)).1 (lstd (A.map (·.1)) P nm)).1) (hc : Chg [D, b] Z W2) :
    ∃ W3, (Instr.mapUpdate TMp (.map (some M2)) (.string (nmS nm)) sl.v).run Tryz.prog W2 = .ok () W3 ∧ WhI w A P s p M2 D b N2 om (j + 1) (H ++ [(nm, sl)]) W3 ∧ Chg [M2] W2 W3 := by
  have o1 := ho.o1
  have o2 := ho.o2
  have o3 := ho.o3
  have o4 := ho.o4
  have hs := h.size
  have hM2 : MapF W2 9 M2 j (hdF H) := h.had.keep (hc.block _ h.had.lt (by simp; omega))
  obtain ⟨W3, hr, hM3, hc3⟩ := hM2.store keyN Tryz.underlying106 hjm (key := .string (nmS nm)) (val := sl.v) (keyOf_n nm hn)
  have hz2 := hc.size
  have hz3 := hc3.size
  have hl : H.length = j := by have := congrArg List.length h.names; rw [List.length_map, List.length_take] at this; omega
  have ht : s.take (j + 1) = s.take j ++ [nm] := by rw [take_snoc_any s [] j hj, hnm]
  have hhl : (hadN (A.map (·.1)) P (allP p) (s.take j)).2.length = j := by rw [(hadN_inv _ P p _).2.2, List.length_take]; omega
  have hsn : hadN (A.map (·.1)) P (allP p) (s.take (j + 1)) = hadS (A.map (·.1)) P (hadN (A.map (·.1)) P (allP p) (s.take j)) nm := by rw [ht, hadN_snoc]
  refine ⟨W3, hr, ⟨?_, ?_, ?_, ?_, ?_, ?_, ?_, ?_, ?_⟩, hc3⟩
  · exact h.below.trans ((hc.below (N := w.heap.size) (fun k hk => by simp at hk; omega) (by have := h.below.size; omega)).trans (hc3.below (N := w.heap.size) (fun k hk => by simp at hk; omega) (by have := h.below.size; omega)))
  · exact (h.map.keep (hc.block _ h.map.lt (by simp; omega))).keep (hc3.block _ (by have := h.map.lt; omega) (by simp; omega))
  · exact (h.box.chg hc (by simp; omega)).chg hc3 (by simp; omega)
  · have hlt : w.heap.size + 3 < Z.heap.size := (Array.getElem?_eq_some_iff.1 h.dfr).1
    rw [hc3.block _ (by omega) (by simp; omega), hc.block _ hlt (by simp; omega)]
    exact h.dfr
  · rw [hdF_snoc]; exact hM3
  · rw [hsn]; exact hd.chg hc3 (by simp; omega) (by simp; omega)
  · rw [List.map_append, h.names, ht]; rfl
  · intro i hi
    rw [hsn]
    show OwnK kZ W3 N2 _ ((_ ++ [_]).getD i [])
    by_cases e : i < H.length
    · rw [getD_app_left _ _ _ _ e, getD_app_left _ _ _ _ (by omega)]
      have hr := h.rows i e
      have hr2 := hr.chg hc (fun g hg hm => by have := (hr.block g hg).1; simp at hm; omega)
      exact hr2.chg hc3 (fun g hg hm => by have := (hr2.block g hg).1; simp at hm; omega)
    · have e0 : i = H.length := by rw [List.length_append] at hi; simp at hi; omega
      rw [getD_app_last _ _ _ _ e0, getD_app_last _ _ _ _ (by omega)]
      exact (hO.mono hs).chg hc3 (fun g hg hm => by have := (hO.block g hg).1; simp at hm; omega)
  · omega
/-- What whoHad answers: a map that says of each name what it had. -/
def WhPost (w : World) (A : List ShA) (P : List (List Int)) (s : List Nm) (m p : Nat) (e : Ending) (w' : World) : Prop :=
  ∃ M2 H, e = .returned (.map (some M2)) ∧ w.heap.size ≤ M2 ∧ M2 < w'.heap.size ∧ MapF w' 9 M2 m (hdF H) ∧ H.map (·.1) = s ∧ (∀ i, i < H.length → OwnK kZ w' w.heap.size (H.getD i sh0).2.v ((hadN (A.map (·.1)) P (allP p) s).2.getD i [])) ∧ Below w.heap.size w w'
set_option maxRecDepth 100000 in
set_option maxHeartbeats 4000000 in
theorem whoHad_any (h : OldA w A P oa om oc) {ad : Option Addr} {m c : Nat} {l : List Nm} (hm : ArgK kS w l ad m c) (hmb : m ≤ 1000) (hnl : ∀ s ∈ l, s.length ≤ 64) (p : Nat) (hp : p ≤ 32) :
    Calls Tryz.prog 74 #[.slice oa om oc, .slice ad m c, .int .i64 (p : Int)] w fun e w' => WhPost w A P (risN l) m p e w' := by
  obtain ⟨W1, hW1⟩ : ∃ W1, ((w.alloc (.map #[] 0)).alloc (.cells #[.map (some w.heap.size)] TMp)).alloc (.cells #[.slice oa om oc] 85) = W1 := ⟨_, rfl⟩
  have hs1 : W1.heap.size = w.heap.size + 3 := by rw [← hW1]; simp
  have bA : Below w.heap.size w (w.alloc (.map #[] 0)) := (Below.refl _ _).alloc (Nat.le_refl _) _
  have hb1 : Below w.heap.size w W1 := by rw [← hW1]; exact (bA.alloc (by simp) _).alloc (by simp; omega) _
  have hmap1 : MapF W1 9 w.heap.size 0 (lstF (A.drop (om - 0))) := by
    rw [Nat.sub_zero, List.drop_of_length_le (by rw [h.row.len]; exact Nat.le_refl _)]
    refine MapF.empty ?_
    rw [← hW1, Below.heap_alloc _ _ _ (by simp; omega), Below.heap_alloc _ _ _ (by simp)]
    exact World.alloc_heap_new w _
  have hbox1 : Blk W1 (w.heap.size + 1) #[.map (some w.heap.size)] TMp := by
    have h0 : Blk ((w.alloc (.map #[] 0)).alloc (.cells #[.map (some w.heap.size)] TMp)) (w.alloc (.map #[] 0)).heap.size #[.map (some w.heap.size)] TMp := heap_alloc_new _ _
    rw [World.size_alloc] at h0
    rw [← hW1]
    exact (Below.heap_alloc _ _ _ (by simp)).trans h0
  have hgb1 : W1.cell? ⟨w.heap.size + 2, 0, none⟩ = some (.slice oa om oc) := by
    have h0 : Blk W1 ((w.alloc (.map #[] 0)).alloc (.cells #[.map (some w.heap.size)] TMp)).heap.size #[.slice oa om oc] 85 := by rw [← hW1]; exact heap_alloc_new _ _
    rw [World.size_alloc, World.size_alloc] at h0
    exact h0.cell 0
  have HI1 : Hid (LiI w A om 0 W1) := ⟨hb1, hmap1, hbox1⟩
  obtain ⟨Gs, hG1, hG2, hG3⟩ : ∃ Gs : List Nat, w.heap.size + 2 ∈ Gs ∧ (∀ b off, oa = some ⟨b, off, none⟩ → om ≠ 0 → b ∈ Gs) ∧ ∀ g ∈ Gs, g = w.heap.size + 2 ∨ g < w.heap.size := by
    by_cases h0 : om = 0
    · exact ⟨[w.heap.size + 2], by simp, fun _ _ _ hm => absurd h0 hm, fun g hg => by simp at hg; omega⟩
    · obtain ⟨b, off, e, hb, -⟩ := h.row.cells (by omega)
      exact ⟨[w.heap.size + 2, b], by simp, fun b' off' e' _ => by rw [e] at e'; cases e'; simp, fun g hg => by simp at hg; omega⟩
  have HSq := hid (back_seq (K := fun _ _ => True) (h.row.later hb1) (w.heap.size + 1 + 1) Gs hgb1 hG1 hG2 (fun g hg => by have := hG3 g hg; omega))
  have HG := hid hG3
  have hBk := hid (back_any oa om oc)
  have hol := h.row.len
  have HNm := hid h.names
  have hom : om ≤ 9223372036854775807 := by have := h.row.cap; have := h.row.room; unfold maxLen at this; omega
  have H0 := hid h
  have HMb := hid hm
  have HNl := hid hnl
  have hmm : ∀ (t : TypeId) (w : World), (Instr.makeMap t none).run Tryz.prog w = .ok (.map (some w.heap.size)) (w.alloc (.map #[] 0)) := fun t w => run_makeMap _ w
  clear h hm hnl hb1 hmap1 hbox1 hgb1 hG1 hG2 hG3 bA
  refine (callsIn_wide (n := 3)).1 ?_
  refine callsIn_of_wp_marks Tryz.func74 rfl trivial ?_ rfl
  simp only [Tryz.ntmps74, List.size_toArray, List.length_cons, List.length_nil, Nat.reduceAdd, Nat.reduceSub, Array.replicate_succ, Array.replicate_zero, List.push_toArray, List.append_toArray, List.nil_append, List.cons_append]
  gi_wp2_with (refine ⟨trivial, ?_⟩; gi_at_call 94; refine (callsIn_wide.2 (hBk.out _)).mono ?_; rintro e w2 ⟨rfl, hw2⟩; obtain rfl := hw2.symm)
  clear hW1 hBk
  refine range_A (w.heap.size + 3) hs1 (gf := 100) rfl enters_back HSq.out (fun h k => h.trans k) ?kb (fun k Z => LiI w A om k Z) (fun _ _ => False) ?hI ?hIx (fun _ _ _ => trivial) ?h0 ?hps
    (fun args X => { tmps := #[.slice oa om oc, .slice ad m c, .int .i64 (p : Int), undef, undef, undef, .map none, .pointer (some ⟨w.heap.size + 1, 0, none⟩), undef, .pointer (some ⟨X.heap.size, 0, none⟩), undef, undef, undef, undef, .map (some w.heap.size), .slice oa om oc, .func (.func 100) #[] #[.pointer (some ⟨w.heap.size + 1 + 1, 0, none⟩)], args.getD 0 undef, args.getD 1 undef, undef, undef, undef, undef, undef, undef, undef, undef, undef, undef, undef, undef, undef, undef, undef, undef, undef, undef, undef, undef, undef, undef, undef, undef], defers := [] })
    (fun args X => X.alloc (.cells (match args.getD 1 undef with | .agg cs => cs | _ => #[]) 87)) ?hx1 ?hKa ?assign ?body ?done ?stop
  case kb => exact fun Z o hZ => ⟨by simp, fun g hg => World.putObj_heap_other (by have := HG.out g hg; omega)⟩
  case hI => exact fun k Z Z' h1 hc => h1.chg hc (fun g hg => by simp at hg; omega)
  case hIx => exact fun _ _ _ h _ => h
  case h0 => exact HI1.out
  case hps =>
    rintro k args X ⟨_, rfl⟩
    rfl
  case hx1 => exact fun k args X _ => (Below.refl _ _).alloc (Nat.le_refl _) _
  case hKa => exact fun k args X _ hX => Kg.below ((Below.refl _ _).alloc (Nat.le_refl _) _) (fun g hg => by have := HG.out g hg; omega)
  case assign =>
    rintro q k args X L ⟨hk, rfl⟩ hL
    clear HSq HI1 HG H0 HMb HNl HNm
    generalize A.getD (om - 1 - k) sh0 = x at *
    obtain ⟨nm, xa, xm, xc⟩ := x
    dsimp only at *
    generalize nmS nm = e0 at *
    gi_wp2
    exact hL
  case body =>
    rintro q k args X Y hk hX hI ⟨hkm, rfl⟩ hc hsz
    obtain ⟨i, hi⟩ : ∃ i, om - 1 - k = i := ⟨_, rfl⟩
    have hdr := drop_back hol hk
    rw [hi] at hdr hc hsz ⊢
    have hnm := HNm.out i (by rw [hol]; omega)
    obtain ⟨x, hx⟩ : ∃ x, A.getD i sh0 = x := ⟨_, rfl⟩
    rw [hx] at hdr hc hsz hnm ⊢
    obtain ⟨nm, xa, xm, xc⟩ := x
    have hc' : Chg [w.heap.size + 3, w.heap.size + 3 + 1] (X.alloc (.cells #[.string (nmS nm), .slice xa xm xc] 87)) Y := hc
    have hsz' : Y.heap.size = (X.alloc (.cells #[.string (nmS nm), .slice xa xm xc] 87)).heap.size := hsz
    rw [World.size_alloc] at hsz'
    have hbx : Blk (X.alloc (.cells #[.string (nmS nm), .slice xa xm xc] 87)) X.heap.size _ _ := heap_alloc_new X _
    have hby := hbx.chg hc' (by simp; omega)
    have hIY := (hI.chg (F := []) (Chg.of ((Below.refl _ X).alloc (Nat.le_refl _) _)) (fun g hg => by cases hg)).chg hc' (fun g hg => by simp at hg; omega)
    have c0 := hby.cell 0
    have c1 := hby.cell 1
    have c2 := hIY.box.cell 0
    simp only [List.getElem?_toArray, List.getElem?_cons_zero, List.getElem?_cons_succ] at c0 c1 c2
    have hkl : k < maxLen := by have := H0.out.row.cap; have := H0.out.row.room; omega
    obtain ⟨W3, hr3, hM3, hc3⟩ := hIY.map.store keyN Tryz.underlying106 hkl (key := .string (nmS nm)) (val := .slice xa xm xc) (keyOf_n nm hnm)
    have HZ : Hid (LiI w A om (k + 1) W3) := by
      refine ⟨hIY.below.trans (hc3.below (fun g hg => by simp at hg; omega) hIY.below.size), ?_, hIY.box.chg hc3 (by simp)⟩
      rw [hdr]
      exact hM3
    have HC3 := hid hc3
    have hYX : X.heap.size < Y.heap.size := by omega
    have HYk : Hid (∀ g ∈ Gs, g < Y.heap.size ∧ g ≠ w.heap.size) := fun g hg => by have := HG.out g hg; omega
    show Code.wpIn _ _ _ _ _ { tmps := #[.slice oa om oc, .slice ad m c, .int .i64 (p : Int), undef, undef, undef, .map none, .pointer (some ⟨w.heap.size + 1, 0, none⟩), undef, .pointer (some ⟨X.heap.size, 0, none⟩), undef, undef, undef, undef, .map (some w.heap.size), .slice oa om oc, .func (.func 100) #[] #[.pointer (some ⟨w.heap.size + 1 + 1, 0, none⟩)], .int .i64 ((i : Nat) : Int), .agg #[.string (nmS nm), .slice xa xm xc], undef, undef, undef, undef, undef, undef, undef, undef, undef, undef, undef, undef, undef, undef, undef, undef, undef, undef, undef, undef, undef, undef, undef, undef], defers := [] } _
    clear hI hc hc' hsz hsz' hbx hby hIY HSq HI1 HG H0 HMb HNl HNm hM3 hc3 hdr hx hnm hkl
    generalize nmS nm = e0 at *
    gi_wp2
    refine ⟨⟨?_, ?_⟩, ?_, HZ.out⟩
    · exact HC3.out.block _ (by omega) (fun hm => by have := List.mem_singleton.1 hm; omega)
    · exact HC3.out.block _ (by omega) (fun hm => by have := List.mem_singleton.1 hm; omega)
    · exact ⟨HC3.out.size, fun g hg => HC3.out.block g (HYk.out g hg).1 (fun hm => (HYk.out g hg).2 (List.mem_singleton.1 hm))⟩
  case done =>
    rintro X hX hI hD
    have hXm : MapF X 9 w.heap.size om (lstF A) := by have h := hI.map; rw [Nat.sub_self, List.drop_zero] at h; exact h
    obtain ⟨X1, hX1⟩ : ∃ X1, X.alloc (.map #[] 0) = X1 := ⟨_, rfl⟩
    have s1 : X1.heap.size = X.heap.size + 1 := by rw [← hX1]; simp
    have b1 : Below X.heap.size X X1 := by rw [← hX1]; exact (Below.refl _ _).alloc (Nat.le_refl _) _
    have m1 : X1.heap[X.heap.size]? = some (.map #[] 0) := by rw [← hX1]; exact World.alloc_heap_new X _
    have HPa := hid (parts_any p (by omega) X1)
    have HRi : Hid (∀ W, Below w.heap.size w W → Calls Tryz.prog 90 #[.slice ad m c] W fun e w' => ∃ v, e = .returned v ∧ OwnK kS w' W.heap.size v (risN l) ∧ Below W.heap.size W w') := fun W hb => rising_any (HMb.out.later hb) (by omega)
    have hsl : (risN l).length = m := by rw [risN_len]; exact HMb.out.len
    have HSl := hid hsl
    have HSn : Hid (∀ i, i < m → ((risN l).getD i []).length ≤ 64) := fun i hi => by
      have hmem : (risN l).getD i [] ∈ risN l := by rw [List.getD_eq_getElem?_getD, List.getElem?_eq_getElem (by omega)]; exact List.getElem_mem _
      exact HNl.out _ ((risN_perm l).mem_iff.1 hmem)
    have HbX := hid hI.below
    have HbxX := hid hI.box
    have HXm := hid hXm
    have HDf := hid hD
    have HB1 := hid b1
    have HM1 := hid m1
    have hXl := hI.below.size
    clear hI hD b1 m1 hXm hsl HSq HI1 HG HNl HNm HMb
    obtain ⟨s, hse⟩ : ∃ s, risN l = s := ⟨_, rfl⟩
    rw [hse] at HSl HSn HRi
    have HSe := hid hse
    clear hse
    gi_wp2_with (first
      | (refine ⟨trivial, ?_⟩; gi_at_call 73; (with_reducible_and_instances (refine (callsIn_wide.2 HPa.out).mono ?_)); rintro e X2 ⟨b, rfl, a2, a3, a4, a5⟩; have HA2 := hid a2; have HA3 := hid a3; have HA4 := hid a4; have HA5 := hid a5; have HbX2 : Hid (Below w.heap.size w X2) := HbX.out.trans ((HB1.out.mono (by omega)).trans (a5.mono (by omega))); have HR2 := hid (HRi.out X2 HbX2.out); clear a2 a3 a4 a5)
      | (refine ⟨trivial, ?_⟩; gi_at_call 90; (with_reducible_and_instances (refine (callsIn_wide.2 HR2.out).mono ?_)); rintro e X3 ⟨vn, rfl, hOn, hBn⟩; obtain ⟨na, nc, hvn, hAn⟩ := hOn.form kS_ok.tofit; rw [HSl.out] at hvn hAn; subst hvn; have HOn := hid hOn; have HAn := hid hAn; have HBn := hid hBn; clear hOn hAn hBn))
    have z2 := HA5.out.size
    have z3 := HBn.out.size
    have a3 := HA3.out
    have a4 := HA4.out
    have bX3 : Below X1.heap.size X1 X3 := HA5.out.trans (HBn.out.mono z2)
    have bXX3 : Below X.heap.size X X3 := HB1.out.trans (bX3.mono (by omega))
    have ho : WhO w X.heap.size X1.heap.size b X3.heap.size := ⟨by omega, by omega, a3, by omega⟩
    have hw0 : WhI w A P s p X.heap.size X1.heap.size b X3.heap.size om 0 [] X3 := by
      refine ⟨HbX.out.trans (bXX3.mono hXl), HXm.out.keep (bXX3.block _ HXm.out.lt), HbxX.out.later bXX3, (bXX3.block _ (by omega)).trans HDf.out, ?_, ?_, rfl, fun i hi => by simp at hi, Nat.le_refl _⟩
      · exact MapF.empty ((bX3.block _ (by omega)).trans HM1.out)
      · exact HA2.out.later HBn.out
    have HNb : Hid (∀ b' off, na = some ⟨b', off, none⟩ → X2.heap.size ≤ b') := fun b' off e => by
      subst e
      rcases HOn.out.2 with ⟨e, -⟩ | ⟨g, cap, cur, e, hb, -⟩
      · cases e
      · cases e; exact hb
    have HO := hid ho
    have HW0 := hid hw0
    have hX1l : X1.heap.size < X2.heap.size := by omega
    have hb2 : b < X2.heap.size := by omega
    have hXX1 : X.heap.size < X1.heap.size := by omega
    have hX3 : X2.heap.size ≤ X3.heap.size := z3
    have hwX : w.heap.size ≤ X.heap.size := hXl
    rw [s1] at HO HW0 hX1l hXX1 a3
    clear ho hw0 bX3 bXX3 HA2 HA3 HA4 HA5 HB1 HM1 HbX HbxX HXm HDf HPa HRi HOn HBn HR2 HbX2 z2 z3 s1 hX1
    gi_loopw [30] (fun jv wr => ∃ (j : Nat) (H : List ShA), j ≤ m ∧ jv = .int .i64 (j : Int) ∧ Hid (WhI w A P s p X.heap.size (X.heap.size + 1) b X3.heap.size om j H wr) ∧ Hid (ArgK kS wr s na m nc)) (fun jv _ => m - (intOf jv).toNat)
    case atStart => exact ⟨0, [], by omega, rfl, HW0, HAn⟩
    case round =>
      obtain ⟨j, H, hj, rfl, HW, HA⟩ := hrel
      clear HW0 HAn
      by_cases hlt : j < m
      · obtain ⟨bn, off, rfl, hsn, hcn⟩ := HA.out.cells (by omega)
        have r0 : wr.cell? ⟨bn, off + j, none⟩ = some (.string (nmS (s.getD j []))) := by have := hcn j hlt 0 (by decide); rw [Nat.mul_one, Nat.add_zero] at this; exact this
        have hnb := HNb.out bn off rfl
        obtain ⟨nm, hnm⟩ : ∃ nm, s.getD j [] = nm := ⟨_, rfl⟩
        have hn64 : nm.length ≤ maxLen := by rw [← hnm]; have := HSn.out j hlt; unfold maxLen; omega
        rw [hnm] at r0
        obtain ⟨sl, hsl, hsA⟩ := lstF_look (w := w) A P H0.out.len H0.out.part nm
        have hlk := HW.out.map.look keyN Tryz.underlying106 (zeroM wr) (keyOf_n nm hn64)
        rw [hsl] at hlk
        unfold Sl.v at hlk
        have hbx := HW.out.box.cell 0
        simp only [List.getElem?_toArray, List.getElem?_cons_zero] at hbx
        obtain ⟨h1, h2, h3⟩ := hadN_inv (A.map (·.1)) P p (s.take j)
        have hblk : lstd (A.map (·.1)) P nm ≠ [] → ∀ b' off, sl.ad = some ⟨b', off, none⟩ → b' ≠ (X.heap.size + 1) ∧ b' ≠ b := fun hne b' off' e => by
          rcases hsA.row with h | ⟨b2, off2, e2, hb2', -⟩
          · exact absurd h hne
          · rw [e] at e2; cases e2; have := HO.out.o2; have := HO.out.o3; omega
        have HPk := hid (pick_any HW.out.dk (by have := HW.out.size; have := HO.out.o4; omega) h1 (by omega) (hsA.later HW.out.below) hblk)
        have HNx : Hid (∀ W2 sl2, OwnK kZ W2 wr.heap.size (Sl.v sl2) _ → DeckP W2 (X.heap.size + 1) b _ → Chg [(X.heap.size + 1), b] wr W2 → _) := fun W2 sl2 hO hd hc => WhI.next (sl := sl2) HW.out HO.out (by rw [HSl.out]; exact hlt) hnm hn64 (by unfold maxLen; omega) hO hd hc
        have HAk : Hid (∀ W2 W3, Chg [(X.heap.size + 1), b] wr W2 → Chg [X.heap.size] W2 W3 → ArgK kS W3 s (some ⟨bn, off, none⟩) m nc) := fun W2 W3 hc1 hc2 => (HA.out.chg hc1 (fun _ b' off' e => by cases e; simp; omega)).chg hc2 (fun _ b' off' e => by cases e; simp; omega)
        obtain ⟨sa, sm, sc⟩ := sl
        dsimp only at HPk
        generalize hns : nmS nm = ns at *
        clear hns hcn hsn hsA hsl h1 h2 h3 hblk HW HA hn64 hnm
        gi_wp2_with (first
          | (refine ⟨trivial, ?_⟩; gi_at_call 77; (with_reducible_and_instances (refine (callsIn_wide.2 HPk.out).mono ?_)); rintro e W2 ⟨v, rfl, hO, hd, hc⟩; obtain ⟨va, vc, hv, -⟩ := hO.form kZ_ok.tofit; generalize List.length (risZ _) = vm at hv; subst hv; obtain ⟨W3, hr3, hn3, hc3⟩ := HNx.out W2 ⟨va, vm, vc⟩ hO hd hc; unfold Sl.v at hr3; have HN3 := hid hn3; have HC2 := hid hc; have HC3 := hid hc3; clear hO hd hc hn3 hc3))
        exact ⟨⟨j + 1, _, by omega, by go_num, HN3, HAk.out W2 W3 HC2.out HC3.out⟩, by simp [intOf]; omega⟩
      · obtain rfl : m = j := by omega
        have hpc := putObj_chg wr (w.heap.size + 3) _ (.deferred none) (Or.inl rfl)
        have hw1 := HO.out.o1
        have hw2 := HO.out.o2
        have hw3 := HO.out.o3
        have hw4 := HO.out.o4
        have hszr := HW.out.size
        have HFin : Hid (∀ (W : World), Chg [w.heap.size + 3, w.heap.size + 3 + 1] wr W → w.heap.size ≤ X.heap.size ∧ X.heap.size < W.heap.size ∧ MapF W 9 X.heap.size m (hdF H) ∧ H.map (·.1) = s ∧ (∀ i, i < H.length → OwnK kZ W w.heap.size (H.getD i sh0).2.v ((hadN (A.map (·.1)) P (allP p) s).2.getD i [])) ∧ Below w.heap.size w W) := fun W hc => by
          have ht : s.take m = s := List.take_of_length_le (by rw [HSl.out]; exact Nat.le_refl _)
          have hz := hc.size
          refine ⟨hwX, by omega, HW.out.had.keep (hc.block _ HW.out.had.lt (by simp; omega)), by rw [HW.out.names, ht], fun i hi => ?_, HW.out.below.trans (hc.below (fun k hk => by simp at hk; omega) (by omega))⟩
          have hr := HW.out.rows i hi
          rw [ht] at hr
          exact (hr.chg hc (fun g hg hm => by have := (hr.block g hg).1; simp at hm; omega)).mono (by omega)
        have HDf := hid HW.out.dfr
        have HP := hid hpc
        clear HW HA hpc hw1 hw2 hw3 hw4 hszr
        gi_wp2
        refine ⟨by simp, .inl ⟨_, _, rfl, run_takeDeferred HDf.out, ?_⟩⟩
        exact ⟨_, results_tmp Tryz.results74 _ _ _, X.heap.size, H, rfl, by rw [HSe.out]; exact HFin.out _ HP.out⟩
  case stop => exact fun k X hk h _ => h.elim
end Go.Proofs.YtipgociofjokeaaGreat
namespace Go.Proofs.YtipgociofjokeaaGreat
open Go.RowKit Go.Sort
variable {w w' : World}

theorem ArgK.take {α : Type} {K : Kd α} {l : List α} {ad : Option Addr} {m c : Nat} (h : ArgK K w l ad m c) (k : Nat) (hk : k ≤ m) : ArgK K w (l.take k) ad k c := by
  have hl := h.len
  refine ⟨by rw [List.length_take]; omega, fun e => by have := h.nil e; omega, by have := h.cap; omega, h.room, ?_⟩
  rcases h.row with h1 | ⟨b, off, e, hb, hc⟩
  · exact Or.inl (by rw [h1]; simp)
  · refine Or.inr ⟨b, off, e, hb, fun i hi cc hcc => ?_⟩
    rw [List.length_take] at hi
    rw [hc i (by omega) cc hcc, List.getD_eq_getElem?_getD, List.getD_eq_getElem?_getD, List.getElem?_take, if_pos (by omega)]
/-- What a name had, by the map. -/
structure HadI (hb M : Nat) (N : Nat) (H : List ShA) (P : List (List Int)) (W : World) : Prop where
  box : Blk W hb #[.map (some M)] TMp
  map : MapF W 9 M 1000 (hdF H)
  len : H.length = P.length
  rows : ∀ i, i < H.length → OwnK kZ W N (H.getD i sh0).2.v (P.getD i [])
/-- Where all that lies. -/
structure HadO (p : Pl) (hb M N0 N : Nat) (H : List ShA) : Prop where
  names : (H.map (·.1)).Nodup
  lh : hb < N
  lM : M < N
  hD : hb ≠ p.D ∧ hb ≠ p.b ∧ hb ≠ p.rb
  MD : M ≠ p.D ∧ M ≠ p.b ∧ M ≠ p.rb
  rows : ∀ i g, i < H.length → (H.getD i sh0).2.v.ownBlock = some g → g < N ∧ g ≠ p.D ∧ g ≠ p.b ∧ g ≠ p.rb
structure SInv (p : Pl) (base hb M N0 : Nat) (H : List ShA) (P : List (List Int)) (s : Dk) (W : World) : Prop where
  r : RInv p base s W
  h : HadI hb M N0 H P W
  lb : p.b < W.heap.size
theorem HadI.chg {p : Pl} {hb M N0 N : Nat} {H : List ShA} {P : List (List Int)} {W W' : World} {G : List Nat} (h : HadI hb M N0 H P W) (ho : HadO p hb M N0 N H) (hc : Chg G W W') (hG : ∀ g ∈ G, N ≤ g ∨ g = p.D ∨ g = p.b ∨ g = p.rb) : HadI hb M N0 H P W' := by
  have hn : ∀ k, k < N → k ≠ p.D → k ≠ p.b → k ≠ p.rb → k ∉ G := fun k h1 h2 h3 h4 hm => by rcases hG k hm with h | h | h | h; omega; exact h2 h; exact h3 h; exact h4 h
  refine ⟨h.box.chg hc (hn hb ho.lh ho.hD.1 ho.hD.2.1 ho.hD.2.2), h.map.keep (hc.block _ h.map.lt (hn M ho.lM ho.MD.1 ho.MD.2.1 ho.MD.2.2)), h.len, fun i hi => ?_⟩
  exact (h.rows i hi).chg hc (fun g hg => by obtain ⟨a, b, c, d⟩ := ho.rows i g hi hg; exact hn g a b c d)
theorem HadI.later {hb M N0 : Nat} {H : List ShA} {P : List (List Int)} {W W' : World} (h : HadI hb M N0 H P W) (hb' : Below W.heap.size W W') : HadI hb M N0 H P W' :=
  ⟨h.box.later hb', h.map.keep (hb'.block _ h.map.lt), h.len, fun i hi => (h.rows i hi).later hb'⟩
theorem SInv.keep {p : Pl} {base hb M N0 N : Nat} {H : List ShA} {P : List (List Int)} {s : Dk} {W W' : World} {G : List Nat} (h : SInv p base hb M N0 H P s W) (hp : p.ok N) (ho : HadO p hb M N0 N H) (hc : Chg G W W') (hG : ∀ g ∈ G, N ≤ g) : SInv p base hb M N0 H P s W' :=
  ⟨h.r.keep hp hc hG, h.h.chg ho hc (fun g hg => Or.inl (hG g hg)), Nat.lt_of_lt_of_le h.lb hc.size⟩
theorem SInv.later {p : Pl} {base hb M N0 : Nat} {H : List ShA} {P : List (List Int)} {s : Dk} {W W' : World} (h : SInv p base hb M N0 H P s W) (hb' : Below W.heap.size W W') : SInv p base hb M N0 H P s W' := ⟨h.r.later hb', h.h.later hb', Nat.lt_of_lt_of_le h.lb hb'.size⟩
theorem lstd_look : ∀ (H : List ShA) (P : List (List Int)) (nm : Nm), H.length = P.length → nm ∈ H.map (·.1) → ∃ i, i < H.length ∧ (H.getD i sh0).1 = nm ∧ lstd (H.map (·.1)) P nm = P.getD i []
  | [], _, _, _, hm => by simp at hm
  | _ :: _, [], _, hl, _ => by simp at hl
  | x :: H, q :: P, nm, hl, hm => by
    by_cases e : x.1 = nm
    · refine ⟨0, by simp, e, ?_⟩
      show (if x.1 = nm then q else _) = q
      rw [if_pos e]
    · have hm2 : nm ∈ H.map (·.1) := by rw [List.map_cons] at hm; rcases List.mem_cons.1 hm with h | h; exact absurd h.symm e; exact h
      obtain ⟨i, h1, h2, h3⟩ := lstd_look H P nm (by simpa using hl) hm2
      refine ⟨i + 1, by simp; exact h1, by simpa using h2, ?_⟩
      show (if x.1 = nm then q else lstd (H.map (·.1)) P nm) = _
      rw [if_neg e, h3]
      simp
theorem lstd_none : ∀ (ns : List Nm) (P : List (List Int)) (nm : Nm), nm ∉ ns → lstd ns P nm = []
  | [], _, _, _ => by unfold lstd; rfl
  | _ :: _, [], _, _ => by unfold lstd; rfl
  | n :: ns, q :: P, nm, h => by
    show (if n = nm then q else lstd ns P nm) = []
    rw [if_neg (fun e => h (by rw [e]; simp)), lstd_none ns P nm (fun hm => h (List.mem_cons_of_mem _ hm))]
/-- What had[name] is. -/
theorem HadI.look {p : Pl} {hb M N0 N : Nat} {H : List ShA} {P : List (List Int)} {W : World} (h : HadI hb M N0 H P W) (ho : HadO p hb M N0 N H) (nm : Nm) (hn : nm.length ≤ 64) :
    ∃ s : Sl, (Instr.lookup TMp (.map (some M)) (.string (nmS nm)) false).run Tryz.prog W = .ok s.v W ∧ OwnK kZ W N0 s.v (lstd (H.map (·.1)) P nm) ∧ ∀ g, s.v.ownBlock = some g → g ≠ p.D ∧ g ≠ p.b ∧ g ≠ p.rb := by
  have hlk := h.map.look keyN Tryz.underlying106 (zeroM W) (keyOf_n nm (by unfold maxLen; omega))
  by_cases hm : nm ∈ H.map (·.1)
  · obtain ⟨i, h1, h2, h3⟩ := lstd_look H P nm h.len hm
    refine ⟨(H.getD i sh0).2, ?_, by rw [h3]; exact h.rows i h1, fun g hg => (ho.rows i g h1 hg).2⟩
    have hl := hdF_look H ho.names i h1
    rw [h2] at hl
    rw [hlk, hl]
    rfl
  · refine ⟨sl0, ?_, by rw [lstd_none _ _ _ hm]; exact OwnK.nil (K := kZ) W N0, fun g hg => by cases hg⟩
    have hl : hdF H (.string nm) = none := fold_other H _ nm hm
    rw [hlk, hl]
    rfl
/-- The pick of wanted cards by a step. -/
def pickD (ws : List Int) (s : Dk) : List Int × Dk := (risZ (pickN s.1 ws).2, ((pickN s.1 ws).1, s.2))
theorem pickD_len (ws : List Int) (s : Dk) : (pickD ws s).1.length ≤ s.1.length := by show (risZ _).length ≤ _; rw [risZ_len]; have := pickN_len s.1 ws; omega
theorem pick_inv {p : Pl} {base hb M N0 N : Nat} {H : List ShA} {P : List (List Int)} {s : Dk} {W : World} (h : SInv p base hb M N0 H P s W) (hp : p.ok N) (ho : HadO p hb M N0 N H) {ws : List Int} {ad : Option Addr} {m c : Nat} (ha : ArgK kZ W ws ad m c) (hn : ws ≠ [] → ∀ b' off, ad = some ⟨b', off, none⟩ → b' ≠ p.D ∧ b' ≠ p.b) :
    Calls Tryz.prog 77 #[.pointer (some ⟨p.D, 0, none⟩), .slice ad m c] W fun e W' => ∃ v, e = .returned v ∧ OwnK kZ W' W.heap.size v (pickD ws s).1 ∧ SInv p base hb M N0 H P (pickD ws s).2 W' ∧ Chg p.F W W' := by
  refine (pick_any h.r.dk h.lb h.r.rise (by have := h.r.len; omega) ha hn).mono ?_
  rintro e W' ⟨v, rfl, hO, hd, hc⟩
  refine ⟨v, rfl, hO, ⟨h.r.deck hp hc hd (pickN_rise _ _ h.r.rise) (by have := pickN_len s.1 ws; have := h.r.len; omega), h.h.chg ho hc (fun g hg => by simp at hg; rcases hg with h | h; exact Or.inr (Or.inl h); exact Or.inr (Or.inr (Or.inl h))), Nat.lt_of_lt_of_le h.lb hc.size⟩, hc.mono (by intro k hk; simp at hk; rcases hk with rfl | rfl <;> simp [Pl.F])⟩
theorem drawS_inv {p : Pl} {base hb M N0 N : Nat} {H : List ShA} {P : List (List Int)} {s : Dk} {W : World} (h : SInv p base hb M N0 H P s W) (hp : p.ok N) (ho : HadO p hb M N0 N H) (n : Int) :
    Calls Tryz.prog 80 #[.pointer (some ⟨p.D, 0, none⟩), .int .i64 n] W fun e W' => ∃ v, e = .returned v ∧ OwnK kZ W' W.heap.size v (drawN n s).1 ∧ SInv p base hb M N0 H P (drawN n s).2 W' ∧ Chg p.F W W' := by
  refine (draw_inv h.r hp n).mono ?_
  rintro e W' ⟨v, rfl, hO, hI, hc⟩
  exact ⟨v, rfl, hO, ⟨hI, h.h.chg ho hc (fun g hg => by simp [Pl.F] at hg; exact Or.inr hg), Nat.lt_of_lt_of_le h.lb hc.size⟩, hc⟩
/-- The four steps of Sticky. -/
def fKeep (base : Nat) (ns : List Nm) (P : List (List Int)) : Stp Dk := fun s nm _ => pickD ((lstd ns P nm).take base) s
def fOne (base : Nat) (ns : List Nm) (P : List (List Int)) : Stp Dk := fun s nm _ => if (lstd ns P nm).length ≤ base ∨ s.2 = 0 then ([], s) else pickD (((lstd ns P nm).drop base).take 1) (s.1, s.2 - 1)
def fFill (base : Nat) : Stp Dk := fun s _ m => drawN ((base : Int) - (m : Int)) s
def fLast (base : Nat) : Stp Dk := fun s _ m => drawN ((base : Int) + 1 - (m : Int)) s
theorem enters_s1 : ∀ args w, (callFunc 76 args).run Tryz.prog w = .ok (.enter 76 args) w := fun _ _ => by kernel_rfl
theorem enters_s2 : ∀ args w, (callFunc 78 args).run Tryz.prog w = .ok (.enter 78 args) w := fun _ _ => by kernel_rfl
theorem enters_s3 : ∀ args w, (callFunc 79 args).run Tryz.prog w = .ok (.enter 79 args) w := fun _ _ => by kernel_rfl
theorem enters_s4 : ∀ args w, (callFunc 81 args).run Tryz.prog w = .ok (.enter 81 args) w := fun _ _ => by kernel_rfl
section
variable (p : Pl) (base hb M N0 N : Nat) (H : List ShA) (P : List (List Int)) (hp : p.ok N) (ho : HadO p hb M N0 N H) (hbs : base ≤ 1048576)
include hp ho hbs
set_option maxHeartbeats 1000000 in
theorem step3 : StepL (fFill base) 79 #[.pointer (some ⟨p.fb, 0, none⟩), .pointer (some ⟨p.bb, 0, none⟩)] p.F (SInv p base hb M N0 H P) := by
  refine ⟨enters_s3, fun s W nm ad m c h _ hm => ⟨Nat.le_trans (drawN_len _ _) (by have := h.r.len; omega), ?_⟩⟩
  obtain ⟨W1, hW1⟩ : ∃ W1, W.alloc (.cells #[.string (nmS nm), .slice ad m c] 87) = W1 := ⟨_, rfl⟩
  have hb1 : Below W.heap.size W W1 := by rw [← hW1]; exact (Below.refl _ _).alloc (Nat.le_refl _) _
  have hx1 : Blk W1 W.heap.size #[.string (nmS nm), .slice ad m c] 87 := by rw [← hW1]; exact heap_alloc_new W _
  have h1 := h.later hb1
  have c0 := h1.r.free.cell 0
  have c1 := h1.r.bas.cell 0
  have c2 := hx1.cell 1
  simp only [List.getElem?_toArray, List.getElem?_cons_zero, List.getElem?_cons_succ] at c0 c1 c2
  have HB1 := hid hb1
  have HV : Hid (fFill base s nm m = drawN ((base : Int) - (m : Int)) s) := rfl
  have HD := hid (drawS_inv h1 hp ho ((base : Int) - (m : Int)))
  rw [HV.out]
  show Calls Tryz.prog 79 #[.agg #[.string (nmS nm), .slice ad m c], .pointer (some ⟨p.fb, 0, none⟩), .pointer (some ⟨p.bb, 0, none⟩)] W _
  clear h h1 hb1 hx1 HV
  generalize nmS nm = ns at *
  go_enter Tryz.func79, Tryz.ntmps79
  go_wp2_with (go_at_call 80; (with_reducible_and_instances (refine HD.out.mono ?_)); rintro e W2 ⟨v, rfl, hO, hI, hc⟩; have HO := hid hO; have HI := hid hI; have HC := hid hc; clear hO hI hc)
  go_ret
  exact ⟨v, rfl, HO.out.mono HB1.out.size, HI.out, (Chg.of HB1.out).trans HC.out (fun k hk => Or.inl hk)⟩
set_option maxHeartbeats 1000000 in
theorem step4 : StepL (fLast base) 81 #[.pointer (some ⟨p.fb, 0, none⟩), .pointer (some ⟨p.bb, 0, none⟩)] p.F (SInv p base hb M N0 H P) := by
  refine ⟨enters_s4, fun s W nm ad m c h _ hm => ⟨Nat.le_trans (drawN_len _ _) (by have := h.r.len; omega), ?_⟩⟩
  obtain ⟨W1, hW1⟩ : ∃ W1, W.alloc (.cells #[.string (nmS nm), .slice ad m c] 87) = W1 := ⟨_, rfl⟩
  have hb1 : Below W.heap.size W W1 := by rw [← hW1]; exact (Below.refl _ _).alloc (Nat.le_refl _) _
  have hx1 : Blk W1 W.heap.size #[.string (nmS nm), .slice ad m c] 87 := by rw [← hW1]; exact heap_alloc_new W _
  have h1 := h.later hb1
  have c0 := h1.r.free.cell 0
  have c1 := h1.r.bas.cell 0
  have c2 := hx1.cell 1
  simp only [List.getElem?_toArray, List.getElem?_cons_zero, List.getElem?_cons_succ] at c0 c1 c2
  have HB1 := hid hb1
  have HV : Hid (fLast base s nm m = drawN ((base : Int) + 1 - (m : Int)) s) := rfl
  have HD := hid (drawS_inv h1 hp ho ((base : Int) + 1 - (m : Int)))
  rw [HV.out]
  show Calls Tryz.prog 81 #[.agg #[.string (nmS nm), .slice ad m c], .pointer (some ⟨p.fb, 0, none⟩), .pointer (some ⟨p.bb, 0, none⟩)] W _
  clear h h1 hb1 hx1 HV
  generalize nmS nm = ns at *
  go_enter Tryz.func81, Tryz.ntmps81
  go_wp2_with (go_at_call 80; (with_reducible_and_instances (refine HD.out.mono ?_)); rintro e W2 ⟨v, rfl, hO, hI, hc⟩; have HO := hid hO; have HI := hid hI; have HC := hid hc; clear hO hI hc)
  go_ret
  exact ⟨v, rfl, HO.out.mono HB1.out.size, HI.out, (Chg.of HB1.out).trans HC.out (fun k hk => Or.inl hk)⟩
omit hbs in
set_option maxHeartbeats 2000000 in
theorem step1 : StepL (fKeep base (H.map (·.1)) P) 76 #[.pointer (some ⟨hb, 0, none⟩), .pointer (some ⟨p.fb, 0, none⟩), .pointer (some ⟨p.bb, 0, none⟩)] p.F (SInv p base hb M N0 H P) := by
  refine ⟨enters_s1, fun s W nm ad m c h hn hm => ⟨Nat.le_trans (pickD_len _ _) (by have := h.r.len; omega), ?_⟩⟩
  obtain ⟨W1, hW1⟩ : ∃ W1, W.alloc (.cells #[.string (nmS nm), .slice ad m c] 87) = W1 := ⟨_, rfl⟩
  have hb1 : Below W.heap.size W W1 := by rw [← hW1]; exact (Below.refl _ _).alloc (Nat.le_refl _) _
  have hx1 : Blk W1 W.heap.size #[.string (nmS nm), .slice ad m c] 87 := by rw [← hW1]; exact heap_alloc_new W _
  have h1 := h.later hb1
  have c0 := h1.r.free.cell 0
  have c1 := h1.r.bas.cell 0
  have c2 := hx1.cell 0
  have c3 := h1.h.box.cell 0
  simp only [List.getElem?_toArray, List.getElem?_cons_zero] at c0 c1 c2 c3
  have HB1 := hid hb1
  obtain ⟨mine, hmine⟩ : ∃ mine, lstd (H.map (·.1)) P nm = mine := ⟨_, rfl⟩
  have HV : Hid (fKeep base (H.map (·.1)) P s nm m = pickD (mine.take base) s) := by rw [← hmine]; exact rfl
  rw [HV.out]
  obtain ⟨⟨sa, sm, sc⟩, hlk, hO, hbk⟩ := h1.h.look ho nm hn
  rw [hmine] at hO
  obtain ⟨ad0, c0', e0, hA⟩ := hO.form kZ_ok.tofit
  obtain ⟨rfl, hsm, rfl⟩ : sa = ad0 ∧ sm = mine.length ∧ sc = c0' := by unfold Sl.v at e0; injection e0 with e1 e2 e3; exact ⟨e1, e2, e3⟩
  unfold Sl.v at hlk
  obtain ⟨k, hk⟩ : ∃ k, k = min base mine.length := ⟨_, rfl⟩
  have htk : mine.take k = mine.take base := by rw [hk]; apply List.ext_getElem?; intro i; simp only [List.getElem?_take]; by_cases h2 : i < mine.length; (by_cases h3 : i < base; rw [if_pos (by omega), if_pos h3]; rw [if_neg (by omega), if_neg h3]); (rw [List.getElem?_eq_none (by omega)]; simp)
  have hki : min (base : Int) (sm : Int) = (k : Int) := by omega
  have hks : k ≤ sm := by omega
  have hkc : k ≤ sc := by have := hA.cap; omega
  have hcm : sc ≤ 9223372036854775807 := by have := hA.room; unfold maxLen at this; omega
  have hT := hA.take k (by omega)
  rw [htk] at hT
  have hown : ∀ b' off, sa = some ⟨b', off, none⟩ → b' ≠ p.D ∧ b' ≠ p.b := fun b' off e => by
    have hf : (Value.slice sa sm sc).ownBlock = some b' := by
      rcases hO.2 with ⟨e2, -⟩ | ⟨g, cap, cur, e2, -⟩
      · unfold Sl.v at e2; rw [e] at e2; cases e2
      · unfold Sl.v at e2; rw [e] at e2; cases e2; rw [e]; rfl
    exact ⟨(hbk b' hf).1, (hbk b' hf).2.1⟩
  have hgg : sa = none ∧ sm = 0 ∧ sc = 0 ∨ ∃ g, sa = some ⟨g, 0, none⟩ := by
    rcases hO.2 with ⟨e2, -⟩ | ⟨g, cap, cur, e2, -⟩
    · unfold Sl.v at e2; cases e2; exact Or.inl ⟨rfl, rfl, rfl⟩
    · unfold Sl.v at e2; cases e2; exact Or.inr ⟨g, rfl⟩
  have hdr : Below W1.heap.size W1 W1.drew := (Below.refl _ _).drew
  have HPk : Hid _ := hid (pick_inv (h1.later hdr) hp ho (W := W1.drew) (hT.later hdr) (fun _ => hown))
  have HS : Hid (W1.drew.cell? ⟨p.fb, 0, none⟩ = some (.pointer (some ⟨p.D, 0, none⟩)) ∧ W1.drew.cell? ⟨p.bb, 0, none⟩ = some (.int .i64 (base : Int))) := ⟨c0, c1⟩
  show Calls Tryz.prog 76 #[.agg #[.string (nmS nm), .slice ad m c], .pointer (some ⟨hb, 0, none⟩), .pointer (some ⟨p.fb, 0, none⟩), .pointer (some ⟨p.bb, 0, none⟩)] W _
  clear h h1 hb1 hx1 HV hO hA hT hown hdr hbk e0 hmine htk hk hn hsm
  generalize nmS nm = ns at *
  rcases hgg with ⟨rfl, rfl, rfl⟩ | ⟨g, rfl⟩
  · obtain rfl : k = 0 := by omega
    have hki0 : min (base : Int) 0 = 0 := by omega
    clear hki hks hkc
    go_enter Tryz.func76, Tryz.ntmps76
    go_wp2_with fail
    refine wp_region_held_drew (S := fun W => W.cell? ⟨p.fb, 0, none⟩ = some (.pointer (some ⟨p.D, 0, none⟩)) ∧ W.cell? ⟨p.bb, 0, none⟩ = some (.int .i64 (base : Int))) (by kernel_rfl) (HS.out) (fun hHeld => ?_)
    refine wpAnyH_take (i := 0) (oi := { dst := some 11, op := Op.load 104 (Operand.tmp 2), type := 104, pos := "assign.go:48", after := #[], guard := none }) (v := ?_) rfl (by kernel_rfl) (by kernel_rfl) (by kernel_rfl) (fun _ _ _ h => h) (Or.inl ⟨by rfl, ?_⟩) hHeld ?_
    rotate_left
    · intro w hSw; (try dsimp only at hSw); go_simp; try with_reducible rfl
    try simp only [Act.put, List.setIfInBounds_toArray, List.set_cons_zero, List.set_cons_succ]
    refine wpAnyH_take (i := 1) (oi := { dst := some 12, op := Op.move (Operand.tmp 6), type := 34, pos := "assign.go:48", after := #[], guard := none }) (v := ?_) rfl (by kernel_rfl) (by kernel_rfl) (by kernel_rfl) (fun _ _ _ h => h) (Or.inl ⟨by rfl, ?_⟩) hHeld ?_
    rotate_left
    · intro w hSw; (try dsimp only at hSw); go_simp; try with_reducible rfl
    try simp only [Act.put, List.setIfInBounds_toArray, List.set_cons_zero, List.set_cons_succ]
    refine wpAnyH_take (i := 2) (oi := { dst := some 13, op := Op.load 3 (Operand.tmp 3), type := 3, pos := "assign.go:48", after := #[], guard := none }) (v := ?_) rfl (by kernel_rfl) (by kernel_rfl) (by kernel_rfl) (fun _ _ _ h => h) (Or.inl ⟨by rfl, ?_⟩) hHeld ?_
    rotate_left
    · intro w hSw; (try dsimp only at hSw); go_simp; try with_reducible rfl
    try simp only [Act.put, List.setIfInBounds_toArray, List.set_cons_zero, List.set_cons_succ]
    refine wpAnyH_take (i := 3) (oi := { dst := some 14, op := Op.move (Operand.tmp 6), type := 34, pos := "assign.go:48", after := #[], guard := none }) (v := ?_) rfl (by kernel_rfl) (by kernel_rfl) (by kernel_rfl) (fun _ _ _ h => h) (Or.inl ⟨by rfl, ?_⟩) hHeld ?_
    rotate_left
    · intro w hSw; (try dsimp only at hSw); go_simp; try with_reducible rfl
    try simp only [Act.put, List.setIfInBounds_toArray, List.set_cons_zero, List.set_cons_succ]
    refine wpAnyH_take (i := 4) (oi := { dst := some 15, op := Op.call { callee := Callee.builtin Builtin.len, args := #[Operand.tmp 14], argTypes := #[34] }, type := 3, pos := "assign.go:48", after := #[{ on := 3, ground := Ground.data }], guard := none }) (v := ?_) rfl (by kernel_rfl) (by kernel_rfl) (by kernel_rfl) (fun _ _ _ h => h) (Or.inl ⟨by rfl, ?_⟩) hHeld ?_
    rotate_left
    · intro w hSw; (try dsimp only at hSw); go_simp; try with_reducible rfl
    try simp only [Act.put, List.setIfInBounds_toArray, List.set_cons_zero, List.set_cons_succ]
    refine wpAnyH_take (i := 5) (oi := { dst := some 16, op := Op.call { callee := Callee.builtin Builtin.min, args := #[Operand.tmp 13, Operand.tmp 15], argTypes := #[3, 3] }, type := 3, pos := "assign.go:48", after := #[{ on := 2, ground := Ground.data }, { on := 4, ground := Ground.data }], guard := none }) (v := ?_) rfl (by kernel_rfl) (by kernel_rfl) (by kernel_rfl) (fun _ _ _ h => h) (Or.inl ⟨by rfl, ?_⟩) hHeld ?_
    rotate_left
    · intro w hSw; (try dsimp only at hSw); go_simp; try with_reducible rfl
    try simp only [Act.put, List.setIfInBounds_toArray, List.set_cons_zero, List.set_cons_succ]
    refine wpAnyH_take (i := 6) (oi := { dst := some 17, op := Op.slice 34 (Operand.tmp 12) none (some (Operand.tmp 16)) none, type := 34, pos := "assign.go:48", after := #[{ on := 1, ground := Ground.data }, { on := 5, ground := Ground.data }], guard := none }) (v := ?_) rfl (by kernel_rfl) (by kernel_rfl) (by kernel_rfl) (fun _ _ _ h => h) (Or.inl ⟨by rfl, ?_⟩) hHeld ?_
    rotate_left
    · intro w hSw; (try dsimp only at hSw); go_simp; try with_reducible rfl
    try simp only [Act.put, List.setIfInBounds_toArray, List.set_cons_zero, List.set_cons_succ]
    refine wpAnyH_ready (rs := [7]) (by kernel_rfl) (by simp) ?_
    refine AllReadyH.cons rfl (fun K hK => ?_) (AllReadyH.nil)
    go_simp
    go_wp2_with (go_at_call 77; (with_reducible_and_instances (refine HPk.out.mono ?_)); rintro e W2 ⟨v, rfl, hO2, hI2, hC2⟩; have HO2 := hid hO2; have HI2 := hid hI2; have HC2 := hid hC2; have hS2 := And.intro (Blk.cell hI2.r.free 0) (Blk.cell hI2.r.bas 0); simp only [List.getElem?_toArray, List.getElem?_cons_zero] at hS2; clear hO2 hI2 hC2)
    refine hK.out _ _ (hS2) (fun hHeld => ?_)
    clear hK K
    try simp only [Act.put, List.setIfInBounds_toArray, List.set_cons_zero, List.set_cons_succ]
    refine wpAnyH_take (i := 8) (oi := { dst := some 5, op := Op.assign (Operand.tmp 18), type := 34, pos := "assign.go:48", after := #[{ on := 7, ground := Ground.data }, { on := 7, ground := Ground.chain }, { on := 0, ground := Ground.phase }, { on := 1, ground := Ground.phase }, { on := 2, ground := Ground.phase }, { on := 3, ground := Ground.phase }, { on := 4, ground := Ground.phase }, { on := 5, ground := Ground.phase }, { on := 6, ground := Ground.phase }, { on := 7, ground := Ground.phase }], guard := none }) (v := ?_) rfl (by kernel_rfl) (by kernel_rfl) (by kernel_rfl) (fun _ _ _ h => h) (Or.inl ⟨by rfl, ?_⟩) hHeld ?_
    rotate_left
    · intro w hSw; (try dsimp only at hSw); go_simp; try with_reducible rfl
    try simp only [Act.put, List.setIfInBounds_toArray, List.set_cons_zero, List.set_cons_succ]
    refine wpAnyH_done (by kernel_rfl) ?_ _
    go_wp2_with fail
    go_ret
    exact ⟨v, rfl, HO2.out.mono HB1.out.size, HI2.out, (Chg.of HB1.out).trans (show Chg p.F W1 W2 from ⟨HC2.out.os, HC2.out.tape, HC2.out.output, HC2.out.size, HC2.out.block⟩) (fun k hk => Or.inl hk)⟩
  · go_enter Tryz.func76, Tryz.ntmps76
    go_wp2_with fail
    refine wp_region_held_drew (S := fun W => W.cell? ⟨p.fb, 0, none⟩ = some (.pointer (some ⟨p.D, 0, none⟩)) ∧ W.cell? ⟨p.bb, 0, none⟩ = some (.int .i64 (base : Int))) (by kernel_rfl) (HS.out) (fun hHeld => ?_)
    refine wpAnyH_take (i := 0) (oi := { dst := some 11, op := Op.load 104 (Operand.tmp 2), type := 104, pos := "assign.go:48", after := #[], guard := none }) (v := ?_) rfl (by kernel_rfl) (by kernel_rfl) (by kernel_rfl) (fun _ _ _ h => h) (Or.inl ⟨by rfl, ?_⟩) hHeld ?_
    rotate_left
    · intro w hSw; (try dsimp only at hSw); go_simp; try with_reducible rfl
    try simp only [Act.put, List.setIfInBounds_toArray, List.set_cons_zero, List.set_cons_succ]
    refine wpAnyH_take (i := 1) (oi := { dst := some 12, op := Op.move (Operand.tmp 6), type := 34, pos := "assign.go:48", after := #[], guard := none }) (v := ?_) rfl (by kernel_rfl) (by kernel_rfl) (by kernel_rfl) (fun _ _ _ h => h) (Or.inl ⟨by rfl, ?_⟩) hHeld ?_
    rotate_left
    · intro w hSw; (try dsimp only at hSw); go_simp; try with_reducible rfl
    try simp only [Act.put, List.setIfInBounds_toArray, List.set_cons_zero, List.set_cons_succ]
    refine wpAnyH_take (i := 2) (oi := { dst := some 13, op := Op.load 3 (Operand.tmp 3), type := 3, pos := "assign.go:48", after := #[], guard := none }) (v := ?_) rfl (by kernel_rfl) (by kernel_rfl) (by kernel_rfl) (fun _ _ _ h => h) (Or.inl ⟨by rfl, ?_⟩) hHeld ?_
    rotate_left
    · intro w hSw; (try dsimp only at hSw); go_simp; try with_reducible rfl
    try simp only [Act.put, List.setIfInBounds_toArray, List.set_cons_zero, List.set_cons_succ]
    refine wpAnyH_take (i := 3) (oi := { dst := some 14, op := Op.move (Operand.tmp 6), type := 34, pos := "assign.go:48", after := #[], guard := none }) (v := ?_) rfl (by kernel_rfl) (by kernel_rfl) (by kernel_rfl) (fun _ _ _ h => h) (Or.inl ⟨by rfl, ?_⟩) hHeld ?_
    rotate_left
    · intro w hSw; (try dsimp only at hSw); go_simp; try with_reducible rfl
    try simp only [Act.put, List.setIfInBounds_toArray, List.set_cons_zero, List.set_cons_succ]
    refine wpAnyH_take (i := 4) (oi := { dst := some 15, op := Op.call { callee := Callee.builtin Builtin.len, args := #[Operand.tmp 14], argTypes := #[34] }, type := 3, pos := "assign.go:48", after := #[{ on := 3, ground := Ground.data }], guard := none }) (v := ?_) rfl (by kernel_rfl) (by kernel_rfl) (by kernel_rfl) (fun _ _ _ h => h) (Or.inl ⟨by rfl, ?_⟩) hHeld ?_
    rotate_left
    · intro w hSw; (try dsimp only at hSw); go_simp; try with_reducible rfl
    try simp only [Act.put, List.setIfInBounds_toArray, List.set_cons_zero, List.set_cons_succ]
    refine wpAnyH_take (i := 5) (oi := { dst := some 16, op := Op.call { callee := Callee.builtin Builtin.min, args := #[Operand.tmp 13, Operand.tmp 15], argTypes := #[3, 3] }, type := 3, pos := "assign.go:48", after := #[{ on := 2, ground := Ground.data }, { on := 4, ground := Ground.data }], guard := none }) (v := ?_) rfl (by kernel_rfl) (by kernel_rfl) (by kernel_rfl) (fun _ _ _ h => h) (Or.inl ⟨by rfl, ?_⟩) hHeld ?_
    rotate_left
    · intro w hSw; (try dsimp only at hSw); go_simp; try with_reducible rfl
    try simp only [Act.put, List.setIfInBounds_toArray, List.set_cons_zero, List.set_cons_succ]
    refine wpAnyH_take (i := 6) (oi := { dst := some 17, op := Op.slice 34 (Operand.tmp 12) none (some (Operand.tmp 16)) none, type := 34, pos := "assign.go:48", after := #[{ on := 1, ground := Ground.data }, { on := 5, ground := Ground.data }], guard := none }) (v := ?_) rfl (by kernel_rfl) (by kernel_rfl) (by kernel_rfl) (fun _ _ _ h => h) (Or.inl ⟨by rfl, ?_⟩) hHeld ?_
    rotate_left
    · intro w hSw; (try dsimp only at hSw); go_simp; try with_reducible rfl
    try simp only [Act.put, List.setIfInBounds_toArray, List.set_cons_zero, List.set_cons_succ]
    refine wpAnyH_ready (rs := [7]) (by kernel_rfl) (by simp) ?_
    refine AllReadyH.cons rfl (fun K hK => ?_) (AllReadyH.nil)
    go_simp
    go_wp2_with (go_at_call 77; (with_reducible_and_instances (refine HPk.out.mono ?_)); rintro e W2 ⟨v, rfl, hO2, hI2, hC2⟩; have HO2 := hid hO2; have HI2 := hid hI2; have HC2 := hid hC2; have hS2 := And.intro (Blk.cell hI2.r.free 0) (Blk.cell hI2.r.bas 0); simp only [List.getElem?_toArray, List.getElem?_cons_zero] at hS2; clear hO2 hI2 hC2)
    refine hK.out _ _ (hS2) (fun hHeld => ?_)
    clear hK K
    try simp only [Act.put, List.setIfInBounds_toArray, List.set_cons_zero, List.set_cons_succ]
    refine wpAnyH_take (i := 8) (oi := { dst := some 5, op := Op.assign (Operand.tmp 18), type := 34, pos := "assign.go:48", after := #[{ on := 7, ground := Ground.data }, { on := 7, ground := Ground.chain }, { on := 0, ground := Ground.phase }, { on := 1, ground := Ground.phase }, { on := 2, ground := Ground.phase }, { on := 3, ground := Ground.phase }, { on := 4, ground := Ground.phase }, { on := 5, ground := Ground.phase }, { on := 6, ground := Ground.phase }, { on := 7, ground := Ground.phase }], guard := none }) (v := ?_) rfl (by kernel_rfl) (by kernel_rfl) (by kernel_rfl) (fun _ _ _ h => h) (Or.inl ⟨by rfl, ?_⟩) hHeld ?_
    rotate_left
    · intro w hSw; (try dsimp only at hSw); go_simp; try with_reducible rfl
    try simp only [Act.put, List.setIfInBounds_toArray, List.set_cons_zero, List.set_cons_succ]
    refine wpAnyH_done (by kernel_rfl) ?_ _
    go_wp2_with fail
    go_ret
    exact ⟨v, rfl, HO2.out.mono HB1.out.size, HI2.out, (Chg.of HB1.out).trans (show Chg p.F W1 W2 from ⟨HC2.out.os, HC2.out.tape, HC2.out.output, HC2.out.size, HC2.out.block⟩) (fun k hk => Or.inl hk)⟩
set_option maxHeartbeats 2000000 in
theorem step2 : StepL (fOne base (H.map (·.1)) P) 78 #[.pointer (some ⟨hb, 0, none⟩), .pointer (some ⟨p.bb, 0, none⟩), .pointer (some ⟨p.rb, 0, none⟩), .pointer (some ⟨p.fb, 0, none⟩)] p.F (SInv p base hb M N0 H P) := by
  refine ⟨enters_s2, fun s W nm ad m c h hn hm => ⟨?_, ?_⟩⟩
  · unfold fOne
    have := h.r.len
    split
    · show 0 ≤ _; omega
    · exact Nat.le_trans (pickD_len _ _) (by show s.1.length ≤ _; omega)
  obtain ⟨W1, hW1⟩ : ∃ W1, W.alloc (.cells #[.string (nmS nm), .slice ad m c] 87) = W1 := ⟨_, rfl⟩
  have hb1 : Below W.heap.size W W1 := by rw [← hW1]; exact (Below.refl _ _).alloc (Nat.le_refl _) _
  have hx1 : Blk W1 W.heap.size #[.string (nmS nm), .slice ad m c] 87 := by rw [← hW1]; exact heap_alloc_new W _
  have h1 := h.later hb1
  obtain ⟨dk, r⟩ := s
  have c0 := h1.r.rst.cell 0
  have c1 := h1.r.bas.cell 0
  have c2 := hx1.cell 0
  have c3 := h1.h.box.cell 0
  have f0 := h1.r.rst.free 0
  simp only [List.getElem?_toArray, List.getElem?_cons_zero] at c0 c1 c2 c3
  have HB1 := hid hb1
  obtain ⟨mine, hmine⟩ : ∃ mine, lstd (H.map (·.1)) P nm = mine := ⟨_, rfl⟩
  obtain ⟨⟨sa, sm, sc⟩, hlk, hO, hbk⟩ := h1.h.look ho nm hn
  rw [hmine] at hO
  obtain ⟨ad0, c0', e0, hA⟩ := hO.form kZ_ok.tofit
  obtain ⟨rfl, hsm, rfl⟩ : sa = ad0 ∧ sm = mine.length ∧ sc = c0' := by unfold Sl.v at e0; injection e0 with e1 e2 e3; exact ⟨e1, e2, e3⟩
  unfold Sl.v at hlk
  have hcap := hA.cap
  have hcm : sc ≤ 9223372036854775807 := by have := hA.room; unfold maxLen at this; omega
  have hrs : r ≤ 1048576 := h.r.small
  show Calls Tryz.prog 78 #[.agg #[.string (nmS nm), .slice ad m c], .pointer (some ⟨hb, 0, none⟩), .pointer (some ⟨p.bb, 0, none⟩), .pointer (some ⟨p.rb, 0, none⟩), .pointer (some ⟨p.fb, 0, none⟩)] W _
  by_cases hle : mine.length ≤ base
  · have HV : Hid (fOne base (H.map (·.1)) P (dk, r) nm m = ([], (dk, r))) := by unfold fOne; rw [hmine, if_pos (Or.inl hle)]; exact rfl
    rw [HV.out]
    have HI1 := hid h1
    have hsb : sm ≤ base := by omega
    clear h h1 hb1 hx1 HV hO hA hbk e0 hmine hn hsm hle
    generalize nmS nm = ns at *
    go_enter Tryz.func78, Tryz.ntmps78
    go_wp2_with fail
    go_ret
    exact ⟨_, rfl, OwnK.nil (K := kZ) W1 _, HI1.out, Chg.of HB1.out⟩
  · have hsb : decide (sm ≤ base) = false := by simp; omega
    by_cases h0 : r = 0
    · have HV : Hid (fOne base (H.map (·.1)) P (dk, r) nm m = ([], (dk, r))) := by unfold fOne; rw [hmine, if_pos (Or.inr h0)]; exact rfl
      rw [HV.out]
      subst h0
      have HI1 := hid h1
      clear h h1 hb1 hx1 HV hO hA hbk e0 hmine hn hsm hle
      generalize nmS nm = ns at *
      go_enter Tryz.func78, Tryz.ntmps78
      go_wp2_with fail
      go_ret
      exact ⟨_, rfl, OwnK.nil (K := kZ) W1 _, HI1.out, Chg.of HB1.out⟩
    · have HV : Hid (fOne base (H.map (·.1)) P (dk, r) nm m = pickD ((mine.drop base).take 1) (dk, r - 1)) := by unfold fOne; rw [hmine, if_neg (by rintro (h | h); exact hle h; exact h0 h)]; exact rfl
      rw [HV.out]
      have hz : ((r : Int) == 0) = false := by simp; omega
      obtain ⟨h2, hc2⟩ := h1.r.rest hp (r := r - 1) (by omega)
      rw [show ((r - 1 : Nat) : Int) = (r : Int) - 1 by omega] at h2 hc2
      obtain ⟨g, rfl⟩ : ∃ g, sa = some ⟨g, 0, none⟩ := by
        rcases hO.2 with ⟨e2, -⟩ | ⟨g, cap, cur, e2, -⟩
        · unfold Sl.v at e2; cases e2; exact absurd (by rw [← hsm]; exact Nat.zero_le _) hle
        · unfold Sl.v at e2; cases e2; exact ⟨g, rfl⟩
      obtain ⟨W2, hW2⟩ : ∃ W2, W1.setCell ⟨p.rb, 0, none⟩ (.int .i64 ((r : Int) - 1)) = W2 := ⟨_, rfl⟩
      rw [hW2] at h2 hc2
      have hgb := hbk g rfl
      have hgr : g ≠ p.rb := hgb.2.2
      have hS2 : SInv p base hb M N0 H P (dk, r - 1) W2 := ⟨h2, h1.h.chg ho hc2 (fun g hg => by simp [Pl.F] at hg; exact Or.inr hg), Nat.lt_of_lt_of_le h1.lb hc2.size⟩
      have hA2 : ArgK kZ W2 mine (some ⟨g, 0, none⟩) sm sc := by
        rw [hsm]
        refine hA.chg hc2 (fun _ b' off e => ?_)
        cases e
        simp [Pl.F]
        exact ⟨hgb.1, hgb.2.1, hgr⟩
      have hT : ArgK kZ W2 ((mine.drop base).take 1) (some ⟨g, base, none⟩) 1 (sc - base) := by
        refine ⟨by rw [List.length_take, List.length_drop]; omega, (fun e => by cases e), by omega, by have := hA.room; omega, ?_⟩
        obtain ⟨b2, off2, e2, hb2, hcl⟩ := hA2.cells (by omega)
        cases e2
        refine Or.inr ⟨g, base, rfl, hb2, fun i hi cc hcc => ?_⟩
        rw [List.length_take, List.length_drop] at hi
        obtain rfl : i = 0 := by omega
        have h3 := hcl base (by omega) cc hcc
        rw [Nat.zero_add, show base * kZ.sz = base from Nat.mul_one _] at h3
        rw [Nat.zero_mul, Nat.add_zero, h3, List.getD_eq_getElem?_getD, List.getD_eq_getElem?_getD, List.getElem?_take, if_pos (by omega), List.getElem?_drop, Nat.add_zero]
      have hdr : Below W2.heap.size W2 W2.drew := (Below.refl _ _).drew
      have HPk : Hid _ := hid (pick_inv (h := hS2.later hdr) hp ho (W := W2.drew) (hT.later hdr) (fun _ b' off e => by cases e; exact ⟨hgb.1, hgb.2.1⟩))
      have c4 := h2.free.cell 0
      have c5 := h2.bas.cell 0
      simp only [List.getElem?_toArray, List.getElem?_cons_zero] at c4 c5
      have HS : Hid (W2.drew.cell? ⟨p.fb, 0, none⟩ = some (.pointer (some ⟨p.D, 0, none⟩)) ∧ W2.drew.cell? ⟨p.bb, 0, none⟩ = some (.int .i64 (base : Int))) := ⟨c4, c5⟩
      have HC0 := hid hc2
      have hbc : base + 1 ≤ sc := by omega
      have hbn : sc ≠ base := by omega
      have hw : IntKind.i64.wrap ((base : Int) + 1) = (base : Int) + 1 := by rw [IntKind.wrap_i64]; omega
      have hge : (0 : Int) ≤ (base : Int) + 1 ∧ (base : Int) + 1 ≤ (sc : Int) := by omega
      have hle1 : (base : Int) ≤ (base : Int) + 1 := by omega
      have htn : ((base : Int) + 1).toNat = base + 1 := by omega
      have hsub : base + 1 - base = 1 := by omega
      clear h h1 h2 hb1 hx1 HV hO hA hA2 hT hbk e0 hmine hn hsm hle hS2 hdr hgb hgr h0 hc2
      generalize nmS nm = ns at *
      go_enter Tryz.func78, Tryz.ntmps78
      go_wp2_with fail
      refine wp_region_held_drew (S := fun W => W.cell? ⟨p.fb, 0, none⟩ = some (.pointer (some ⟨p.D, 0, none⟩)) ∧ W.cell? ⟨p.bb, 0, none⟩ = some (.int .i64 (base : Int))) (by kernel_rfl) (HS.out) (fun hHeld => ?_)
      refine wpAnyH_take (i := 0) (oi := { dst := some 22, op := Op.load 104 (Operand.tmp 4), type := 104, pos := "assign.go:56", after := #[], guard := none }) (v := ?_) rfl (by kernel_rfl) (by kernel_rfl) (by kernel_rfl) (fun _ _ _ h => h) (Or.inl ⟨by rfl, ?_⟩) hHeld ?_
      rotate_left
      · intro w hSw; (try dsimp only at hSw); go_simp; try with_reducible rfl
      try simp only [Act.put, List.setIfInBounds_toArray, List.set_cons_zero, List.set_cons_succ]
      refine wpAnyH_take (i := 1) (oi := { dst := some 23, op := Op.move (Operand.tmp 7), type := 34, pos := "assign.go:56", after := #[], guard := none }) (v := ?_) rfl (by kernel_rfl) (by kernel_rfl) (by kernel_rfl) (fun _ _ _ h => h) (Or.inl ⟨by rfl, ?_⟩) hHeld ?_
      rotate_left
      · intro w hSw; (try dsimp only at hSw); go_simp; try with_reducible rfl
      try simp only [Act.put, List.setIfInBounds_toArray, List.set_cons_zero, List.set_cons_succ]
      refine wpAnyH_take (i := 2) (oi := { dst := some 24, op := Op.load 3 (Operand.tmp 2), type := 3, pos := "assign.go:56", after := #[], guard := none }) (v := ?_) rfl (by kernel_rfl) (by kernel_rfl) (by kernel_rfl) (fun _ _ _ h => h) (Or.inl ⟨by rfl, ?_⟩) hHeld ?_
      rotate_left
      · intro w hSw; (try dsimp only at hSw); go_simp; try with_reducible rfl
      try simp only [Act.put, List.setIfInBounds_toArray, List.set_cons_zero, List.set_cons_succ]
      refine wpAnyH_take (i := 3) (oi := { dst := some 25, op := Op.load 3 (Operand.tmp 2), type := 3, pos := "assign.go:56", after := #[], guard := none }) (v := ?_) rfl (by kernel_rfl) (by kernel_rfl) (by kernel_rfl) (fun _ _ _ h => h) (Or.inl ⟨by rfl, ?_⟩) hHeld ?_
      rotate_left
      · intro w hSw; (try dsimp only at hSw); go_simp; try with_reducible rfl
      try simp only [Act.put, List.setIfInBounds_toArray, List.set_cons_zero, List.set_cons_succ]
      refine wpAnyH_take (i := 4) (oi := { dst := some 26, op := Op.binOp BinOp.add 3 (Operand.tmp 25) (Operand.const (Value.int IntKind.i64 1)) 3, type := 3, pos := "assign.go:56", after := #[{ on := 3, ground := Ground.data }], guard := none }) (v := ?_) rfl (by kernel_rfl) (by kernel_rfl) (by kernel_rfl) (fun _ _ _ h => h) (Or.inl ⟨by rfl, ?_⟩) hHeld ?_
      rotate_left
      · intro w hSw; (try dsimp only at hSw); go_simp; try with_reducible rfl
      try simp only [Act.put, List.setIfInBounds_toArray, List.set_cons_zero, List.set_cons_succ]
      refine wpAnyH_take (i := 5) (oi := { dst := some 27, op := Op.slice 34 (Operand.tmp 23) (some (Operand.tmp 24)) (some (Operand.tmp 26)) none, type := 34, pos := "assign.go:56", after := #[{ on := 1, ground := Ground.data }, { on := 2, ground := Ground.data }, { on := 4, ground := Ground.data }], guard := none }) (v := ?_) rfl (by kernel_rfl) (by kernel_rfl) (by kernel_rfl) (fun _ _ _ h => h) (Or.inl ⟨by rfl, ?_⟩) hHeld ?_
      rotate_left
      · intro w hSw; (try dsimp only at hSw); go_simp; try with_reducible rfl
      try simp only [Act.put, List.setIfInBounds_toArray, List.set_cons_zero, List.set_cons_succ]
      refine wpAnyH_ready (rs := [6]) (by kernel_rfl) (by simp) ?_
      refine AllReadyH.cons rfl (fun K hK => ?_) (AllReadyH.nil)
      go_simp
      go_wp2_with (go_at_call 77; (with_reducible_and_instances (refine HPk.out.mono ?_)); rintro e W3 ⟨v, rfl, hO2, hI2, hC2⟩; have HO2 := hid hO2; have HI2 := hid hI2; have HC2 := hid hC2; have hS2 := And.intro (Blk.cell hI2.r.free 0) (Blk.cell hI2.r.bas 0); simp only [List.getElem?_toArray, List.getElem?_cons_zero] at hS2; clear hO2 hI2 hC2)
      refine hK.out _ _ (hS2) (fun hHeld => ?_)
      clear hK K
      try simp only [Act.put, List.setIfInBounds_toArray, List.set_cons_zero, List.set_cons_succ]
      refine wpAnyH_take (i := 7) (oi := { dst := some 6, op := Op.assign (Operand.tmp 28), type := 34, pos := "assign.go:56", after := #[{ on := 6, ground := Ground.data }, { on := 6, ground := Ground.chain }, { on := 0, ground := Ground.phase }, { on := 1, ground := Ground.phase }, { on := 2, ground := Ground.phase }, { on := 3, ground := Ground.phase }, { on := 4, ground := Ground.phase }, { on := 5, ground := Ground.phase }, { on := 6, ground := Ground.phase }], guard := none }) (v := ?_) rfl (by kernel_rfl) (by kernel_rfl) (by kernel_rfl) (fun _ _ _ h => h) (Or.inl ⟨by rfl, ?_⟩) hHeld ?_
      rotate_left
      · intro w hSw; (try dsimp only at hSw); go_simp; try with_reducible rfl
      try simp only [Act.put, List.setIfInBounds_toArray, List.set_cons_zero, List.set_cons_succ]
      refine wpAnyH_done (by kernel_rfl) ?_ _
      go_wp2_with fail
      go_ret
      exact ⟨v, rfl, HO2.out.mono (by have := HB1.out.size; have := HC0.out.size; show W.heap.size ≤ W2.heap.size; omega), HI2.out, ((Chg.of HB1.out).trans HC0.out (fun k hk => Or.inl hk)).trans (show Chg p.F W2 W3 from ⟨HC2.out.os, HC2.out.tape, HC2.out.output, HC2.out.size, HC2.out.block⟩) (fun k hk => Or.inl hk)⟩
end
end Go.Proofs.YtipgociofjokeaaGreat
