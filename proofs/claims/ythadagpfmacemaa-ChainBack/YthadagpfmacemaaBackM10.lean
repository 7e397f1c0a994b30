/- A chain that is told is read as it was, and bytes that are read are told the same: the mathematics of P1007. -/
import Derived.Test.YthadagpfmacemaaCEnc
import Derived.Test.YthadagpfmacemaaCDecN
namespace Go.Proofs.Ythadagpfmacemaa
open Go.RowKit

theorem putsN_nil (s : Nat) : putsN s [] = [] := rfl
theorem putsN_cons (s : Nat) (x : Int) (ns : List Int) : putsN s (x :: ns) = spellN x.toNat s ++ putsN s ns := by unfold putsN; rw [List.flatMap_cons]
theorem putsN_one (s : Nat) (x : Int) : putsN s [x] = spellN x.toNat s := by rw [putsN_cons, putsN_nil, List.append_nil]
theorem valN_inj10 {l l' : List Nat} (hlen : l.length = l'.length) (h : ∀ x ∈ l, x < 256) (h' : ∀ x ∈ l', x < 256) (he : valN l = valN l') : l = l' := by
  induction l generalizing l' with
  | nil => exact (List.eq_nil_of_length_eq_zero hlen.symm).symm
  | cons x l ih =>
    cases l' with
    | nil => cases hlen
    | cons y l' =>
      have hx := h x (by simp)
      have hy := h' y (by simp)
      simp only [valN] at he
      have e1 : x = y := by omega
      have e2 : valN l = valN l' := by omega
      rw [e1, ih (by simpa using hlen) (fun z hz => h z (by simp [hz])) (fun z hz => h' z (by simp [hz])) e2]
theorem spell_val10 (l : List Nat) (n : Nat) (hn : l.length = n) (h : ∀ x ∈ l, x < 256) : spellN (valN l) n = l := by
  subst hn
  refine valN_inj10 (spellN_length _ _) (spellN_lt _ _) h ?_
  rw [valN_spellN]
  exact Nat.mod_eq_of_lt (valN_lt l h)
theorem take_split10 (l : List Nat) (p n m : Nat) : (l.drop p).take (n + m) = (l.drop p).take n ++ (l.drop (p + n)).take m := by
  rw [← List.drop_drop, List.take_add]
theorem spell_nAt (l : List Nat) (hl : ∀ x ∈ l, x < 256) (p s : Nat) (h : p + s ≤ l.length) : spellN (nAt l p s) s = (l.drop p).take s := by
  unfold nAt
  exact spell_val10 _ s (by rw [List.length_take, List.length_drop]; omega) (fun x hx => hl x (List.mem_of_mem_drop (List.mem_of_mem_take hx)))
theorem puts_nodes (l : List Nat) (hl : ∀ x ∈ l, x < 256) (p k : Nat) (h : p + k ≤ l.length) : putsN 1 (nodesAt l p k) = (l.drop p).take k := by
  induction k with
  | zero => rw [List.take_zero]; rfl
  | succ k ih =>
    rw [nodesAt_succ, putsN_snoc, ih (by omega), Int.toNat_natCast, spell_nAt l hl (p + k) 1 (by omega), ← take_split10]
theorem part_back (l : List Nat) (hl : ∀ x ∈ l, x < 256) (p : Nat) (h : partEnd l p ≤ l.length) : partN (partAt l p) = (l.drop p).take (partEnd l p - p) := by
  unfold partEnd at *
  unfold partN partAt
  rw [putsN_cons, putsN_one, putsN_one, nodesAt_length]
  simp only [Int.toNat_natCast]
  rw [spell_nAt l hl p 6 (by omega), spell_nAt l hl (p + 6) 6 (by omega), spell_nAt l hl (p + 12) 1 (by omega), puts_nodes l hl (p + 13) _ (by omega)]
  rw [show p + 13 + nAt l (p + 12) 1 - p = 6 + (6 + (1 + nAt l (p + 12) 1)) by omega, take_split10, take_split10, take_split10]
  simp only [List.append_assoc, show p + 6 + 6 = p + 12 by omega, show p + 12 + 1 = p + 13 by omega]
theorem parts_back (l : List Nat) (hl : ∀ x ∈ l, x < 256) (k : Nat) (h : posAt l k ≤ l.length) : (partsAt l k).flatMap partN = (l.drop 8).take (posAt l k - 8) := by
  induction k with
  | zero => rfl
  | succ k ih =>
    have hk : posAt l (k + 1) = partEnd l (posAt l k) := rfl
    have hle : posAt l k ≤ partEnd l (posAt l k) := by unfold partEnd; omega
    have h8 := posAt_ge l k
    rw [partsAt_succ, List.flatMap_append, List.flatMap_cons, List.flatMap_nil, List.append_nil, ih (by omega), part_back l hl _ (by omega), hk]
    have e := take_split10 l 8 (posAt l k - 8) (partEnd l (posAt l k) - posAt l k)
    rw [show 8 + (posAt l k - 8) = posAt l k by omega] at e
    rw [← e, show posAt l k - 8 + (partEnd l (posAt l k) - posAt l k) = partEnd l (posAt l k) - 8 by omega]
/-- Bytes that are read are told the same. -/
theorem tell_read (l : List Nat) (hl : ∀ x ∈ l, x < 256) (h : posAt l (cntAt l) = l.length) : tellN (readC l).owner (readC l).trim (readC l).parts = l := by
  have h8 := posAt_ge l (cntAt l)
  unfold tellN headN readC
  simp only
  rw [putsN_one, putsN_one, putsN_one, partsAt_length]
  simp only [Int.toNat_natCast]
  rw [parts_back l hl _ (by omega), spell_nAt l hl 0 1 (by omega), spell_nAt l hl 1 6 (by omega)]
  unfold cntAt at *
  rw [spell_nAt l hl 7 1 (by omega)]
  have e1 := take_split10 l 0 1 6
  have e2 := take_split10 l 0 7 1
  have e3 := take_split10 l 0 8 (posAt l (nAt l 7 1) - 8)
  simp only [Nat.zero_add, Nat.reduceAdd] at e1 e2 e3
  rw [← e1, ← e2, ← e3, List.drop_zero, show 8 + (posAt l (nAt l 7 1) - 8) = l.length by omega]
  exact List.take_length
/-- The number at the front of what stands at p. -/
theorem nAt_front (l : List Nat) (p s x : Nat) (r : List Nat) (h : l.drop p = spellN x s ++ r) (hx : x < 2 ^ (8 * s)) : nAt l p s = x := by
  unfold nAt
  rw [h, List.take_append_of_le_length (by rw [spellN_length]; exact Nat.le_refl _), List.take_of_length_le (by rw [spellN_length]; exact Nat.le_refl _), valN_spellN]
  exact Nat.mod_eq_of_lt hx
theorem drop_front' (l : List Nat) (p s x : Nat) (r : List Nat) (h : l.drop p = spellN x s ++ r) : l.drop (p + s) = r := by
  rw [← List.drop_drop, h, List.drop_append_of_le_length (by rw [spellN_length]; exact Nat.le_refl _), List.drop_of_length_le (by rw [spellN_length]; exact Nat.le_refl _), List.nil_append]
theorem nodes_front (l : List Nat) (ns : List Int) (p : Nat) (r : List Nat) (h : l.drop p = putsN 1 ns ++ r) (hn : ∀ x ∈ ns, 0 ≤ x ∧ x < 256) : nodesAt l p ns.length = ns ∧ l.drop (p + ns.length) = r := by
  induction ns generalizing p with
  | nil => exact ⟨rfl, by rw [List.length_nil, Nat.add_zero, h]; rfl⟩
  | cons x ns ih =>
    rw [putsN_cons, List.append_assoc] at h
    have hx := hn x (by simp)
    have h1 := nAt_front l p 1 x.toNat _ h (by have := hx.2; have := hx.1; omega)
    have h2 := drop_front' l p 1 x.toNat _ h
    obtain ⟨h3, h4⟩ := ih (p + 1) h2 (fun y hy => hn y (by simp [hy]))
    refine ⟨?_, by rw [List.length_cons, show p + (ns.length + 1) = p + 1 + ns.length by omega]; exact h4⟩
    rw [List.length_cons]
    unfold nodesAt at *
    rw [List.range_succ_eq_map, List.map_cons, List.map_map]
    congr 1
    · rw [Nat.add_zero, h1]; omega
    · rw [← h3, List.length_map, List.length_range]
      refine List.map_congr_left (fun i _ => ?_)
      simp only [Function.comp, Nat.succ_eq_add_one]
      rw [show p + (i + 1) = p + 1 + i by omega]
theorem part_front (l : List Nat) (q : Pt) (p : Nat) (r : List Nat) (h : l.drop p = partN q ++ r) (hf : FitP q) : partAt l p = q ∧ l.drop (partEnd l p) = r ∧ partEnd l p = p + (partN q).length := by
  obtain ⟨h1, h2, h3, h4⟩ := hf
  unfold partN at h
  rw [putsN_cons, putsN_one, putsN_one, List.append_assoc, List.append_assoc, List.append_assoc] at h
  have a1 := nAt_front l p 6 _ _ h (by have := h1.2; have := h1.1; omega)
  have d1 := drop_front' l p 6 _ _ h
  have a2 := nAt_front l (p + 6) 6 _ _ d1 (by have := h2.2; have := h2.1; omega)
  have d2 := drop_front' l (p + 6) 6 _ _ d1
  rw [show p + 6 + 6 = p + 12 by omega] at d2
  have a3 := nAt_front l (p + 12) 1 _ _ d2 (by simp; omega)
  have d3 := drop_front' l (p + 12) 1 _ _ d2
  rw [show p + 12 + 1 = p + 13 by omega] at d3
  obtain ⟨a4, d4⟩ := nodes_front l q.nodes (p + 13) r d3 h4
  have a5 : nAt l (p + 12) 1 = q.nodes.length := by rw [a3]; simp
  refine ⟨?_, ?_, ?_⟩
  · unfold partAt
    rw [a1, a2, a5, a4, Int.toNat_of_nonneg h1.1, Int.toNat_of_nonneg h2.1]
  · unfold partEnd
    rw [a5]
    exact d4
  · unfold partEnd
    rw [a5, partN_length]
    omega
theorem parts_front (l : List Nat) (L : List Pt) (hf : ∀ q ∈ L, FitP q) (h : l.drop 8 = L.flatMap partN) : ∀ k, k ≤ L.length → partsAt l k = L.take k ∧ l.drop (posAt l k) = (L.drop k).flatMap partN := by
  intro k
  induction k with
  | zero => intro _; exact ⟨rfl, by rw [List.drop_zero]; exact h⟩
  | succ k ih =>
    intro hk
    obtain ⟨h1, h2⟩ := ih (by omega)
    have hd : L.drop k = L[k] :: L.drop (k + 1) := List.drop_eq_getElem_cons (by omega)
    rw [hd, List.flatMap_cons] at h2
    obtain ⟨p1, p2, -⟩ := part_front l L[k] (posAt l k) _ h2 (hf _ (List.getElem_mem _))
    refine ⟨?_, p2⟩
    rw [partsAt_succ, h1, p1, List.take_add_one, List.getElem?_eq_getElem (by omega)]
    rfl
/-- A chain that is told is read as it was. -/
theorem read_tell (o t : Int) (L : List Pt) (ho : 0 ≤ o ∧ o < 256) (ht : 0 ≤ t ∧ t < 281474976710656) (hn : L.length ≤ 64) (hf : ∀ q ∈ L, FitP q) : readC (tellN o t L) = ⟨o, t, L⟩ ∧ posAt (tellN o t L) (cntAt (tellN o t L)) = (tellN o t L).length := by
  obtain ⟨l, hl⟩ : ∃ l, tellN o t L = l := ⟨_, rfl⟩
  have h0 : l.drop 0 = spellN o.toNat 1 ++ (spellN t.toNat 6 ++ (spellN L.length 1 ++ L.flatMap partN)) := by
    rw [List.drop_zero, ← hl]
    unfold tellN headN
    rw [putsN_one, putsN_one, putsN_one, List.append_assoc, List.append_assoc]
    simp
  have a1 := nAt_front l 0 1 _ _ h0 (by have := ho.2; have := ho.1; omega)
  have d1 := drop_front' l 0 1 _ _ h0
  have a2 := nAt_front l 1 6 _ _ d1 (by have := ht.2; have := ht.1; omega)
  have d2 := drop_front' l 1 6 _ _ d1
  have a3 := nAt_front l 7 1 _ _ d2 (by omega)
  have d3 := drop_front' l 7 1 _ _ d2
  obtain ⟨p1, p2⟩ := parts_front l L hf d3 L.length (Nat.le_refl _)
  rw [hl]
  have hc : cntAt l = L.length := a3
  rw [List.take_of_length_le (Nat.le_refl _)] at p1
  rw [List.drop_of_length_le (Nat.le_refl _), List.flatMap_nil] at p2
  refine ⟨?_, ?_⟩
  · unfold readC
    rw [a1, a2, hc, p1, Int.toNat_of_nonneg ho.1, Int.toNat_of_nonneg ht.1]
  · rw [hc]
    have hge : l.length ≤ posAt l L.length := by
      have := List.length_drop (i := posAt l L.length) (l := l)
      rw [p2, List.length_nil] at this
      omega
    have hlen : l.length = 8 + (L.flatMap partN).length := by rw [← hl]; unfold tellN; rw [List.length_append, headN_length]
    have hpos : ∀ k, k ≤ L.length → posAt l k = 8 + ((L.take k).flatMap partN).length := by
      intro k
      induction k with
      | zero => intro _; rfl
      | succ k ih =>
        intro hk
        obtain ⟨-, q2⟩ := parts_front l L hf d3 k (by omega)
        have hd : L.drop k = L[k] :: L.drop (k + 1) := List.drop_eq_getElem_cons (by omega)
        rw [hd, List.flatMap_cons] at q2
        obtain ⟨-, -, q3⟩ := part_front l L[k] (posAt l k) _ q2 (hf _ (List.getElem_mem _))
        show partEnd l (posAt l k) = _
        rw [q3, ih (by omega), List.take_add_one, List.getElem?_eq_getElem (by omega), List.flatMap_append, List.length_append]
        simp only [Option.toList_some, List.flatMap_cons, List.flatMap_nil, List.append_nil]
        omega
    rw [hpos L.length (Nat.le_refl _), List.take_of_length_le (Nat.le_refl _), hlen]
end Go.Proofs.Ythadagpfmacemaa
