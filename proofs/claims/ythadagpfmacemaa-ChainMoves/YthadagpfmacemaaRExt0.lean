/- Extend of the document's package (by genrext.py). -/
import Derived.Test.YthadagpfmacemaaRCut
import Derived.Test.YthadagpfmacemaaCExt
namespace Go.Proofs.Ythadagpfmacemaa.Rf
open Go.RowKit
variable {w w' : World} {l : List Pt} {A : Nat → Sl} {ad ad1 : Option Addr} {m c m1 c1 : Nat} {ns : List Int}

/-- A part more behind those of the call's own. -/
theorem ext_step {w1 w2 X w3 w6 : World} {ow t : Int} {V v' : Value} {L : List Pt} {A0 : Nat → Sl} {s : Sl} {p : Pt} {ob : Obj}
    (hX : w2.alloc (.cells #[.int .i64 ow, .int .i64 t, V] 24) = X) (h12 : Below w1.heap.size w1 w2) (hown : OwnP 65 w2 w1.heap.size V L A0) (hnew : ∀ i, i < L.length → NewI w2 w1.heap.size (ptAt L i).nodes (A0 i))
    (hr : ∀ i, i < L.length → (-9223372036854775808 ≤ (ptAt L i).first ∧ (ptAt L i).first ≤ 9223372036854775807) ∧ (-9223372036854775808 ≤ (ptAt L i).id ∧ (ptAt L i).id ≤ 9223372036854775807))
    (hp : (-9223372036854775808 ≤ p.first ∧ p.first ≤ 9223372036854775807) ∧ (-9223372036854775808 ≤ p.id ∧ p.id ≤ 9223372036854775807))
    (h3 : Below X.heap.size X w3) (hs : NewI w3 X.heap.size p.nodes s) (h6 : OwnP 65 w6 w1.heap.size v' (L ++ [p]) (fun i => if i < L.length then A0 i else s)) (hg : (w3.alloc ob).grownBy w6 V.ownBlock) :
    Blk w6 w2.heap.size #[.int .i64 ow, .int .i64 t, V] 24 ∧ Below w1.heap.size w1 w6 ∧ ∃ adv cv, v' = .slice adv (L.length + 1) cv ∧ Blk (w6.setCell ⟨w2.heap.size, 2, none⟩ v') w2.heap.size #[.int .i64 ow, .int .i64 t, v'] 24 ∧ CAns (w6.setCell ⟨w2.heap.size, 2, none⟩ v') w1.heap.size (L ++ [p]) adv (L.length + 1) cv ∧ Below w1.heap.size w1 (w6.setCell ⟨w2.heap.size, 2, none⟩ v') := by
  have hbX : Blk X w2.heap.size #[.int .i64 ow, .int .i64 t, V] 24 := by rw [← hX]; exact heap_alloc_new w2 _
  have b0 : Below w2.heap.size w2 X := by rw [← hX]; exact (Below.refl _ _).alloc (Nat.le_refl _) _
  have c0 : Chg [] w2 X := Chg.of b0
  have c3 : Chg [] X w3 := Chg.of h3
  have c4 : Chg [] w3 (w3.alloc ob) := Chg.of ((Below.refl _ _).alloc (Nat.le_refl _) _)
  have c6 := grown_chg hg
  have t0 := owns_typed hown
  have hvlt : ∀ g ∈ V.ownBlock.toList, g < w2.heap.size := fun g hg => by
    obtain ⟨cur, hc⟩ := t0 g hg
    rcases Nat.lt_or_ge g w2.heap.size with hlt | hge
    · exact hlt
    · rw [Array.getElem?_eq_none hge] at hc; cases hc
  have t4 : ∀ g ∈ V.ownBlock.toList, ∃ cur, (w3.alloc ob).heap[g]? = some (.cells cur 65) := fun g hg => by
    obtain ⟨cur, hc⟩ := t0 g hg
    have l0 := hvlt g hg
    refine ⟨cur, ?_⟩
    rw [c4.block g (by have := c0.size; have := c3.size; omega) (by simp), c3.block g (by have := c0.size; omega) (by simp), c0.block g l0 (by simp)]
    exact hc
  have b3 : Below w1.heap.size w1 (w3.alloc ob) := (((h12.trans (b0.mono h12.size))).trans (h3.mono (by have := b0.size; have := h12.size; omega))).alloc (by have := h12.size; have := b0.size; have := h3.size; omega) _
  have b6 : Below w1.heap.size w1 w6 := b3.trans (grown_below hg (fun g e => owns_base hown g e) b3.size)
  have k6 : Blk w6 w2.heap.size #[.int .i64 ow, .int .i64 t, V] 24 := ((hbX.later h3).chg c4 (by simp)).chg c6 (fun hm => by have := hvlt _ hm; omega)
  have c7 : Chg [w2.heap.size] w6 (w6.setCell ⟨w2.heap.size, 2, none⟩ v') := (Chg.refl _ _).set (Or.inl (by simp)) _ _
  have keep : ∀ {lst : List Int} {sl : Sl} {b : Nat}, NewI w3 b lst sl → NewI (w6.setCell ⟨w2.heap.size, 2, none⟩ v') b lst sl := fun {lst sl b} hn => by
    have e4 := hn.chg c4 (fun g hg => by cases hg)
    have e6 := e4.chg c6 (fun g hg cur => by obtain ⟨c0, hc⟩ := t4 g hg; exact part_ne_int hc cur)
    refine e6.chg c7 (fun g hg cur e => ?_)
    simp at hg
    subst hg
    rw [k6] at e
    simp at e
  have hnew' : ∀ i, i < L.length + 1 → NewI (w6.setCell ⟨w2.heap.size, 2, none⟩ v') w1.heap.size (ptAt (L ++ [p]) i).nodes (if i < L.length then A0 i else s) := fun i hi => by
    by_cases e : i < L.length
    · rw [if_pos e, ptAt_left _ _ _ e]
      exact keep (((hnew i e).chg c0 (fun g hg => by cases hg)).chg c3 (fun g hg => by cases hg))
    · obtain rfl : i = L.length := by omega
      rw [if_neg e, ptAt_snoc]
      exact (keep hs).down (by have := h12.size; have := b0.size; omega)
  have h6' : OwnP 65 (w6.setCell ⟨w2.heap.size, 2, none⟩ v') w1.heap.size v' (L ++ [p]) (fun i => if i < L.length then A0 i else s) := by
    refine h6.chg c7 (fun k hk hm => ?_)
    simp at hm
    subst hm
    obtain ⟨cur, hc⟩ := owns_typed h6 _ hk
    rw [k6] at hc
    simp at hc
  obtain ⟨adv, cv, hv, hA, hbl⟩ := h6'.form (fun i hi => ⟨(hnew' i (by simpa using hi)).ints, (hnew' i (by simpa using hi)).nil⟩) (fun i hi => by
    by_cases e : i < L.length
    · rw [ptAt_left _ _ _ e]; exact hr i e
    · obtain rfl : i = L.length := by simp at hi; omega
      rw [ptAt_snoc]; exact hp)
  have hlen : (L ++ [p]).length = L.length + 1 := by simp
  rw [hlen] at hv hA
  refine ⟨k6, b6, adv, cv, hv, by have := k6.set 2 v'; exact this, ⟨_, hA, ⟨fun _ b off e => hbl b off e, fun i hi h0 b off e => ((hnew' i hi).new h0 b off e).1⟩, fun i hi h0 b off e => ((hnew' i hi).new h0 b off e).2⟩, b6.trans (c7.below (fun k hk => by simp at hk; have := h12.size; omega) b6.size)⟩
/-- Numbers that were copied. -/
theorem app_new {X w3 : World} {v1 : Value} {ns : List Int} {m1 : Nat} (hlen : ns.length = m1) (hr : ∀ x ∈ ns, -9223372036854775808 ≤ x ∧ x ≤ 9223372036854775807) (r1 : w3.ownsRow X.heap.size 3 1 v1 (0 + m1) (intsV ([] ++ ns))) (r2 : (X.drew.alloc (.cells #[] 3)).grownBy w3 (Value.slice (some ⟨X.heap.size, 0, none⟩) 0 0).ownBlock) :
    ∃ s : Sl, v1 = .slice s.ad s.m s.c ∧ Hid (NewI w3 X.heap.size ns s) ∧ Hid (Below X.heap.size X w3) := by
  have hoi : OwnI w3 X.heap.size v1 ns := by unfold OwnI; rw [hlen]; simpa using r1
  obtain ⟨s, hv, -, hi, hn, hnew⟩ := hoi.form hr
  refine ⟨s, hv, hid ⟨hi, hn, fun _ => hnew⟩, hid ?_⟩
  exact (((Below.refl _ X).drew).alloc (by simp) _).trans (grown_below r2 (fun g hg => by cases hg; exact Nat.le_refl _) (by simp))
theorem extE_1 {o t n ow e id : Int} (h : ¬ mayC o t l n) : extE o t l n ow e id ns = 1 := by unfold extE; rw [if_neg h]
theorem extE_7 {o t n ow e id : Int} (h : mayC o t l n) (h2 : ¬ (l.length < 64 ∨ e = lastF l)) : extE o t l n ow e id ns = 7 := by unfold extE; rw [if_pos h, if_neg h2]
theorem extE_2 {o t n ow e id : Int} (h : mayC o t l n) (h2 : l.length < 64 ∨ e = lastF l) (h3 : ¬ (max (lastF l) t ≤ e ∧ e ≤ farF l)) : extE o t l n ow e id ns = 1 := by unfold extE; rw [if_pos h, if_pos h2, if_neg h3]
theorem extE_3 {o t n ow e id : Int} (h : mayC o t l n) (h2 : l.length < 64 ∨ e = lastF l) (h3 : max (lastF l) t ≤ e ∧ e ≤ farF l) (h4 : ¬ mayC ow t (extL t l e ⟨e, id, ns⟩) n) : extE o t l n ow e id ns = 1 := by unfold extE; rw [if_pos h, if_pos h2, if_pos h3, if_neg h4]
theorem extE_0 {o t n ow e id : Int} (h : mayC o t l n) (h2 : l.length < 64 ∨ e = lastF l) (h3 : max (lastF l) t ≤ e ∧ e ≤ farF l) (h4 : mayC ow t (extL t l e ⟨e, id, ns⟩) n) : extE o t l n ow e id ns = 0 := by unfold extE; rw [if_pos h, if_pos h2, if_pos h3, if_pos h4]
theorem extC_no {o t n ow e id : Int} (h : extE o t l n ow e id ns ≠ 0) : extC o t l n ow e id ns = ⟨0, 0, []⟩ := by unfold extC; rw [if_neg h]
theorem extC_ok {o t n ow e id : Int} (h : extE o t l n ow e id ns = 0) : extC o t l n ow e id ns = ⟨ow, t, extL t l e ⟨e, id, ns⟩⟩ := by unfold extC; rw [if_pos h]
theorem cap_of {b : Nat} (h : CAns w b l ad m c) : m ≤ c := by obtain ⟨A9, h9, -⟩ := h.arg; exact h9.cap
theorem ptAt_take' (l : List Pt) (k i : Nat) (h : i < (l.take k).length) : ptAt (l.take k) i = ptAt l i := by
  unfold ptAt
  rw [List.length_take] at h
  rw [List.getD_eq_getElem?_getD, List.getD_eq_getElem?_getD, List.getElem?_take_of_lt (by omega)]
/-- The first k parts of the call's own. -/
theorem own_cut {b k : Nat} {adx : Option Addr} {cx : Nat} (h : OwnN w b l (.slice adx m cx)) (hl : l.length = m) (hk : k ≤ m) (h0 : 0 < m ∨ k = m) : ∃ A0, Hid (OwnP 65 w b (.slice adx k cx) (l.take k) A0) ∧ Hid (∀ i, i < (l.take k).length → NewI w b (ptAt (l.take k) i).nodes (A0 i)) := by
  obtain ⟨A0, h1, h2⟩ := h
  refine ⟨A0, hid ?_, hid (fun i hi => ?_)⟩
  · rcases h0 with h0 | rfl
    · exact OwnP.cut h1 (by omega) k (by omega)
    · rw [← hl, List.take_of_length_le (Nat.le_refl _), hl]; exact h1
  · rw [ptAt_take' _ _ _ hi]
    exact h2 i (by rw [List.length_take] at hi; omega)
end Go.Proofs.Ythadagpfmacemaa.Rf
