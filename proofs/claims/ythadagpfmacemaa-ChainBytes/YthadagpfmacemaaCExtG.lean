/- What Extend of package chain answers. -/
import Derived.Test.YthadagpfmacemaaCNeed
import Derived.Test.YthadagpfmacemaaLConf
namespace Go.Proofs.Ythadagpfmacemaa
open Go.RowKit
variable {w w' : World} {l : List Pt} {A : Nat → Sl} {ad : Option Addr} {m c : Nat}

/-- The parts behind an Extend. -/
def extL (t : Int) (l : List Pt) (e : Int) (p : Pt) : List Pt := l.take (needN t l e) ++ [p]
/-- Its error. -/
def extE (o t : Int) (l : List Pt) (n ow e id : Int) (ns : List Int) : Int :=
  if mayC o t l n then (if l.length < 64 ∨ e = lastF l then (if max (lastF l) t ≤ e ∧ e ≤ farF l then (if mayC ow t (extL t l e ⟨e, id, ns⟩) n then 0 else 1) else 1) else 7) else 1
/-- The nodes lie in blocks of numbers. -/
def Typ (w : World) (A : Nat → Sl) (m : Nat) : Prop := ∀ i, i < m → (A i).m ≠ 0 → ∀ b off, (A i).ad = some ⟨b, off, Option.none⟩ → ∃ cur, w.heap[b]? = some (.cells cur 3)
theorem Typ.chg {F : List Nat} (h : Typ w A m) (hb : Chg F w w') (hn : ∀ i, i < m → (A i).m ≠ 0 → ∀ b off, (A i).ad = some ⟨b, off, Option.none⟩ → b ∉ F) : Typ w' A m := by
  intro i hi h0 b off e
  obtain ⟨cur, hc⟩ := h i hi h0 b off e
  have hlt : b < w.heap.size := by
    rcases Nat.lt_or_ge b w.heap.size with hlt | hge
    · exact hlt
    · rw [Array.getElem?_eq_none hge] at hc; cases hc
  exact ⟨cur, (hb.block b hlt (hn i hi h0 b off e)).trans hc⟩
theorem Typ.later (h : Typ w A m) (hb : Below w.heap.size w w') : Typ w' A m := h.chg (F := []) (Chg.of hb) (fun _ _ _ _ _ _ hm => by cases hm)
/-- A chain in memory, with blocks from base on. -/
structure CAns (w : World) (base : Nat) (l : List Pt) (ad : Option Addr) (m c : Nat) : Prop where
  arg : ∃ A, CArg w l A ad m c ∧ CBlk (fun b => base ≤ b) A ad m ∧ Typ w A m
theorem CAns.none (w : World) (base : Nat) : CAns w base [] Option.none 0 0 := ⟨fun _ => ⟨Option.none, 0, 0⟩, CArg.none _ _, ⟨fun h => absurd rfl h, fun _ hi => absurd hi (Nat.not_lt_zero _)⟩, fun _ hi => absurd hi (Nat.not_lt_zero _)⟩
theorem CAns.later {base : Nat} (h : CAns w base l ad m c) (hb : Below w.heap.size w w') : CAns w' base l ad m c := by
  obtain ⟨A, h1, h2, h3⟩ := h.arg
  exact ⟨A, h1.later hb, h2, h3.later hb⟩
theorem CAns.chg {base : Nat} {F : List Nat} (h : CAns w base l ad m c) (hb : Chg F w w') (hF : ∀ g ∈ F, g < base) : CAns w' base l ad m c := by
  obtain ⟨A, h1, h2, h3⟩ := h.arg
  exact ⟨A, h1.chg hb (h2.mono (fun b hb hm => absurd (hF b hm) (by omega))), h2, h3.chg hb (fun i hi h0 b off e hm => absurd (hF b hm) (by have := h2.ints i hi h0 b off e; omega))⟩
theorem CAns.down {base b' : Nat} (h : CAns w base l ad m c) (hb : b' ≤ base) : CAns w b' l ad m c := by
  obtain ⟨A, h1, h2, h3⟩ := h.arg
  exact ⟨A, h1, h2.mono (fun b h => Nat.le_trans hb h), h3⟩
theorem CArg.more (h : CArg w l A ad m c) (i : Nat) (hi : i < m) : (∀ x ∈ (ptAt l i).nodes, -9223372036854775808 ≤ x ∧ x ≤ 9223372036854775807) := (h.ints i hi).1.rng
/-- What two grows make: first those of l0, then p. -/
theorem grown_ans {W1 W2 W3 : World} {v1 v2 : Value} {l0 : List Pt} {A0 A1 A2 : Nat → Sl} {p : Pt} {N : Nat} (g1 : GrowI W1 W1.heap.size [] [] A0 l0 l0.length v1 A1 W2) (W2' : World) (hb : Below W2.heap.size W2 W2') (g2 : GrowI W2' W1.heap.size v1.ownBlock.toList l0 A1 [p] 1 v2 A2 W3)
    (hN : N ≤ W1.heap.size) (hr : ∀ i, i < l0.length → (-9223372036854775808 ≤ (ptAt l0 i).first ∧ (ptAt l0 i).first ≤ 9223372036854775807) ∧ (-9223372036854775808 ≤ (ptAt l0 i).id ∧ (ptAt l0 i).id ≤ 9223372036854775807))
    (hp : (-9223372036854775808 ≤ p.first ∧ p.first ≤ 9223372036854775807) ∧ (-9223372036854775808 ≤ p.id ∧ p.id ≤ 9223372036854775807)) :
    ∃ ad c, v2 = .slice ad (l0.length + 1) c ∧ ∃ A, CArg W3 (l0 ++ [p]) A ad (l0.length + 1) c ∧ CBlk (fun b => N ≤ b ∧ (b < W2.heap.size ∨ W2'.heap.size ≤ b)) A ad (l0.length + 1) ∧ Typ W3 A (l0.length + 1) := by
  have hown := g2.own
  simp only [List.take_succ_cons, List.take_zero] at hown
  have hsz : W1.heap.size ≤ W2.heap.size := g1.chg.size
  have hlt2 : ∀ b cur, W2.heap[b]? = some (.cells cur 3) → b < W2.heap.size := fun b cur hc => by
    rcases Nat.lt_or_ge b W2.heap.size with hlt | hge
    · exact hlt
    · rw [Array.getElem?_eq_none hge] at hc; cases hc
  have hblk : ∀ i, i < l0.length + 1 → (A2 i).m ≠ 0 → ∀ b off, (A2 i).ad = some ⟨b, off, Option.none⟩ → b < W2.heap.size ∨ W2'.heap.size ≤ b := by
    intro i hi h0 b off hb'
    by_cases e : i = l0.length
    · subst e
      have h1 := g2.new 0 (by omega)
      rw [Nat.add_zero] at h1
      exact Or.inr (h1.new h0 b off hb').1
    · rw [g2.old i (by omega)] at h0 hb'
      have h1 := g1.new i (by omega)
      simp only [List.length_nil, Nat.zero_add] at h1
      obtain ⟨-, cur, hc⟩ := h1.new h0 b off hb'
      exact Or.inl (hlt2 b cur hc)
  have hnew : ∀ i, i < l0.length + 1 → NewI W3 W1.heap.size (ptAt (l0 ++ [p]) i).nodes (A2 i) := by
    intro i hi
    by_cases e : i = l0.length
    · subst e
      rw [ptAt_snoc]
      have := (g2.new 0 (by omega))
      rw [Nat.add_zero] at this
      exact this.down (by have := hb.size; omega)
    · rw [ptAt_left _ _ _ (by omega), g2.old i (by omega)]
      have h1 := g1.new i (by omega)
      simp only [List.length_nil, Nat.zero_add] at h1
      refine (h1.later hb).chg g2.chg (fun g hg cur => ?_)
      have h2 := g1.own
      have h3 := owns_typed h2 g hg
      obtain ⟨cur', hc⟩ := h3
      have hlt : g < W2.heap.size := by
        rcases Nat.lt_or_ge g W2.heap.size with hlt | hge
        · exact hlt
        · rw [Array.getElem?_eq_none hge] at hc; cases hc
      exact part_ne_int ((hb.block g hlt).trans hc) cur
  obtain ⟨ad, c, hv, harg, hbl⟩ := hown.form (fun i hi => ⟨(hnew i (by simpa using hi)).ints, (hnew i (by simpa using hi)).nil⟩) (fun i hi => by
    by_cases e : i = l0.length
    · subst e; rw [ptAt_snoc]; exact hp
    · rw [ptAt_left _ _ _ (by simp at hi; omega)]; exact hr i (by simp at hi; omega))
  have hlen : (l0 ++ [p]).length = l0.length + 1 := by simp
  rw [hlen] at hv harg
  refine ⟨ad, c, hv, A2, harg, ⟨fun _ b off e => ⟨Nat.le_trans hN (hbl b off e), ?_⟩, fun i hi h0 b off e => ⟨Nat.le_trans hN ((hnew i hi).new h0 b off e).1, hblk i hi h0 b off e⟩⟩, fun i hi h0 b off e => ((hnew i hi).new h0 b off e).2⟩
  have h1 : b ∈ v2.ownBlock.toList := by
    rw [hv, e]
    rcases hown.2 with ⟨h0, hz⟩ | ⟨g, cap, cur, hv', -⟩
    · simp at hz
    · rw [hv, e] at hv'
      simp only [Value.slice.injEq, Option.some.injEq, Addr.mk.injEq] at hv'
      obtain ⟨⟨rfl, rfl, -⟩, -⟩ := hv'
      simp [Value.ownBlock]
  rcases g2.blk b h1 with h2 | h2
  · obtain ⟨cur, hc⟩ := owns_typed g1.own b h2
    left
    rcases Nat.lt_or_ge b W2.heap.size with hlt | hge
    · exact hlt
    · rw [Array.getElem?_eq_none hge] at hc; cases hc
  · exact Or.inr h2
end Go.Proofs.Ythadagpfmacemaa

/- The second grow of Extend. -/
namespace Go.Proofs.Ythadagpfmacemaa
open Go.RowKit

theorem checkL_len9 {id n : Int} {l : List Int} (h : checkL id l n = 0) : l.length ≤ 9 := by
  unfold checkL at h
  split at h
  · rename_i hh; exact hh.2.2.2.1
  · cases h
theorem grow_blk {w5 w6 : World} {l0 : List Pt} {A0 A1 : Nat → Sl} {k : Nat} {v1 : Value} (g1 : GrowI w5 w5.heap.size [] [] A0 l0 k v1 A1 w6) : ∀ g ∈ v1.ownBlock.toList, w5.heap.size ≤ g ∧ g < w6.heap.size := by
  intro g hg
  refine ⟨(g1.blk g hg).resolve_left (by simp), ?_⟩
  obtain ⟨cur, hc⟩ := owns_typed g1.own g hg
  rcases Nat.lt_or_ge g w6.heap.size with hlt | hge
  · exact hlt
  · rw [Array.getElem?_eq_none hge] at hc; cases hc
theorem ext_grow {w5 w6 : World} {l0 : List Pt} {A0 A1 : Nat → Sl} {v1 : Value} {k : Nat} (hk : l0.length = k) (g1 : GrowI w5 w5.heap.size [] [] A0 l0 k v1 A1 w6) (X : World) (hb : Below w6.heap.size w6 X) (gL : Nat) {e id : Int} {ns : List Int} {ad1 : Option Addr} {m1 c1 : Nat}
    (hgL : Blk X gL #[.int .i64 e, .int .i64 id, .slice ad1 m1 c1] 61) (hgn : w6.heap.size ≤ gL) (hx : Ints X ns ad1 m1 c1) (hx0 : ad1 = none → m1 = 0 ∧ c1 = 0) (hm1 : m1 * 8 ≤ 140737488355328) (hxl : m1 ≠ 0 → ∀ b off, ad1 = some ⟨b, off, none⟩ → b < w5.heap.size)
    (hid' : -9223372036854775808 ≤ id ∧ id ≤ 9223372036854775807) (he' : -9223372036854775808 ≤ e ∧ e ≤ 9223372036854775807) {N : Nat} (hN : N ≤ w5.heap.size) (hk64 : k ≤ 64)
    (hr : ∀ i, i < l0.length → (-9223372036854775808 ≤ (ptAt l0 i).first ∧ (ptAt l0 i).first ≤ 9223372036854775807) ∧ (-9223372036854775808 ≤ (ptAt l0 i).id ∧ (ptAt l0 i).id ≤ 9223372036854775807)) :
    Calls Try.prog 46 #[v1, .slice (some ⟨gL, 0, none⟩) 1 1] X fun x w' => ∃ ad2 c2, x = .returned (.slice ad2 (k + 1) c2) ∧ Hid (∃ A, CArg w' (l0 ++ [⟨e, id, ns⟩]) A ad2 (k + 1) c2 ∧ CBlk (fun b => N ≤ b ∧ (b < w6.heap.size ∨ X.heap.size ≤ b)) A ad2 (k + 1) ∧ Typ w' A (k + 1)) ∧ Hid (Chg v1.ownBlock.toList X w') := by
  subst hk
  have hbl := grow_blk g1
  have hown : OwnP 61 X w5.heap.size v1 l0 A1 := by
    have := g1.own
    rw [List.nil_append, List.take_length] at this
    exact this.later hb
  have harg : CArg X [⟨e, id, ns⟩] (fun _ => ⟨ad1, m1, c1⟩) (some ⟨gL, 0, none⟩) 1 1 := by
    refine ⟨rfl, (fun h => by cases h), Nat.le_refl _, by unfold maxLen; omega, Or.inr ⟨gL, 0, rfl, hgL.lt, ?_⟩, ?_, ?_⟩
    · intro i hi
      obtain rfl : i = 0 := by omega
      exact ⟨hgL.cell 0, hgL.cell 1, hgL.cell 2⟩
    · intro i hi
      obtain rfl : i = 0 := by omega
      exact ⟨hx, hx0⟩
    · intro i hi
      obtain rfl : i = 0 := by omega
      exact ⟨he', hid'⟩
  have hsz := g1.chg.size
  refine (grow_any hown harg (by have := hb.size; omega) (by omega) (fun i _ => hm1) ⟨fun _ b off h hm => ?_, fun i _ h0 b off h hm => ?_⟩).mono ?_
  · cases h
    have := (hbl _ hm).2
    omega
  · have h1 := (hbl _ hm).1
    have h2 := hxl h0 b off h
    omega
  · rintro x w' ⟨v', A', rfl, hg⟩
    obtain ⟨ad2, c2, rfl, hans⟩ := grown_ans g1 X hb hg.out hN hr ⟨he', hid'⟩
    exact ⟨ad2, c2, rfl, hans, hg.out.chg⟩
end Go.Proofs.Ythadagpfmacemaa
