/- The second grow of Extend. -/
import Derived.Test.YthadagpfmacemaaCExtN
namespace Go.Proofs.Ythadagpfmacemaa
open Go.RowKit

theorem checkL_len9 {id n : Int} {l : List Int} (h : checkL id l n = 0) : l.length ≤ 9 := by
  unfold checkL at h
  split at h
  · rename_i hh; exact hh.2.2.2.1
  · cases h
theorem grow_blk {w5 w6 : World} {l0 : List Pt} {A0 A1 : Nat → Sl} {k : Nat} {v1 : Value} (g1 : GrowI w5 w5.heap.size [] [] A0 l0 k v1 A1 w6) : ∀ g ∈ v1.ownBlock.toList, w5.heap.size ≤ g ∧ g < w6.heap.size := by
  intro g hg
  refine ⟨(g1.blk g hg).resolve_left (by simp), ?_⟩
  obtain ⟨cur, hc⟩ := owns_typed g1.own g hg
  rcases Nat.lt_or_ge g w6.heap.size with hlt | hge
  · exact hlt
  · rw [Array.getElem?_eq_none hge] at hc; cases hc
theorem ext_grow {w5 w6 : World} {l0 : List Pt} {A0 A1 : Nat → Sl} {v1 : Value} {k : Nat} (hk : l0.length = k) (g1 : GrowI w5 w5.heap.size [] [] A0 l0 k v1 A1 w6) (X : World) (hb : Below w6.heap.size w6 X) (gL : Nat) {e id : Int} {ns : List Int} {ad1 : Option Addr} {m1 c1 : Nat}
    (hgL : Blk X gL #[.int .i64 e, .int .i64 id, .slice ad1 m1 c1] 61) (hgn : w6.heap.size ≤ gL) (hx : Ints X ns ad1 m1 c1) (hx0 : ad1 = none → m1 = 0 ∧ c1 = 0) (hm1 : m1 * 8 ≤ 140737488355328) (hxl : m1 ≠ 0 → ∀ b off, ad1 = some ⟨b, off, none⟩ → b < w5.heap.size)
    (hid' : -9223372036854775808 ≤ id ∧ id ≤ 9223372036854775807) (he' : -9223372036854775808 ≤ e ∧ e ≤ 9223372036854775807) {N : Nat} (hN : N ≤ w5.heap.size) (hk64 : k ≤ 64)
    (hr : ∀ i, i < l0.length → (-9223372036854775808 ≤ (ptAt l0 i).first ∧ (ptAt l0 i).first ≤ 9223372036854775807) ∧ (-9223372036854775808 ≤ (ptAt l0 i).id ∧ (ptAt l0 i).id ≤ 9223372036854775807)) :
    Calls Try.prog 46 #[v1, .slice (some ⟨gL, 0, none⟩) 1 1] X fun x w' => ∃ ad2 c2, x = .returned (.slice ad2 (k + 1) c2) ∧ Hid (∃ A, CArg w' (l0 ++ [⟨e, id, ns⟩]) A ad2 (k + 1) c2 ∧ CBlk (fun b => N ≤ b ∧ (b < w6.heap.size ∨ X.heap.size ≤ b)) A ad2 (k + 1) ∧ Typ w' A (k + 1)) ∧ Hid (Chg v1.ownBlock.toList X w') := by
  subst hk
  have hbl := grow_blk g1
  have hown : OwnP 61 X w5.heap.size v1 l0 A1 := by
    have := g1.own
    rw [List.nil_append, List.take_length] at this
    exact this.later hb
  have harg : CArg X [⟨e, id, ns⟩] (fun _ => ⟨ad1, m1, c1⟩) (some ⟨gL, 0, none⟩) 1 1 := by
    refine ⟨rfl, (fun h => by cases h), Nat.le_refl _, by unfold maxLen; omega, Or.inr ⟨gL, 0, rfl, hgL.lt, ?_⟩, ?_, ?_⟩
    · intro i hi
      obtain rfl : i = 0 := by omega
      exact ⟨hgL.cell 0, hgL.cell 1, hgL.cell 2⟩
    · intro i hi
      obtain rfl : i = 0 := by omega
      exact ⟨hx, hx0⟩
    · intro i hi
      obtain rfl : i = 0 := by omega
      exact ⟨he', hid'⟩
  have hsz := g1.chg.size
  refine (grow_any hown harg (by have := hb.size; omega) (by omega) (fun i _ => hm1) ⟨fun _ b off h hm => ?_, fun i _ h0 b off h hm => ?_⟩).mono ?_
  · cases h
    have := (hbl _ hm).2
    omega
  · have h1 := (hbl _ hm).1
    have h2 := hxl h0 b off h
    omega
  · rintro x w' ⟨v', A', rfl, hg⟩
    obtain ⟨ad2, c2, rfl, hans⟩ := grown_ans g1 X hb hg.out hN hr ⟨he', hid'⟩
    exact ⟨ad2, c2, rfl, hans, hg.out.chg⟩
end Go.Proofs.Ythadagpfmacemaa
