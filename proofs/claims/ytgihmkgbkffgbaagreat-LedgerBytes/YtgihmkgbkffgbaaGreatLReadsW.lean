/- The walk of LedgerReads (by genbytesw13.py). -/
import Derived.Test.YtgihmkgbkffgbaaGreatRGetL
import Derived.Test.YtgihmkgbkffgbaaGreatLSameE
import Derived.Test.YtgihmkgbkffgbaaGreatLKnows
namespace Go.Proofs.YtgihmkgbkffgbaaGreat
open Go.RowKit
variable {w : World} {ad : Option Addr} {len cap : Nat} {l : List Nat}

theorem got_like {l : List Nat} {kd nn k p e s kd' nn' k' p' e' s' : Int} {t t' : Bool} {rs rs' : List Rec} {a a' : Option Addr} {n c n' c' : Nat} {W W' : World} (h : (⟨kd, nn, ⟨k, p, e, s, t, rs⟩⟩ : Et) = (getE l).1) (h' : (⟨kd', nn', ⟨k', p', e', s', t', rs'⟩⟩ : Et) = (getE l).1) (hb : BArg W ⟨k, p, e, s, t, rs⟩ a n c) (hb' : BArg W' ⟨k', p', e', s', t', rs'⟩ a' n' c') : kd' = kd ∧ nn' = nn ∧ k' = k ∧ p' = p ∧ e' = e ∧ s' = s ∧ t' = t ∧ rs' = rs ∧ n' = n := by
  have h1 := h'.trans h.symm
  simp only [Et.mk.injEq, Bat.mk.injEq] at h1
  obtain ⟨rfl, rfl, rfl, rfl, rfl, rfl, rfl, rfl⟩ := h1
  have l1 : rs'.length = n := hb.len_eq
  have l2 : rs'.length = n' := hb'.len_eq
  exact ⟨rfl, rfl, rfl, rfl, rfl, rfl, rfl, rfl, by omega⟩
theorem cells8L {W : World} {g : Nat} {T : TypeId} {a b c d e f h i : Value} (x : Blk W g #[a, b, c, d, e, f, h, i] T) : W.cell? ⟨g, 0, none⟩ = some a ∧ W.cell? ⟨g, 1, none⟩ = some b ∧ W.cell? ⟨g, 2, none⟩ = some c ∧ W.cell? ⟨g, 3, none⟩ = some d ∧ W.cell? ⟨g, 4, none⟩ = some e ∧ W.cell? ⟨g, 5, none⟩ = some f ∧ W.cell? ⟨g, 6, none⟩ = some h ∧ W.cell? ⟨g, 7, none⟩ = some i := ⟨x.cell 0, x.cell 1, x.cell 2, x.cell 3, x.cell 4, x.cell 5, x.cell 6, x.cell 7⟩
end Go.Proofs.YtgihmkgbkffgbaaGreat
