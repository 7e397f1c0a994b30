/- slices.Sort of numbers and of names that are the call's own. -/
import Derived.Test.YtakpdhmfbgfblaaAOwn
import Derived.Test.YtakpdhmfbgfblaaALayPlain
import Derived.Sort.OwnSorted
import Derived.Sort.OwnSortedInts
namespace Go.Proofs.Ytakpdhmfbgfblaa
open Go.RowKit Go.Sort
variable {w w' : World} {base : Nat} {v : Value}

/-- Numbers, rising. -/
def risZ (l : List Int) : List Int := l.mergeSort (fun x y => decide (x ≤ y))
/-- Names, rising. -/
def risN (l : List Nm) : List Nm := l.mergeSort (fun x y => decide (x ≤ y))
theorem risZ_len (l : List Int) : (risZ l).length = l.length := List.length_mergeSort _
theorem risN_len (l : List Nm) : (risN l).length = l.length := List.length_mergeSort _
theorem risZ_nil : risZ [] = [] := by unfold risZ; simp
theorem risN_nil : risN [] = [] := by unfold risN; simp
theorem risZ_perm (l : List Int) : (risZ l).Perm l := List.mergeSort_perm _ _
theorem risN_perm (l : List Nm) : (risN l).Perm l := List.mergeSort_perm _ _
theorem Vs_Z (l : List Int) : kZ.Vs l = l.map (Value.int .i64) := by
  induction l with
  | nil => rfl
  | cons a l ih => show _ :: kZ.Vs l = _; rw [ih]; rfl
theorem Vs_S (l : List Nm) : kS.Vs l = l.map encStr := by
  induction l with
  | nil => rfl
  | cons a l ih => show _ :: kS.Vs l = _; rw [ih]; rfl
theorem sortZ_own {l : List Int} (h : OwnK kZ w base v l) (hsz : l.length < 4611686018427387904) : Calls Try.prog 37 #[v] w fun e w' => e = .returned (.tuple #[]) ∧ OwnK kZ w' base v (risZ l) ∧ w.grownBy w' v.ownBlock := by
  rcases h.2 with ⟨rfl, h0⟩ | ⟨g, cap, cur, rfl, hb, hg, h1, h2, h3, h4⟩
  · have hl : l = [] := List.eq_nil_of_length_eq_zero h0
    subst hl
    refine (show Calls Try.prog 37 #[.slice none 0 0] w _ from AnyM.slices_Sort_int_none Try.sortZ none 0 w).mono ?_
    rintro e w' ⟨rfl, rfl⟩
    exact ⟨rfl, by rw [risZ_nil]; exact h, World.grownBy.refl _ _⟩
  · rw [Vs_Z, show kZ.sz = 1 from rfl, Nat.mul_one] at h4
    refine (show Calls Try.prog 37 #[.slice (some ⟨g, 0, none⟩) l.length cap] w _ from AnyM.slices_Sort_int Try.sortZ g 0 cap l w (holds_of_blockI hg h4) (Array.getElem?_eq_some_iff.1 hg).1 hsz).mono ?_
    rintro e w' ⟨rfl, n, os, rfl⟩
    refine ⟨rfl, ?_, grownBy_sortedI _⟩
    have := ownsRow_sortedI (ss := l) (ts := risZ l) (os := os) (n := n) (risZ_len l) hb hg h1 h2 h3
    unfold OwnK
    rw [Vs_Z, risZ_len]
    exact this
theorem sortS_own {l : List Nm} (h : OwnK kS w base v l) (hsz : l.length < 4611686018427387904) : Calls Try.prog 48 #[v] w fun e w' => e = .returned (.tuple #[]) ∧ OwnK kS w' base v (risN l) ∧ w.grownBy w' v.ownBlock := by
  rcases h.2 with ⟨rfl, h0⟩ | ⟨g, cap, cur, rfl, hb, hg, h1, h2, h3, h4⟩
  · have hl : l = [] := List.eq_nil_of_length_eq_zero h0
    subst hl
    refine (show Calls Try.prog 48 #[.slice none 0 0] w _ from AnyM.slices_Sort_string_none Try.sortS none 0 w).mono ?_
    rintro e w' ⟨rfl, rfl⟩
    exact ⟨rfl, by rw [risN_nil]; exact h, World.grownBy.refl _ _⟩
  · rw [Vs_S, show kS.sz = 1 from rfl, Nat.mul_one] at h4
    refine (show Calls Try.prog 48 #[.slice (some ⟨g, 0, none⟩) l.length cap] w _ from AnyM.slices_Sort_string Try.sortS g 0 cap l w (holds_of_block hg h4) (Array.getElem?_eq_some_iff.1 hg).1 hsz).mono ?_
    rintro e w' ⟨rfl, n, os, rfl⟩
    refine ⟨rfl, ?_, grownBy_sorted _⟩
    have := ownsRow_sorted (ss := l) (ts := risN l) (os := os) (n := n) (risN_len l) hb hg h1 h2 h3
    unfold OwnK
    rw [Vs_S, risN_len]
    exact this
end Go.Proofs.Ytakpdhmfbgfblaa
