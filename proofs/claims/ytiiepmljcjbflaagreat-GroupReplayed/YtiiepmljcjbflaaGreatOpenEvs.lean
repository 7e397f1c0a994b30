/- How events that came in are read. -/
import Derived.Test.YtiiepmljcjbflaaGreatOpenEv
import Derived.Test.YtiiepmljcjbflaaGreatAOwn
import Derived.SliceStrings
import Derived.ProofKit
import Derived.SizedLaws
import Derived.Deep.Slices
import Derived.Deep.Strs
namespace Go.Proofs.YtiiepmljcjbflaaGreat
open Go.RowKit
open Go.ChangeShapes Go.WideShapes Go.ChangeAt
variable {H : Type} {enc : TypeId × Value → H} {W : World}

def ev0 : Ev := ⟨0, [], 0, 0, 0, 0, 0, 0, false⟩
abbrev kER : Kd Ev := ⟨23, 41, 9, 80, fun x => (evA x).toList, ev0, .agg (evA ev0)⟩
theorem kER_fit : kER.fit := ⟨fun _ => rfl, by decide⟩
theorem Tryz.bytesEv : Tryz.prog.bytesOf 23 = 80 := by kernel_rfl
theorem cells_of9 (x : Ev) (i : Nat) (h : i < 9) : ∃ v, (evA x).toList[i]? = some v := ⟨_, List.getElem?_eq_getElem (by simpa using h)⟩
theorem open_events {ad : Option Addr} {len cap : Nat} {d : DataW H} {p : List MemPlace} (h : DataW.Trod enc Tryz.prog W 0 (fun _ => true) true 41 (.slice ad len cap) d p) (hd : ∀ m ∈ d.weights Tryz.prog 41, m ≤ 140737488351232) :
    ∃ l : List Ev, ArgK kER W l ad len cap ∧ len * 80 ≤ 140737488351232 ∧ ∀ x ∈ l, x.came := by
  obtain ⟨fuel, hf⟩ := h
  have hf' : DataW.trod enc Tryz.prog W 0 (fun _ => true) true fuel 41 [.slice ad len cap] = some (d, p) := hf
  rcases Go.Deep.open_slice Tryz.underlying41 hf' with ⟨hcs, -⟩ | ⟨a, l', c', m, n', D, Pl, hcs, _, hl, hm, hmm, hx, hV⟩
  · simp only [List.cons.injEq, and_true] at hcs
    cases hcs
    exact ⟨[], ⟨rfl, fun _ => ⟨rfl, rfl⟩, Nat.le_refl _, by unfold maxLen; omega, Or.inl rfl⟩, by omega, fun x hx => by cases hx⟩
  · simp only [List.cons.injEq, and_true] at hcs
    cases hcs
    simp only [if_true] at hmm
    subst hmm
    rw [Tryz.cellsEv] at hV
    have hx1 := congrArg Prod.fst hx
    simp only at hx1
    have hw : (len + (m - len)) * 80 ≤ 140737488351232 := by
      apply hd
      rw [hx1, DataW.weights, Tryz.underlying41]
      simp only [List.mem_cons, List.length_map, List.length_range]
      exact Or.inl (by rw [Tryz.bytesEv])
    have each : ∀ i, i < len → ∃ x : Ev, (∀ k, k < 9 → W.cell? (a.add (i * 9 + k)) = (evA x).toList[k]?) ∧ x.came := by
      intro i hi
      obtain ⟨cs', h1, h2⟩ := hV i (by omega)
      obtain ⟨_, hlen, hcell⟩ := World.cells?_some h1
      obtain ⟨c0, c1, c2, c3, c4, c5, c6, c7, c8, rfl⟩ := list9 hlen
      obtain ⟨x, hx, e⟩ := open_evC h2
      refine ⟨x, fun k hk => ?_, hx⟩
      have e0 := hcell k (by omega)
      rw [Go.Deep.add_add] at e0
      rw [e0, ← e]
    obtain ⟨f, hf⟩ := @Go.Deep.choose_lt Ev ⟨ev0⟩ _ _ each
    have hat : ∀ i, i < len → ((List.range len).map f).getD i ev0 = f i := fun i hi => by rw [List.getD_eq_getElem?_getD, List.getElem?_map, List.getElem?_range hi]; rfl
    have hlB : ((List.range len).map f).length = len := by simp
    refine ⟨(List.range len).map f, ⟨hlB, (fun e => by cases e), hl, hm, ?_⟩, by omega, fun x hx => ?_⟩
    · by_cases h0 : len = 0
      · exact Or.inl (by rw [h0]; rfl)
      · right
        obtain ⟨b, off, spot⟩ := a
        have hc0 := (hf 0 (by omega)).1 0 (by omega)
        rw [show (evA (f 0)).toList[0]? = some (.int .i64 (f 0).kind) from rfl] at hc0
        have hspot : spot = none := by simpa [Addr.add] using World.cell?_spot hc0
        subst hspot
        have hb : b < W.heap.size := by
          rcases Nat.lt_or_ge b W.heap.size with h | h
          · exact h
          · simp [Addr.add, World.cell?, Array.getElem?_eq_none h] at hc0
        refine ⟨b, off, rfl, hb, fun i hi cc hcc => ?_⟩
        rw [hlB] at hi
        have e0 := (hf i hi).1 cc hcc
        rw [addr_add] at e0
        rw [show ((List.range len).map f).getD i kER.z = ((List.range len).map f).getD i ev0 from rfl, hat i hi]
        show W.cell? ⟨b, off + i * 9 + cc, none⟩ = (evA (f i)).toList[cc]?
        rw [Nat.add_assoc]
        exact e0
    · obtain ⟨i, hi, rfl⟩ := List.mem_map.1 hx
      exact (hf i (List.mem_range.1 hi)).2
end Go.Proofs.YtiiepmljcjbflaaGreat
