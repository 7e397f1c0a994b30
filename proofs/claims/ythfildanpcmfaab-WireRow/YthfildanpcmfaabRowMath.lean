/- Plain mathematics of frames that stand one behind the other; how a slice of slices of bytes that came in is read. -/
import Derived.Test.YthfildanpcmfaabBack
import Derived.Test.YthfildanpcmfaabBackAt2
import Derived.Test.YthfildanpcmfaabOpen
import Derived.Deep.Slices
namespace Go.Proofs.Ythfildanpcmfaab
open Go.RowKit Crcm
open Go.ChangeShapes Go.WideShapes Go.ChangeAt

/-- The first k frames. -/
def rowBs (kind : Nat) (ps : Nat → Part) : Nat → List Nat
  | 0 => []
  | k + 1 => rowBs kind ps k ++ frameBs kind (ps k).l
theorem rowBs_le (kind : Nat) (ps : Nat → Part) (k : Nat) (h : ∀ j, j < k → (ps j).l.length ≤ 65536) : (rowBs kind ps k).length ≤ 65545 * k := by
  induction k with
  | zero => simp [rowBs]
  | succ k ih =>
    have h1 := ih (fun j hj => h j (by omega))
    have h2 := h k (by omega)
    have h3 := frameBs_length kind (ps k).l
    rw [rowBs, List.length_append]
    omega
theorem rowBs_split (kind : Nat) (ps : Nat → Part) (n k : Nat) (h : k < n) : ∃ B, rowBs kind ps n = rowBs kind ps k ++ (frameBs kind (ps k).l ++ B) := by
  induction n with
  | zero => omega
  | succ n ih =>
    by_cases e : k = n
    · subst e; exact ⟨[], by rw [rowBs, List.append_nil]⟩
    · obtain ⟨B, hB⟩ := ih (by omega)
      exact ⟨B ++ frameBs kind (ps n).l, by rw [rowBs, hB]; simp only [List.append_assoc]⟩
theorem rowBs_lt (w : World) (kind : Nat) (ps : Nat → Part) (k : Nat) (h : ∀ j, j < k → (ps j).ok w) : ∀ x ∈ rowBs kind ps k, x < 256 := by
  induction k with
  | zero => intro x hx; simp [rowBs] at hx
  | succ k ih =>
    intro x hx
    rw [rowBs] at hx
    rcases List.mem_append.1 hx with h1 | h1
    · exact ih (fun j hj => h j (by omega)) x h1
    · simp only [frameBs, toldN, List.mem_append] at h1
      rcases h1 with ((h2 | h2) | h2) | h2
      · exact spellN_lt _ _ x h2
      · exact spellN_lt _ _ x h2
      · exact (h k (by omega)).2.2.1 x h2
      · exact spellN_lt _ _ x h2
theorem row_back (kind : Nat) (ps : Nat → Part) (n k : Nat) (hk : kind ≤ 255) (h : k < n) (hl : (ps k).l.length ≤ 65536) :
    unframeN (rowBs kind ps n) ((rowBs kind ps k).length : Nat) = ((kind : Int), (ps k).l, (((rowBs kind ps (k + 1)).length : Nat) : Int), 0) := by
  obtain ⟨B, hB⟩ := rowBs_split kind ps n k h
  rw [hB, frame_back _ B _ kind _ rfl hk hl, rowBs, List.length_append, frameBs_length, Nat.add_assoc]
theorem row_end (L : List Nat) : unframeN L (L.length : Nat) = (0, [], 0, 20) := by
  have he : unframeE L L.length = 20 := by unfold unframeE; rw [if_pos (by omega)]
  have h := unframeN_err L L.length (by rw [he]; omega)
  rw [he] at h
  exact h

theorem weights_all {H : Type} (e : TypeId) (l : List (DataW H)) (d : DataW H) (hd : d ∈ l) (n : Nat) (hn : n ∈ d.weights Try.prog e) : n ∈ DataW.weightsAll Try.prog e l := by
  induction l with
  | nil => cases hd
  | cons x l ih =>
    rw [DataW.weightsAll, List.mem_append]
    rcases List.mem_cons.1 hd with rfl | h
    · exact Or.inl hn
    · exact Or.inr (ih h)

/-- A slice of slices of bytes that came in. -/
theorem open_rows {H : Type} {enc : TypeId × Value → H} {W : World} {a : Option Addr} {len cap : Nat} {d : DataW H} {p : List MemPlace}
    (h : DataW.Trod enc Try.prog W 0 (fun _ => true) true 35 (.slice a len cap) d p)
    (hd : ∀ n ∈ d.weights Try.prog 35, n ≤ 140737488351232) :
    ∃ ps : Nat → Part, len ≤ cap ∧ cap ≤ maxLen ∧ (len = 0 ∨ ∃ b off, a = some ⟨b, off, none⟩ ∧ b < W.heap.size ∧ ∀ i, i < len → W.cell? ⟨b, off + i, none⟩ = some (.slice (ps i).ad (ps i).len (ps i).cap) ∧ (ps i).ok W ∧ (ps i).len ≤ (ps i).cap ∧ (ps i).cap ≤ 140737488351232) := by
  obtain ⟨fuel, hf⟩ := h
  rcases Go.Deep.open_slice1 Try.underlying35 (by kernel_rfl) hf with ⟨hcs, hx⟩ | ⟨x, l, c, m, n, V, D, Pl, hcs, _, hl, hm, hmm, hx, hV⟩
  · simp [Value.cells] at hcs
    obtain ⟨rfl, rfl, rfl⟩ := hcs
    exact ⟨fun _ => ⟨none, 0, 0, []⟩, by omega, by unfold maxLen; omega, Or.inl rfl⟩
  · simp [Value.cells] at hcs
    obtain ⟨rfl, rfl, rfl⟩ := hcs
    simp only [if_true] at hmm
    subst hmm
    simp only [Prod.mk.injEq] at hx
    have hw : ∀ i, i < len → ∀ k ∈ (D i).weights Try.prog 22, k ≤ 140737488351232 := by
      intro i hi k hk
      apply hd
      rw [hx.1, DataW.weights, Try.underlying35]
      simp only [List.mem_cons, List.mem_append]
      exact Or.inr (Or.inl (weights_all _ _ (D i) (List.mem_map.2 ⟨i, List.mem_range.2 hi, rfl⟩) k hk))
    have each : ∀ i, i < len → ∃ P : Part, W.cell? (x.add i) = some (.slice P.ad P.len P.cap) ∧ P.ok W ∧ P.len ≤ P.cap ∧ P.cap ≤ 140737488351232 := by
      intro i hi
      obtain ⟨h1, h2⟩ := hV i (by omega)
      have hsl : ∃ a' l' c', V i = .slice a' l' c' := by
        rcases open_ints Try.underlying22 Try.underlying5 (by kernel_rfl) h2 with ⟨e, _⟩ | ⟨x', l', c', _, e, _⟩
        · exact ⟨none, 0, 0, by simpa using e⟩
        · exact ⟨some x', l', c', by simpa using e⟩
      obtain ⟨a', l', c', e⟩ := hsl
      rw [e] at h1 h2
      obtain ⟨li, q1, q2, q3⟩ := open_bytes (enc := enc) (W := W) (a := a') (len := l') (cap := c') (d := D i) (p := Pl i) ⟨n, by simpa [Value.cells] using h2⟩ (fun elems spare e => by
        apply hw i hi
        rw [e, DataW.weights, Try.underlying22]
        simp only [List.mem_cons]
        left
        rw [Try.bytes5, Nat.mul_one])
      exact ⟨⟨a', l', c', li⟩, h1, q1, q2, q3⟩
    obtain ⟨ps, hps⟩ := @Go.Deep.choose_lt Part ⟨⟨none, 0, 0, []⟩⟩ _ _ each
    refine ⟨ps, hl, hm, ?_⟩
    by_cases h0 : len = 0
    · exact Or.inl h0
    · right
      obtain ⟨b, off, spot⟩ := x
      have hc0 := (hps 0 (by omega)).1
      have hspot : spot = none := by simpa [Addr.add] using World.cell?_spot hc0
      subst hspot
      have hb : b < W.heap.size := by
        rcases Nat.lt_or_ge b W.heap.size with h | h
        · exact h
        · simp [Addr.add, World.cell?, Array.getElem?_eq_none h] at hc0
      refine ⟨b, off, rfl, hb, fun i hi => ?_⟩
      have h := hps i hi
      rw [addr_add] at h
      exact h
end Go.Proofs.Ythfildanpcmfaab
