/- 'append(v, x...)' where it is told besides in which block the answer lies: in v's, or in a new one. -/
import Derived.Test.YtmkdkclakndkpaaPack
namespace Go.Proofs.Ytmkdkclakndkpaa
open Go.RowKit

theorem run_app_at {w : World} {base g n cap : Nat} {L : List Nat} (hown : w.ownsRow base 5 1 (.slice (some ⟨g, 0, none⟩) n cap) n (L.map bv)) (ty : TypeId)
    (ad : Option Addr) (m c : Nat) (l : List Nat) (hl : l.length = m) (hnone : ad = none → m = 0 ∧ c = 0) (hrow : Row w ad l) (hbytes : n + m ≤ 140737488355328) (hbase : base ≤ w.heap.size) :
    ∃ g' c' w', (Builtin.append_ #[33, 33] ty #[.slice (some ⟨g, 0, none⟩) n cap, .slice ad m c]).run Try.prog w = .ok (.slice (some ⟨g', 0, none⟩) (n + m) c') w' ∧ (g' = g ∨ g' = w.heap.size) ∧
      w'.ownsRow base 5 1 (.slice (some ⟨g', 0, none⟩) (n + m) c') (n + m) ((L ++ l).map bv) ∧ w.grownBy w' (some g) := by
  obtain ⟨i0, hi, hz0, hz1, hz2⟩ := info_parts Try.info5
  cases ad with
  | none =>
    obtain ⟨rfl, rfl⟩ := hnone rfl
    obtain rfl : l = [] := List.eq_nil_of_length_eq_zero hl
    have hrun := run_append_owned_none (P := Try.prog) (w := w) base 33 ty 5 i0 1 Try.underlying33 hi _ n _ hown
    exact ⟨g, cap, w, hrun, Or.inl rfl, by simpa using hown, World.grownBy.refl _ _⟩
  | some ad =>
    obtain ⟨v', w', hr, h2, h3, -⟩ := run_append_own (P := Try.prog) w base 33 ty 5 i0 (.int .u8 0) 1 1 Try.underlying33 hi hz0 hz1 hz2 rfl (by decide) _ n _ hown ad m c (l.map bv) (by simp [hl]) (row_cells hrow ad rfl) (bv_one l) (by unfold maxLen; omega) (by omega) hbase
    rw [← List.map_append] at h2
    have hx : ∃ g' c', v' = .slice (some ⟨g', 0, none⟩) (n + m) c' ∧ (g' = g ∨ g' = w.heap.size) := by
      rcases hown.2 with ⟨e, _⟩ | ⟨g0, cap0, cur, e, hbg, hg, hnc, hcm, hcs, htake⟩
      · cases e
      · cases e
        by_cases hroom : n + m ≤ cap
        · have hq := run_append_room (P := Try.prog) w 33 ty 5 i0 Try.underlying33 hi g n cap cur hg ad m c (l.map bv) (by rw [hz1]; simp [hl]) (row_cells hrow ad rfl) (bv_one l) hroom (by rw [hz1, hcs]; simp [hl]; omega)
          rw [hr] at hq
          cases hq
          exact ⟨g, cap, rfl, Or.inl rfl⟩
        · have holds : ∀ j u, (L.map bv)[j]? = some u → w.cell? ((⟨g, 0, none⟩ : Addr).add j) = some u := hown.cells (g := g) rfl
          have hq := run_append_grow (P := Try.prog) w 33 ty 5 i0 (.int .u8 0) Try.underlying33 hi hz0 ⟨g, 0, none⟩ n cap (L.map bv) (by rw [hz1]; exact hown.1) holds ad m c (l.map bv) (by rw [hz1]; simp [hl]) (row_cells hrow ad rfl) (by omega) (by omega) (growslice_fits (by omega) (by rw [hz2]; omega))
          rw [hr] at hq
          cases hq
          exact ⟨w.heap.size, _, rfl, Or.inr rfl⟩
    obtain ⟨g', c', rfl, hg'⟩ := hx
    exact ⟨g', c', w', hr, hg', h2, h3⟩
theorem app_at {w : World} {ops : Array Oper} {rest : List Oper} {o : Oper} {a : Act} {Q : Exit → Act → World → Prop} (hgd : o.guard = none) (s x : Operand)
    (ho : o.op = .call { callee := .builtin .append, args := #[s, x], argTypes := #[33, 33] })
    (base g n cap : Nat) (L : List Nat) (hs : a.eval s = .slice (some ⟨g, 0, none⟩) n cap) (hown : w.ownsRow base 5 1 (.slice (some ⟨g, 0, none⟩) n cap) n (L.map bv))
    (ad : Option Addr) (m c : Nat) (l : List Nat) (hx : a.eval x = .slice ad m c) (hl : l.length = m) (hnone : ad = none → m = 0 ∧ c = 0) (hrow : Row w ad l)
    (hbytes : n + m ≤ 140737488355328) (hbase : base ≤ w.heap.size)
    (h : ∀ g' c' w', (g' = g ∨ g' = w.heap.size) → w'.ownsRow base 5 1 (.slice (some ⟨g', 0, none⟩) (n + m) c') (n + m) ((L ++ l).map bv) → w.grownBy w' (some g) → wpList Try.prog ops Q rest (a.put o.dst (.slice (some ⟨g', 0, none⟩) (n + m) c')) w') : wpList Try.prog ops Q (o :: rest) a w := by
  refine wpList_plain hgd fun K hK => ?_
  obtain ⟨g', c', w', hrun, h1, h2, h3⟩ := run_app_at hown o.type ad m c l hl hnone hrow hbytes hbase
  unfold Oper.wp
  simp [execOp, ho, resolve, invoke, builtin, hs, hx, hrun, Result.andThen]
  exact hK _ _ (h g' c' w' h1 h2 h3)
theorem app_at' {w : World} {ops : Array Oper} {rest : List Oper} {o : Oper} {a : Act} {Q : Exit → Act → World → Prop} (hgd : o.guard = none) (s x : Operand)
    (ho : o.op = .call { callee := .builtin .append, args := #[s, x], argTypes := #[33, 33] })
    (base g n cap : Nat) (L : List Nat) (hs : a.eval s = .slice (some ⟨g, 0, none⟩) n cap) (hown : Own w base (.slice (some ⟨g, 0, none⟩) n cap) L) (hn : L.length = n)
    (ad : Option Addr) (m c : Nat) (l : List Nat) (hx : a.eval x = .slice ad m c) (hp : Part.ok w ⟨ad, m, c, l⟩) (N' : Nat) (hN : n + m = N')
    (hbytes : n + m ≤ 140737488355328) (hbase : base ≤ w.heap.size)
    (h : ∀ g' c' w', (g' = g ∨ g' = w.heap.size) → Own w' base (.slice (some ⟨g', 0, none⟩) N' c') (L ++ l) → w.grownBy w' (some g) → wpList Try.prog ops Q rest (a.put o.dst (.slice (some ⟨g', 0, none⟩) N' c')) w') : wpList Try.prog ops Q (o :: rest) a w := by
  subst hN
  refine app_at hgd s x ho base g n cap L hs (by rw [← hn]; rw [hn]; have h2 := hown.2; rw [hn] at h2; exact h2) ad m c l hx hp.1 hp.2.1 hp.2.2 hbytes hbase ?_
  intro g' c' w' h1 h2 h3
  refine h g' c' w' h1 ⟨fun y hy => (List.mem_append.1 hy).elim (hown.1 y) (hp.2.2.1 y), ?_⟩ h3
  have e : (L ++ l).length = n + m := by rw [List.length_append, hn, hp.1]
  rw [e]
  exact h2
theorem Part.ok.grown {w w' : World} {ad : Option Addr} {n c g : Nat} {l : List Nat} (h : Part.ok w ⟨ad, n, c, l⟩) (hg : w.grownBy w' (some g)) (hne : ∀ b off, ad = some ⟨b, off, none⟩ → b ≠ g) : Part.ok w' ⟨ad, n, c, l⟩ := by
  refine ⟨h.1, h.2.1, ?_⟩
  have hr : Row w ad l := h.2.2
  refine ⟨hr.1, ?_⟩
  rcases hr.2 with h0 | ⟨b, off, e, hs, hc⟩
  · exact Or.inl h0
  · refine Or.inr ⟨b, off, e, Nat.lt_of_lt_of_le hs hg.size, fun i hi => ?_⟩
    rw [hg.cell_far ⟨b, off + i, none⟩ hs (fun e2 => hne b off e (by simpa using e2))]
    exact hc i hi
/-- Where a row lies, and that it stays where another block is written. -/
theorem Row.grown {w w' : World} {ad : Option Addr} {l : List Nat} {g : Nat} (h : Row w ad l) (hg : w.grownBy w' (some g)) (hne : ∀ b off, ad = some ⟨b, off, none⟩ → b ≠ g) : Row w' ad l := by
  refine ⟨h.1, ?_⟩
  rcases h.2 with h | ⟨b, off, e, hs, hc⟩
  · exact Or.inl h
  · refine Or.inr ⟨b, off, e, Nat.lt_of_lt_of_le hs hg.size, fun i hi => ?_⟩
    rw [hg.cell_far ⟨b, off + i, none⟩ hs (fun e2 => hne b off e (by simpa using e2))]
    exact hc i hi
end Go.Proofs.Ytmkdkclakndkpaa
