/- 'append(versions, text)': a version more, and in which block; the disk in memory behind it. No function of the program is named here. -/
import Derived.Test.YtofpojfkooigiaaDOp
namespace Go.Proofs.Ytofpojfkooigiaa
open Go.RowKit

theorem run_app_ver {w : World} {n : Nat} {v : Value} {xs : List Value} (hown : w.ownsRow 0 TB 256 v n xs) (ty : TypeId) (g1 : Nat) (l : List Value) (hl : l.length = 256) (hc : w.heap[g1]? = some (.cells l.toArray TB (0, 0))) (h1 : ∀ u ∈ l, u.oneCell' = true) (hn : n ≤ 1073741824) :
    ∃ g' c' w', (Builtin.append_ #[76, 76] ty #[v, .slice (some ⟨g1, 0, none⟩) 1 1]).run Try.prog w = .ok (.slice (some ⟨g', 0, none⟩) (n + 1) c') w' ∧ (v.ownBlock = some g' ∨ g' = w.heap.size) ∧
      w'.ownsRow 0 TB 256 (.slice (some ⟨g', 0, none⟩) (n + 1) c') (n + 1) (xs ++ l) ∧ w.grownBy w' v.ownBlock := by
  obtain ⟨i0, hi, hz0, hz1, hz2⟩ := info_parts Try.infoB
  have hnews : ∀ j u, l[j]? = some u → w.cell? ((⟨g1, 0, none⟩ : Addr).add j) = some u := fun j u hu => by
    rw [addr_add, cell_of_row _ _ _ _ _ _ hc, List.getElem?_toArray, Nat.zero_add, hu]
  have hzc : (Value.agg z256.toArray).cells.size = 256 := by simp [Value.cells, z256_len]
  obtain ⟨v', w', hr, h2, h3, -⟩ := run_append_own (P := Try.prog) w 0 76 ty TB i0 (.agg z256.toArray) 256 256 Try.underlying76 hi hz0 hz1 hz2 hzc (by decide) v n xs hown ⟨g1, 0, none⟩ 1 1 l (by omega) hnews h1 (by unfold maxLen; omega) (by omega) (Nat.zero_le _)
  have hx : ∃ g' c', v' = .slice (some ⟨g', 0, none⟩) (n + 1) c' ∧ (v.ownBlock = some g' ∨ g' = w.heap.size) := by
    rcases hown.2 with ⟨e, e0⟩ | ⟨g0, cap0, cur, e, hbg, hg, hnc, hcm, hcs, htake⟩
    · subst e
      subst e0
      have hq := run_append_nil (P := Try.prog) w 76 ty TB i0 (.agg z256.toArray) Try.underlying76 hi hz0 ⟨g1, 0, none⟩ 1 1 l (by rw [hz1]; omega) hnews (by omega) (by omega) (by rw [hz2]; omega)
      rw [hr] at hq
      injection hq with hq1 hq2
      exact ⟨w.heap.size, _, by rw [hq1], Or.inr rfl⟩
    · subst e
      by_cases hroom : n + 1 ≤ cap0
      · have hq := run_append_room (P := Try.prog) w 76 ty TB i0 Try.underlying76 hi g0 n cap0 cur hg ⟨g1, 0, none⟩ 1 1 l (by rw [hz1]; omega) hnews h1 hroom (by rw [hz1, hcs]; omega)
        rw [hr] at hq
        injection hq with hq1 hq2
        exact ⟨g0, cap0, hq1, Or.inl rfl⟩
      · have holds : ∀ j u, xs[j]? = some u → w.cell? ((⟨g0, 0, none⟩ : Addr).add j) = some u := hown.cells (g := g0) rfl
        have hq := run_append_grow (P := Try.prog) w 76 ty TB i0 (.agg z256.toArray) Try.underlying76 hi hz0 ⟨g0, 0, none⟩ n cap0 xs (by rw [hz1]; exact hown.1) holds ⟨g1, 0, none⟩ 1 1 l (by rw [hz1]; omega) hnews (by omega) (by omega) (growslice_fits (by omega) (by rw [hz2]; omega))
        rw [hr] at hq
        injection hq with hq1 hq2
        exact ⟨w.heap.size, _, hq1, Or.inr rfl⟩
  obtain ⟨g', c', rfl, hg'⟩ := hx
  exact ⟨g', c', w', hr, hg', h2, h3⟩

variable {w w' : World} {F : List Nat} {D B M : Nat} {Dm : DataW Value} {V C : Nat → Nat} {s : DSt}
def upd (f : Nat → Nat) (i g : Nat) : Nat → Nat := fun j => if j = i then g else f j
theorem upd_same (f : Nat → Nat) (i g : Nat) : upd f i g i = g := if_pos rfl
theorem upd_other (f : Nat → Nat) {i j : Nat} (g : Nat) (h : j ≠ i) : upd f i g j = f j := if_neg h
/-- A version more of block i: g is its old block, or a new one. -/
theorem Pic.add (h : Pic w F D B M Dm V C s) {i : Nat} (hi : i < s.bs.length) (l : List Nat) (hl : l.length = 256 ∧ ∀ y ∈ l, y < 256) (g cap : Nat) (hs : w.heap.size ≤ w'.heap.size)
    (hk : ∀ k, k < w.heap.size → k ≠ M → ((s.at i).vs ≠ [] → k ≠ V i) → w'.heap[k]? = w.heap[k]?)
    (hg : ((s.at i).vs ≠ [] ∧ g = V i) ∨ w.heap.size ≤ g) (hgl : g < w'.heap.size)
    (hrow : w'.ownsRow 0 TB 256 (.slice (some ⟨g, 0, none⟩) ((s.at i).vs.length + 1) cap) ((s.at i).vs.length + 1) ((s.at i).vs.flatMap verV ++ verV l))
    {nn : Nat} (hM : w'.ownsMap Try.prog 3 RV M nn (Dm.put (kI i) (.held (.slice (some ⟨g, 0, none⟩) ((s.at i).vs.length + 1) cap)))) :
    Pic w' (g :: F) D B M (Dm.put (kI i) (.held (.slice (some ⟨g, 0, none⟩) ((s.at i).vs.length + 1) cap))) (upd V i g) (upd C i cap) (s.setB i ((s.at i).add l)) := by
  have hn := h.n2
  have hat : ∀ j, (s.setB i ((s.at i).add l)).at j = if j = i then (s.at i).add l else s.at j := fun j => setB_at _ _ _ _ hi
  have hkeep : ∀ k ∈ F, k ≠ M → ((s.at i).vs ≠ [] → k ≠ V i) → w'.heap[k]? = w.heap[k]? := fun k hkF => hk k (h.lt k hkF)
  have hnew : ∀ j, (s.setB i ((s.at i).add l)).at j = s.at j ∨ j = i := fun j => by
    rw [hat]; split
    · rename_i e; exact Or.inr e
    · exact Or.inl rfl
  have hother : ∀ j, j ≠ i → (s.setB i ((s.at i).add l)).at j = s.at j := fun j e => by rw [hat, if_neg e]
  have hsame : (s.setB i ((s.at i).add l)).at i = (s.at i).add l := by rw [hat, if_pos rfl]
  have hne : ∀ j, j < s.bs.length → j ≠ i → (s.at j).vs ≠ [] → V j ≠ g := fun j hj e hv e2 => by
    rcases hg with ⟨hv2, e3⟩ | h3
    · exact h.apart j i hj hi e hv hv2 (by rw [e2, e3])
    · have := h.lt _ (h.mV j hj hv); omega
  refine ⟨by rw [setB_len]; exact h.n1, by rw [setB_len]; exact h.n2, setB_ok h.ok (h.ok.dur (s.at i) (at_mem hi)) ?_, h.top, ?_, ?_, ownsMap_tight hM, ?_, ?_, ?_, ?_, by simp [h.mD], by simp [h.mB], by simp [h.mM], ?_, ?_⟩
  · intro t ht
    rcases List.mem_append.1 ht with ht | ht
    · exact h.ok.vs (s.at i) (at_mem hi) t ht
    · simp at ht; rw [ht]; exact hl
  · rw [setB_len, hkeep D h.mD h.neM.1 (fun hv => (h.neV hi hv).1.symm)]; exact h.hD
  · rw [hkeep B h.mB h.neM.2 (fun hv => (h.neV hi hv).2.1.symm), h.hB]
    unfold DSt.setB
    rw [flat_set durV 257 s.bs h.durs i _ hi]
    congr 3
    have e : durV ((s.at i).add l) = durV (s.at i) := rfl
    have e2 := flat_set durV 257 s.bs h.durs i (s.at i) hi
    rw [e, ← e2]
    congr 1
    unfold DSt.at
    rw [List.getD_eq_getElem?_getD, List.getElem?_eq_getElem hi]
    simp
  · intro kl
    by_cases e : kl = kI i
    · subst e
      rw [Maps.has_put_same h.hM.isMap (isKey_i i)]
      refine ⟨fun _ => ⟨i, by rw [setB_len]; exact hi, rfl, by rw [hsame]; simp [DBlock.add]⟩, fun _ => rfl⟩
    · rw [Maps.has_put_other e, h.has kl, setB_len]
      constructor
      · rintro ⟨j, h1, h2, h3⟩
        exact ⟨j, h1, h2, by rw [hother j (fun e2 => e (by rw [h2, e2]))]; exact h3⟩
      · rintro ⟨j, h1, h2, h3⟩
        exact ⟨j, h1, h2, by rw [hother j (fun e2 => e (by rw [h2, e2]))] at h3; exact h3⟩
  · intro j hj hv z
    rw [setB_len] at hj
    unfold verS
    by_cases e : j = i
    · subst e
      rw [Maps.atKey_put_same h.hM.isMap (isKey_i j), hsame, upd_same, upd_same]
      simp [DBlock.add]
    · rw [hother j e] at hv ⊢
      rw [Maps.atKey_put_other (fun e2 => e (kI_inj e2)), h.look j hj hv, upd_other _ _ e, upd_other _ _ e]
      rfl
  · intro j hj hv
    rw [setB_len] at hj
    unfold verS
    by_cases e : j = i
    · subst e
      rw [hsame, upd_same, upd_same]
      simpa [DBlock.add] using hrow
    · rw [hother j e] at hv ⊢
      rw [upd_other _ _ e, upd_other _ _ e]
      exact ownsRow_kept (h.row j hj hv) (hkeep _ (h.mV j hj hv) (h.neV hj hv).2.2 (fun hv2 => h.apart j i hj hi e hv hv2))
  · intro a b ha hb2 hab hva hvb
    rw [setB_len] at ha hb2
    by_cases e : a = i
    · subst e
      have e2 : b ≠ a := fun e2 => hab e2.symm
      rw [hother b e2] at hvb
      rw [upd_same, upd_other _ _ e2]
      exact (hne b hb2 e2 hvb).symm
    · rw [hother a e] at hva
      by_cases e2 : b = i
      · subst e2
        rw [upd_same, upd_other _ _ e]
        exact hne a ha e hva
      · rw [hother b e2] at hvb
        rw [upd_other _ _ e, upd_other _ _ e2]
        exact h.apart a b ha hb2 hab hva hvb
  · intro j hj hv
    rw [setB_len] at hj
    by_cases e : j = i
    · subst e; rw [upd_same]; simp
    · rw [hother j e] at hv
      rw [upd_other _ _ e]
      exact List.mem_cons_of_mem _ (h.mV j hj hv)
  · intro k hk2
    rcases List.mem_cons.1 hk2 with rfl | hk2
    · exact hgl
    · exact Nat.lt_of_lt_of_le (h.lt k hk2) hs
/-- The slice that is looked up, as an owned row. -/
theorem Pic.rowN (h : Pic w F D B M Dm V C s) {i : Nat} (hi : i < s.bs.length) : w.ownsRow 0 TB 256 (verN V C s i) (s.at i).vs.length ((s.at i).vs.flatMap verV) := by
  unfold verN
  by_cases h0 : (s.at i).vs = []
  · rw [if_pos h0, h0]
    exact World.ownsRow_nil w 0 TB 256
  · rw [if_neg h0]
    exact h.row i hi h0
end Go.Proofs.Ytofpojfkooigiaa
