/- All bytes of the first parts of a row of them. No function of the program is named here. -/
import Derived.Test.YtiiepmljcjbflaaGreatGetTextN
namespace Go.Proofs.YtiiepmljcjbflaaGreat
open Go.RowKit

/-- All bytes of the first k parts. -/
def allN (ps : List Part) (k : Nat) : List Nat := ((ps.take k).map (·.l)).flatten
theorem allN_succ (ps : List Part) (k : Nat) (p : Part) (h : ps[k]? = some p) : allN ps (k + 1) = allN ps k ++ p.l := by
  unfold allN
  obtain ⟨hk, e⟩ := List.getElem?_eq_some_iff.1 h
  rw [List.take_succ_eq_append_getElem hk, e]
  simp
theorem allN_le (ps : List Part) (k : Nat) : (allN ps k).length ≤ (allN ps ps.length).length := by
  have e : allN ps ps.length = allN ps k ++ ((ps.drop k).map (·.l)).flatten := by
    unfold allN
    rw [List.take_length, ← List.flatten_append, ← List.map_append, List.take_append_drop]
  rw [e]; simp
theorem allN_lt (w : World) (ps : List Part) (h : ∀ (i : Nat) (p : Part), ps[i]? = some p → p.ok w) (k : Nat) : ∀ x ∈ allN ps k, x < 256 := by
  intro x hx
  unfold allN at hx
  rw [List.mem_flatten] at hx
  obtain ⟨l, hl, hx⟩ := hx
  rw [List.mem_map] at hl
  obtain ⟨p, hp, rfl⟩ := hl
  obtain ⟨i, hi, e⟩ := List.getElem_of_mem (List.mem_of_mem_take hp)
  exact (h i p (by rw [List.getElem?_eq_getElem hi, e])).2.2.1 x hx
end Go.Proofs.YtiiepmljcjbflaaGreat

/- What the Go function join answers: all parts' bytes, one part behind the other, in new memory. -/
namespace Go.Proofs.YtiiepmljcjbflaaGreat
open Go.RowKit

set_option maxHeartbeats 400000 in
theorem join_any (g m c : Nat) (ps : List Part) (w : World) (hm : ps.length = m) (hg : g < w.heap.size) (hcell : ∀ (i : Nat) (p : Part), ps[i]? = some p → w.cell? ⟨g, i, none⟩ = some (.slice p.ad p.len p.cap))
    (hok : ∀ (i : Nat) (p : Part), ps[i]? = some p → p.ok w) (htot : (allN ps m).length ≤ 1000000) (hmm : m ≤ 1000) :
    Calls Tryz.prog 88 #[.slice (some ⟨g, 0, none⟩) m c] w fun e w' => ∃ v, e = .returned v ∧ Own w' w.heap.size v (allN ps m) ∧ Below w.heap.size w w' := by
  have HC : Hid (∀ (i : Nat) (p : Part), ps[i]? = some p → w.cell? ⟨g, i, none⟩ = some (.slice p.ad p.len p.cap)) := hcell
  have HO : Hid (∀ (i : Nat) (p : Part), ps[i]? = some p → p.ok w) := hok
  clear hcell hok
  obtain ⟨i0, hi, hz0, hz1, hz2⟩ := info_parts Tryz.info5
  go_enter Tryz.func88, Tryz.ntmps88
  go_wp2
  go_loop [3, 11] (fun s i => ∃ k : Nat, k ≤ m ∧ i = .int .i64 k ∧ s = .int .i64 ((allN ps k).length : Nat)) (fun _ i => m - (intOf i).toNat)
  case atStart => exact ⟨0, Nat.zero_le _, rfl, rfl⟩
  case round =>
    obtain ⟨k, hk, rfl, rfl⟩ := hrel
    have hle := allN_le ps k
    rw [hm] at hle
    by_cases hlt : k < m
    · obtain ⟨p, hp⟩ : ∃ p, ps[k]? = some p := ⟨_, List.getElem?_eq_getElem (by omega)⟩
      have hck := HC.out k p hp
      have hpl := (HO.out k p hp).1
      have HS : Hid ((allN ps (k + 1)).length = (allN ps k).length + p.len) := by show _ = _; rw [allN_succ ps k p hp, List.length_append, hpl]
      have hle2 := allN_le ps (k + 1)
      rw [hm] at hle2
      have hb2 : (allN ps k).length + p.len ≤ 1000000 := by have := HS.out; omega
      obtain ⟨pad, plen, pcap, pl⟩ := p
      simp only at hck hpl HS hb2
      clear hp hle2
      generalize (allN ps k).length = q at *
      go_wp2
      go_round
      case rel => exact ⟨k + 1, by omega, by go_num, by rw [HS.out]; go_num⟩
      case measure => simp [intOf]; omega
    · obtain rfl : k = m := by omega
      generalize hq : (allN ps k).length = q at *
      have HQ : Hid ((allN ps k).length = q) := hq
      clear hq
      go_wp2_with (at_make; refine wpList_make_own _ rfl _ _ 24 rfl w.heap.size 5 i0 (.int .u8 0) 1 Tryz.underlying24 hi hz0 hz1 _ _ _ q rfl rfl rfl (by rw [hz2]; omega) (by unfold maxLen; omega) (Nat.le_refl _) ?_; intro w1 hown hgrow)
      have hb := (Below.refl w.heap.size w).grown hgrow (Nat.le_refl _) (by intro k hk; cases hk)
      clear hgrow
      go_loopw [6, 24] (fun v i wr => ∃ j n : Nat, j ≤ k ∧ i = .int .i64 j ∧ v = .slice (some ⟨w.heap.size, 0, none⟩) n q ∧ Hid ((allN ps j).length = n) ∧ n ≤ q ∧ wr.ownsRow w.heap.size 5 1 (.slice (some ⟨w.heap.size, 0, none⟩) n q) n ((allN ps j).map bv) ∧ Below w.heap.size w wr) (fun _ i _ => k - (intOf i).toNat)
      case atStart => exact ⟨0, 0, Nat.zero_le _, rfl, rfl, rfl, Nat.zero_le _, hown, hb⟩
      case round =>
        obtain ⟨j, n, hj, rfl, rfl, HN, hnq, hownj, hbj⟩ := hrel
        clear hown hb
        by_cases hjl : j < k
        · obtain ⟨p, hp⟩ : ∃ p, ps[j]? = some p := ⟨_, List.getElem?_eq_getElem (by omega)⟩
          have hck : wr.cell? ⟨g, j, none⟩ = some (.slice p.ad p.len p.cap) := by rw [hbj.cell (p := ⟨g, j, none⟩) hg]; exact HC.out j p hp
          have hpo := (HO.out j p hp).later hbj
          have HS : Hid ((allN ps (j + 1)).length = n + p.len) := by show _ = _; rw [allN_succ ps j p hp, List.length_append, hpo.1, HN.out]
          have HA : Hid (allN ps (j + 1) = allN ps j ++ p.l) := allN_succ ps j p hp
          have hle2 := allN_le ps (j + 1)
          rw [hm] at hle2
          have hb2 : n + p.len ≤ q := by have := HS.out; have := HQ.out; omega
          obtain ⟨pad, plen, pcap, pl⟩ := p
          simp only at hck HS hb2 HA
          obtain ⟨hp1, hp2, hp3⟩ := hpo
          simp only at hp1 hp2 hp3
          clear hp hle2
          have hsz := hbj.size
          go_wp2_with (at_builtin; refine wpList_append_fits_any _ rfl _ _ 24 rfl w.heap.size 5 i0 1 Tryz.underlying24 hi hz1 w.heap.size n q _ rfl hownj pad plen pcap (pl.map bv) rfl (by simp [hp1]) hp2 (row_cells hp3) (bv_one pl) hb2 ?_; intro w2 hown2 hgrow2)
          have hb3 := hbj.grown hgrow2 hsz (by intro x hx; simp at hx; omega)
          rw [← List.map_append, ← HA.out] at hown2
          clear hgrow2 hownj
          go_roundw
          case rel => exact ⟨j + 1, n + plen, by omega, by go_num, rfl, HS, hb2, hown2, hb3⟩
          case measure => simp [intOf]; omega
        · obtain rfl : j = k := by omega
          go_wp2
          go_ret
          exact ⟨_, rfl, ⟨allN_lt w ps HO.out j, by rw [HN.out]; exact hownj⟩, hbj⟩
end Go.Proofs.YtiiepmljcjbflaaGreat
