/- slices.Concat of bytes: all parts' bytes, one part behind the other, in new memory. -/
import Derived.Test.YtikomnbhmmjfnaaGreatGrow
import Derived.Test.YtikomnbhmmjfnaaGreatJoinN
namespace Go.Proofs.YtikomnbhmmjfnaaGreat
open Go.RowKit

set_option maxRecDepth 100000 in
set_option maxHeartbeats 1000000 in
theorem concat_any (g m c : Nat) (ps : List Part) (w : World) (hm : ps.length = m) (hg : g < w.heap.size) (hcell : ∀ (i : Nat) (p : Part), ps[i]? = some p → w.cell? ⟨g, i, none⟩ = some (.slice p.ad p.len p.cap))
    (hok : ∀ (i : Nat) (p : Part), ps[i]? = some p → p.ok w) (htot : (allN ps m).length ≤ 1000000) (hmm : m ≤ 1000) :
    Calls Tryz.prog 112 #[.slice (some ⟨g, 0, none⟩) m c] w fun e w' => ∃ v, e = .returned v ∧ Own w' w.heap.size v (allN ps m) ∧ Below w.heap.size w w' := by
  have HC : Hid (∀ (i : Nat) (p : Part), ps[i]? = some p → w.cell? ⟨g, i, none⟩ = some (.slice p.ad p.len p.cap)) := hcell
  have HO : Hid (∀ (i : Nat) (p : Part), ps[i]? = some p → p.ok w) := hok
  clear hcell hok
  go_enter Tryz.func112, Tryz.ntmps112
  go_wp2
  go_loop [3, 11] (fun s i => ∃ k : Nat, k ≤ m ∧ i = .int .i64 k ∧ s = .int .i64 ((allN ps k).length : Nat)) (fun _ i => m - (intOf i).toNat)
  case atStart => exact ⟨0, Nat.zero_le _, rfl, rfl⟩
  case round =>
    obtain ⟨k, hk, rfl, rfl⟩ := hrel
    have hle := allN_le ps k
    rw [hm] at hle
    by_cases hlt : k < m
    · obtain ⟨p, hp⟩ : ∃ p, ps[k]? = some p := ⟨_, List.getElem?_eq_getElem (by omega)⟩
      have hck := HC.out k p hp
      have hpl := (HO.out k p hp).1
      have HS : Hid ((allN ps (k + 1)).length = (allN ps k).length + p.len) := by show _ = _; rw [allN_succ ps k p hp, List.length_append, hpl]
      have hle2 := allN_le ps (k + 1)
      rw [hm] at hle2
      have hb2 : (allN ps k).length + p.len ≤ 1000000 := by have := HS.out; omega
      obtain ⟨pad, plen, pcap, pl⟩ := p
      simp only at hck hpl HS hb2
      clear hp hle2
      generalize (allN ps k).length = q at *
      go_wp2
      go_round
      case rel => exact ⟨k + 1, by omega, by go_num, by rw [HS.out]; go_num⟩
      case measure => simp [intOf]; omega
    · obtain rfl : k = m := by omega
      generalize hq : (allN ps k).length = q at *
      have HQ : Hid ((allN ps k).length = q) := hq
      clear hq
      go_wp2_with fail
      refine (grow_any q w (by omega)).mono ?_
      rintro e w1 ⟨v0, rfl, o1, b1⟩
      have HO1 : Hid (w1.ownsRow w.heap.size 5 1 v0 0 []) := o1
      have HB1 : Hid (Below w.heap.size w w1) := b1
      clear o1 b1
      go_wp2_with fail
      go_loopw [6, 27] (fun v i wr => ∃ j n : Nat, j ≤ k ∧ i = .int .i64 j ∧ n ≤ q ∧ Hid ((allN ps j).length = n) ∧ Hid (wr.ownsRow w.heap.size 5 1 v n ((allN ps j).map bv)) ∧ Hid (Below w.heap.size w wr)) (fun _ i _ => k - (intOf i).toNat)
      case atStart => exact ⟨0, 0, Nat.zero_le _, rfl, Nat.zero_le _, (show Hid _ from rfl), HO1, HB1⟩
      case round =>
        obtain ⟨j, n, hj, rfl, hnq, HN, HW, HB⟩ := hrel
        clear HO1 HB1
        by_cases hjl : j < k
        · obtain ⟨p, hp⟩ : ∃ p, ps[j]? = some p := ⟨_, List.getElem?_eq_getElem (by omega)⟩
          have hck := (HB.out.cell (p := ⟨g, j, none⟩) hg).trans (HC.out j p hp)
          have hpo := HO.out j p hp
          have hS : (allN ps (j + 1)).length = n + p.len := by rw [allN_succ ps j p hp, List.length_append, HN.out, hpo.1]
          have HA : Hid (allN ps (j + 1) = allN ps j ++ p.l) := allN_succ ps j p hp
          have hle2 := allN_le ps (j + 1)
          rw [hm, HQ.out] at hle2
          have HS : Hid ((allN ps (j + 1)).length = n + p.len) := hS
          have hb2 : n + p.len ≤ q := by omega
          obtain ⟨pad, plen, pcap, pl⟩ := p
          have HP : Hid (Part.ok w ⟨pad, plen, pcap, pl⟩) := hpo
          simp only at hck HA hb2
          clear hp hle2 hpo hS
          go_wp2_with (at_builtin; refine app_any rfl _ _ rfl w.heap.size _ n (allN ps j) rfl HW.out pad plen pcap pl rfl HP.out.1 HP.out.2.1 (HP.out.2.2.later HB.out) (by omega) HB.out.size ?_; intro v2 w2 o2 g2)
          refine ⟨⟨j + 1, n + plen, by omega, by go_num, hb2, HS, (show Hid _ from by rw [HA.out]; exact o2), (show Hid _ from HB.out.grown g2 HB.out.size (fun k hk => (HW.out.lt k hk).1))⟩, by simp [intOf]; omega⟩
        · obtain rfl : j = k := by omega
          go_wp2
          go_ret
          refine ⟨_, rfl, ⟨allN_lt w ps HO.out j, ?_⟩, HB.out⟩
          rw [HN.out]
          exact HW.out
end Go.Proofs.YtikomnbhmmjfnaaGreat
