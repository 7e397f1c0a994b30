/- What the Go function join answers: all parts' bytes, one part behind the other, in new memory. What the Go functions isSize and spell answer: a number's bytes, the lowest first, in new memory. The contracts of spell and join in the form in which a walk meets them. What the Go function wire.Put answers. What the Go function wire.Frame answers. What the reader's methods pass and take answer, and what they do to the reader in memory. What the reader's method number answers, and wire.Get. What the Go function wire.Get answers. What the reader's methods head and frame, and wire.Unframe, answer. -/
import Derived.Test.YtmiibakbcogolaaGreatPMath
import Derived.Test.YtmiibakbcogolaaGreatPSum
namespace Go.Proofs.YtmiibakbcogolaaGreat
open Go.RowKit

set_option maxHeartbeats 400000 in
theorem join_any (g m c : Nat) (ps : List Part) (w : World) (hm : ps.length = m) (hg : g < w.heap.size) (hcell : ∀ (i : Nat) (p : Part), ps[i]? = some p → w.cell? ⟨g, i, none⟩ = some (.slice p.ad p.len p.cap))
    (hok : ∀ (i : Nat) (p : Part), ps[i]? = some p → p.ok w) (htot : (allN ps m).length ≤ 1000000) (hmm : m ≤ 1000) :
    Calls Tryz.prog 68 #[.slice (some ⟨g, 0, none⟩) m c] w fun e w' => ∃ v, e = .returned v ∧ Own w' w.heap.size v (allN ps m) ∧ Below w.heap.size w w' := by
  have HC : Hid (∀ (i : Nat) (p : Part), ps[i]? = some p → w.cell? ⟨g, i, none⟩ = some (.slice p.ad p.len p.cap)) := hcell
  have HO : Hid (∀ (i : Nat) (p : Part), ps[i]? = some p → p.ok w) := hok
  clear hcell hok
  obtain ⟨i0, hi, hz0, hz1, hz2⟩ := info_parts Tryz.info5
  go_enter Tryz.func68, Tryz.ntmps68
  go_wp2
  go_loop [3, 11] (fun s i => ∃ k : Nat, k ≤ m ∧ i = .int .i64 k ∧ s = .int .i64 ((allN ps k).length : Nat)) (fun _ i => m - (intOf i).toNat)
  case atStart => exact ⟨0, Nat.zero_le _, rfl, rfl⟩
  case round =>
    obtain ⟨k, hk, rfl, rfl⟩ := hrel
    have hle := allN_le ps k
    rw [hm] at hle
    by_cases hlt : k < m
    · obtain ⟨p, hp⟩ : ∃ p, ps[k]? = some p := ⟨_, List.getElem?_eq_getElem (by omega)⟩
      have hck := HC.out k p hp
      have hpl := (HO.out k p hp).1
      have HS : Hid ((allN ps (k + 1)).length = (allN ps k).length + p.len) := by show _ = _; rw [allN_succ ps k p hp, List.length_append, hpl]
      have hle2 := allN_le ps (k + 1)
      rw [hm] at hle2
      have hb2 : (allN ps k).length + p.len ≤ 1000000 := by have := HS.out; omega
      obtain ⟨pad, plen, pcap, pl⟩ := p
      simp only at hck hpl HS hb2
      clear hp hle2
      generalize (allN ps k).length = q at *
      go_wp2
      go_round
      case rel => exact ⟨k + 1, by omega, by go_num, by rw [HS.out]; go_num⟩
      case measure => simp [intOf]; omega
    · obtain rfl : k = m := by omega
      generalize hq : (allN ps k).length = q at *
      have HQ : Hid ((allN ps k).length = q) := hq
      clear hq
      go_wp2_with (at_make; refine wpList_make_own _ rfl _ _ 22 rfl w.heap.size 5 i0 (.int .u8 0) 1 Tryz.underlying22 hi hz0 hz1 _ _ _ q rfl rfl rfl (by rw [hz2]; omega) (by unfold maxLen; omega) (Nat.le_refl _) ?_; intro w1 hown hgrow)
      have hb := (Below.refl w.heap.size w).grown hgrow (Nat.le_refl _) (by intro k hk; cases hk)
      clear hgrow
      go_loopw [6, 24] (fun v i wr => ∃ j n : Nat, j ≤ k ∧ i = .int .i64 j ∧ v = .slice (some ⟨w.heap.size, 0, none⟩) n q ∧ Hid ((allN ps j).length = n) ∧ n ≤ q ∧ wr.ownsRow w.heap.size 5 1 (.slice (some ⟨w.heap.size, 0, none⟩) n q) n ((allN ps j).map bv) ∧ Below w.heap.size w wr) (fun _ i _ => k - (intOf i).toNat)
      case atStart => exact ⟨0, 0, Nat.zero_le _, rfl, rfl, rfl, Nat.zero_le _, hown, hb⟩
      case round =>
        obtain ⟨j, n, hj, rfl, rfl, HN, hnq, hownj, hbj⟩ := hrel
        clear hown hb
        by_cases hjl : j < k
        · obtain ⟨p, hp⟩ : ∃ p, ps[j]? = some p := ⟨_, List.getElem?_eq_getElem (by omega)⟩
          have hck : wr.cell? ⟨g, j, none⟩ = some (.slice p.ad p.len p.cap) := by rw [hbj.cell (p := ⟨g, j, none⟩) hg]; exact HC.out j p hp
          have hpo := (HO.out j p hp).later hbj
          have HS : Hid ((allN ps (j + 1)).length = n + p.len) := by show _ = _; rw [allN_succ ps j p hp, List.length_append, hpo.1, HN.out]
          have HA : Hid (allN ps (j + 1) = allN ps j ++ p.l) := allN_succ ps j p hp
          have hle2 := allN_le ps (j + 1)
          rw [hm] at hle2
          have hb2 : n + p.len ≤ q := by have := HS.out; have := HQ.out; omega
          obtain ⟨pad, plen, pcap, pl⟩ := p
          simp only at hck HS hb2 HA
          obtain ⟨hp1, hp2, hp3⟩ := hpo
          simp only at hp1 hp2 hp3
          clear hp hle2
          have hsz := hbj.size
          go_wp2_with (at_builtin; refine wpList_append_fits_any _ rfl _ _ 22 rfl w.heap.size 5 i0 1 Tryz.underlying22 hi hz1 w.heap.size n q _ rfl hownj pad plen pcap (pl.map bv) rfl (by simp [hp1]) hp2 (row_cells hp3) (bv_one pl) hb2 ?_; intro w2 hown2 hgrow2)
          have hb3 := hbj.grown hgrow2 hsz (by intro x hx; simp at hx; omega)
          rw [← List.map_append, ← HA.out] at hown2
          clear hgrow2 hownj
          go_roundw
          case rel => exact ⟨j + 1, n + plen, by omega, by go_num, rfl, HS, hb2, hown2, hb3⟩
          case measure => simp [intOf]; omega
        · obtain rfl : j = k := by omega
          go_wp2
          go_ret
          exact ⟨_, rfl, ⟨allN_lt w ps HO.out j, by rw [HN.out]; exact hownj⟩, hbj⟩
end Go.Proofs.YtmiibakbcogolaaGreat
namespace Go.Proofs.YtmiibakbcogolaaGreat
open Go.RowKit

theorem isSize_any (size : Int) (w : World) : Calls Tryz.prog 101 #[.int .i64 size] w fun e w' => e = .returned (.bool (decide (1 ≤ size) && decide (size ≤ 6))) ∧ w' = w := by
  by_cases h1 : 1 ≤ size
  · by_cases h2 : size ≤ 6
    · go_enter Tryz.func101, Tryz.ntmps101
      go_wp2
      go_ret
      exact ⟨by simp [h1, h2], rfl⟩
    · go_enter Tryz.func101, Tryz.ntmps101
      go_wp2
      go_ret
      exact ⟨by simp [h2], rfl⟩
  · go_enter Tryz.func101, Tryz.ntmps101
    go_wp2
    go_ret
    exact ⟨by rw [decide_eq_false (by omega : ¬ 1 ≤ size)]; rfl, rfl⟩
/-- What spell has laid behind k rounds. -/
def laidN (n size k : Nat) : List Value := (spellN n k).map bv ++ List.replicate (size - k) (.int .u8 0)
theorem laidN_zero (n size : Nat) : laidN n size 0 = List.replicate size (.int .u8 0) := by simp [laidN, spellN]
theorem laidN_full (n size : Nat) : laidN n size size = (spellN n size).map bv := by simp [laidN]
theorem laidN_at (n size k : Nat) (h : k < size) : (laidN n size k)[k]? = some (.int .u8 0) := by
  unfold laidN
  rw [List.getElem?_append_right (by simp [spellN_length])]
  rw [List.length_map, spellN_length, Nat.sub_self, List.getElem?_replicate, if_pos (by omega)]
theorem laidN_set (n size k : Nat) (h : k < size) : (laidN n size k).set k (bv (n / 2 ^ (8 * k) % 256)) = laidN n size (k + 1) := by
  unfold laidN
  rw [List.set_append_right _ _ (by simp [spellN_length])]
  rw [List.length_map, spellN_length, Nat.sub_self, show size - k = (size - (k + 1)) + 1 by omega, List.replicate_succ]
  simp [spellN]
set_option maxHeartbeats 400000 in
theorem spell_any (n size : Nat) (w : World) (h6 : size ≤ 6) :
    Calls Tryz.prog 69 #[.int .i64 n, .int .i64 size] w fun e w' => ∃ v, e = .returned v ∧ Own w' w.heap.size v (spellN n size) ∧ Below w.heap.size w w' := by
  obtain ⟨i0, hi, hz0, hz1, hz2⟩ := info_parts Tryz.info5
  go_enter Tryz.func69, Tryz.ntmps69
  go_wp2_with (at_make; refine wpList_make_full _ rfl _ _ 22 rfl w.heap.size 5 i0 (.int .u8 0) 1 Tryz.underlying22 hi hz0 hz1 _ _ _ _ size rfl rfl rfl rfl (by rw [hz2]; omega) (by unfold maxLen; omega) (Nat.le_refl _) ?_; intro w1 hown hgrow)
  have hb := (Below.refl w.heap.size w).grown hgrow (Nat.le_refl _) (by intro k hk; cases hk)
  have hown2 : w1.ownsRow w.heap.size 5 1 (.slice (some ⟨w.heap.size, 0, none⟩) size size) size (laidN n size 0) := by
    rw [laidN_zero]
    have e := toList_madeCells_one (.int .u8 0) (size * 1)
    simp only [Value.cells] at hown
    rw [e, Nat.mul_one] at hown
    exact hown
  clear hown hgrow
  go_loopw [11] (fun i wr => ∃ k : Nat, k ≤ size ∧ i = .int .i64 k ∧ wr.ownsRow w.heap.size 5 1 (.slice (some ⟨w.heap.size, 0, none⟩) size size) size (laidN n size k) ∧ Below w.heap.size w wr) (fun i _ => size - (intOf i).toNat)
  case atStart => exact ⟨0, Nat.zero_le _, rfl, hown2, hb⟩
  case round =>
    obtain ⟨k, hk, rfl, hownk, hbk⟩ := hrel
    clear hown2 hb
    by_cases hlt : k < size
    · have hck : wr.cell? ⟨w.heap.size, k, none⟩ = some (.int .u8 0) := by rw [hownk.cellAt k (by omega), laidN_at n size k hlt]
      have hfk := hownk.frozenAt k
      go_wp2
      have hst := hownk.stored k (bv (n / 2 ^ (8 * k) % 256))
      rw [laidN_set n size k hlt] at hst
      go_roundw
      case rel => exact ⟨k + 1, by omega, by go_num, by simpa [bv] using hst.1, hbk.setCell (Nat.le_refl _) _⟩
      case measure => simp [intOf]; omega
    · obtain rfl : k = size := by omega
      rw [laidN_full] at hownk
      go_wp2
      go_ret
      exact ⟨_, rfl, ⟨spellN_lt n k, by rw [spellN_length]; exact hownk⟩, hbk⟩
end Go.Proofs.YtmiibakbcogolaaGreat
namespace Go.Proofs.YtmiibakbcogolaaGreat
open Go.RowKit

theorem spell_at {z s : Int} (n size : Nat) (w : World) (hz : z = n) (hs : s = size) (h6 : size ≤ 6) :
    Calls Tryz.prog 69 #[.int .i64 z, .int .i64 s] w fun e w' => ∃ p : Part, e = .returned (.slice p.ad p.len p.cap) ∧ Hid (p.l = spellN n size) ∧ Hid (p.ok w') ∧ Below w.heap.size w w' := by
  subst hz hs
  refine (spell_any n size w h6).mono ?_
  rintro e w' ⟨v, rfl, hown, hb⟩
  obtain ⟨p, rfl, h1, h2⟩ := Part.of_own hown
  exact ⟨p, rfl, h1, h2, hb⟩
/-- A join of parts that lie in one new block. -/
theorem join_at (ps : List Part) (w0 : World) (cs : Array Value) (hcs : cs = (ps.map fun p => Value.slice p.ad p.len p.cap).toArray) (m c : Nat) (hm : ps.length = m) (hok : ∀ p ∈ ps, p.ok w0) (htot : (allN ps m).length ≤ 1000000) (hmm : m ≤ 1000) :
    Calls Tryz.prog 68 #[.slice (some ⟨w0.heap.size, 0, none⟩) m c] (w0.alloc (.cells cs 22)) fun e w' => ∃ p : Part, e = .returned (.slice p.ad p.len p.cap) ∧ Hid (p.l = allN ps m) ∧ Hid (Own w' w0.heap.size (.slice p.ad p.len p.cap) (allN ps m)) ∧ Hid (p.ok w') ∧ Below w0.heap.size w0 w' := by
  have hb0 : Below w0.heap.size w0 (w0.alloc (.cells cs 22)) := (Below.refl _ _).alloc (Nat.le_refl _) _
  refine (join_any w0.heap.size m c ps _ hm (by simp) ?_ ?_ htot hmm).mono ?_
  · intro i p hp
    subst hcs
    have hi : i < ps.length := (List.getElem?_eq_some_iff.1 hp).1
    simp [hp]
  · intro i p hp
    exact (hok p (List.mem_of_getElem? hp)).later hb0
  · rintro e w' ⟨v, rfl, hown, hb⟩
    obtain ⟨p, rfl, h1, h2⟩ := Part.of_own hown
    exact ⟨p, rfl, h1, hown.down (by simp), h2, hb0.trans (hb.mono (by simp))⟩
end Go.Proofs.YtmiibakbcogolaaGreat
namespace Go.Proofs.YtmiibakbcogolaaGreat
open Go.RowKit

theorem put_no (n size : Int) (w : World) (h : ¬ (1 ≤ size ∧ size ≤ 6)) :
    Calls Tryz.prog 72 #[.int .i64 n, .int .i64 size] w fun e w' => e = .returned (.tuple #[.slice none 0 0, .int .i64 1]) ∧ w' = w := by
  have hb : (decide (1 ≤ size) && decide (size ≤ 6)) = false := by
    rw [Bool.and_eq_false_iff]; simp; omega
  go_enter Tryz.func72, Tryz.ntmps72
  go_wp2_with (go_at_call 101; refine (isSize_any _ _).mono ?_; rintro e w' ⟨rfl, rfl⟩; rw [hb])
  go_ret2
  exact ⟨rfl, rfl⟩
set_option maxHeartbeats 400000 in
theorem put_size (n : Int) (size : Nat) (w : World) (h1 : 1 ≤ size) (h6 : size ≤ 6) :
    Calls Tryz.prog 72 #[.int .i64 n, .int .i64 size] w fun e w' => ∃ v, e = .returned (.tuple #[v, .int .i64 (putN n size).1]) ∧ Own w' w.heap.size v (putN n size).2 ∧ Below w.heap.size w w' := by
  have hb : (decide (1 ≤ (size : Int)) && decide ((size : Int) ≤ 6)) = true := by simp; omega
  obtain ⟨p, ep, hp, HP⟩ := pow_size size h6
  by_cases hn : 0 ≤ n
  · obtain ⟨n, rfl⟩ := Int.eq_ofNat_of_zero_le hn
    by_cases hlt : n < p
    · rw [putN_ok n size h1 h6 (by omega)]
      clear HP
      go_enter Tryz.func72, Tryz.ntmps72
      go_wp2_with (first | (go_at_call 101; refine (isSize_any _ _).mono ?_; rintro e w' ⟨rfl, rfl⟩; rw [hb]) | (go_at_call 69; refine (spell_any _ _ _ h6).mono ?_; rintro e w1 ⟨v, rfl, hown, hbel⟩))
      go_ret2
      exact ⟨_, rfl, hown, hbel⟩
    · rw [putN_range n size h1 h6 (by
        have e : ((2 ^ (8 * size) : Nat) : Int) = (2 : Int) ^ (8 * size) := by rw [Int.natCast_pow]; rfl
        rw [← e]; omega)]
      clear HP
      go_enter Tryz.func72, Tryz.ntmps72
      go_wp2_with (first | (go_at_call 101; refine (isSize_any _ _).mono ?_; rintro e w' ⟨rfl, rfl⟩; rw [hb]))
      go_ret2
      exact ⟨_, rfl, Own.nil _ _, Below.refl _ _⟩
  · rw [putN_range n size h1 h6 (by omega)]
    clear HP
    go_enter Tryz.func72, Tryz.ntmps72
    go_wp2_with (first | (go_at_call 101; refine (isSize_any _ _).mono ?_; rintro e w' ⟨rfl, rfl⟩; rw [hb]))
    go_ret2
    exact ⟨_, rfl, Own.nil _ _, Below.refl _ _⟩
theorem put_any (n size : Int) (w : World) :
    Calls Tryz.prog 72 #[.int .i64 n, .int .i64 size] w fun e w' => ∃ v, e = .returned (.tuple #[v, .int .i64 (putN n size).1]) ∧ Own w' w.heap.size v (putN n size).2 ∧ Below w.heap.size w w' := by
  by_cases h : 1 ≤ size ∧ size ≤ 6
  · obtain ⟨k, rfl⟩ := Int.eq_ofNat_of_zero_le (show 0 ≤ size by omega)
    exact put_size n k w (by omega) (by omega)
  · refine (put_no n size w h).mono ?_
    rintro e w' ⟨rfl, rfl⟩
    rw [putN_no n size h]
    exact ⟨_, rfl, Own.nil _ _, Below.refl _ _⟩
end Go.Proofs.YtmiibakbcogolaaGreat
namespace Go.Proofs.YtmiibakbcogolaaGreat
open Go.RowKit Crcm

set_option maxHeartbeats 1000000 in
theorem frame_ok (kind : Nat) (ad : Option Addr) (len cap : Nat) (l : List Nat) (w : World) (hk : kind ≤ 255) (hl : len ≤ 65536) (hp : Part.ok w ⟨ad, len, cap, l⟩) :
    Calls Tryz.prog 35 #[.int .i64 kind, .slice ad len cap] w fun e w' => ∃ v, e = .returned (.tuple #[v, .int .i64 0]) ∧ Own w' w.heap.size v (frameBs kind l) ∧ Below w.heap.size w w' := by
  have HP : Hid (Part.ok w ⟨ad, len, cap, l⟩) := hp
  clear hp
  go_enter Tryz.func35, Tryz.ntmps35
  go_wp2_with fail
  refine (spell_at kind 1 _ rfl rfl (by omega)).mono ?_
  rintro e w1 ⟨p1, rfl, e1, ok1, b1⟩
  go_wp2_with fail
  refine (spell_at len 4 _ rfl rfl (by omega)).mono ?_
  rintro e w2 ⟨p2, rfl, e2, ok2, b2⟩
  go_wp2_with fail
  have b12 : Below w.heap.size w w2 := b1.trans (b2.mono b1.size)
  have E3 : Hid (allN [p1, p2, ⟨ad, len, cap, l⟩] 3 = toldN kind l) := by
    show _ = _
    simp [allN, e1.out, e2.out, toldN, HP.out.1]
  have hkl : Hid (l.length = len) := HP.out.1
  refine (join_at [p1, p2, ⟨ad, len, cap, l⟩] w2 _ rfl 3 3 rfl (by
    intro p hp
    simp at hp
    rcases hp with rfl | rfl | rfl
    · exact ok1.out.later b2
    · exact ok2.out
    · exact HP.out.later b12) (by rw [E3.out, toldN_length, hkl.out]; omega) (by omega)).mono ?_
  rintro e w3 ⟨p3, rfl, e3, -, ok3, b3⟩
  have e3' : Hid (p3.l = toldN kind l) := by show _ = _; rw [e3.out, E3.out]
  have b13 : Below w.heap.size w w3 := b12.trans (b3.mono b12.size)
  have h3l : p3.len ≤ 65541 := by rw [← ok3.out.1, e3'.out, toldN_length, hkl.out]; omega
  clear e1 e2 e3 ok1 ok2 b1 b2 b12 b3 HP E3
  go_wp2_with fail
  refine (crc_any p3.ad p3.len p3.cap p3.l _ ok3.out.1 (by unfold maxLen; omega) ok3.out.2.2).mono ?_
  rintro e w4 ⟨rfl, b4⟩
  have hc := crc_lt p3.l
  go_wp2_with fail
  refine (spell_at (crc p3.l) 4 _ rfl rfl (by omega)).mono ?_
  rintro e w5 ⟨p5, rfl, e5, ok5, b5⟩
  go_wp2_with fail
  have E6 : Hid (allN [p3, p5] 2 = frameBs kind l) := by
    show _ = _
    simp [allN, e3'.out, e5.out, frameBs]
  refine (join_at [p3, p5] w5 _ rfl 2 2 rfl (by
    intro p hp
    simp at hp
    rcases hp with rfl | rfl
    · exact ok3.out.later (b4.trans (b5.mono b4.size))
    · exact ok5.out) (by rw [E6.out, frameBs_length, hkl.out]; omega) (by omega)).mono ?_
  rintro e w6 ⟨p6, rfl, -, own6, -, b6⟩
  have b15 : Below w.heap.size w w5 := (b13.trans (b4.mono b13.size)).trans (b5.mono (Nat.le_trans b13.size b4.size))
  have own7 : Hid (Own w6 w.heap.size (.slice p6.ad p6.len p6.cap) (frameBs kind l)) := by
    have h := own6.out
    rw [E6.out] at h
    exact h.down b15.size
  have b16 : Below w.heap.size w w6 := b15.trans (b6.mono b15.size)
  clear own6 E6 ok3 ok5 e5 e3' b13 b4 b5 b6 b15
  go_wp2
  go_ret2
  exact ⟨_, rfl, own7, b16⟩
theorem frame_any (kind : Int) (ad : Option Addr) (len cap : Nat) (l : List Nat) (w : World) (hp : Part.ok w ⟨ad, len, cap, l⟩) (hm : len ≤ maxLen) :
    Calls Tryz.prog 35 #[.int .i64 kind, .slice ad len cap] w fun e w' => ∃ v, e = .returned (.tuple #[v, .int .i64 (frameN kind l).1]) ∧ Own w' w.heap.size v (frameN kind l).2 ∧ Below w.heap.size w w' := by
  have hlen : l.length = len := hp.1
  unfold maxLen at hm
  by_cases hk : 0 ≤ kind ∧ kind ≤ 255
  · by_cases hl : len ≤ 65536
    · obtain ⟨k, rfl⟩ := Int.eq_ofNat_of_zero_le hk.1
      rw [frameN_ok k l (by omega) (by omega)]
      exact frame_ok k ad len cap l w (by omega) hl hp
    · rw [frameN_size kind l hk (by omega)]
      clear hp hlen
      go_enter Tryz.func35, Tryz.ntmps35
      go_wp2
      go_ret2
      exact ⟨_, rfl, Own.nil _ _, Below.refl _ _⟩
  · rw [frameN_kind kind l hk]
    clear hp hlen
    by_cases h0 : kind < 0
    · go_enter Tryz.func35, Tryz.ntmps35
      go_wp2
      go_ret2
      exact ⟨_, rfl, Own.nil _ _, Below.refl _ _⟩
    · have h1 : 255 < kind := by omega
      go_enter Tryz.func35, Tryz.ntmps35
      go_wp2
      go_ret2
      exact ⟨_, rfl, Own.nil _ _, Below.refl _ _⟩
end Go.Proofs.YtmiibakbcogolaaGreat
namespace Go.Proofs.YtmiibakbcogolaaGreat
open Go.RowKit

/-- In w the block B is a reader of the part P, at place p. -/
def Rd (w : World) (B : Nat) (p : Int) (P : Part) : Prop := w.heap[B]? = some (.cells #[.int .i64 p, .slice P.ad P.len P.cap] 166 (0, 0))
theorem Rd.c0 {w : World} {B : Nat} {p : Int} {P : Part} (h : Rd w B p P) : w.cell? ⟨B, 0, none⟩ = some (.int .i64 p) := by rw [cell_of_row w B 0 _ _ _ h]; rfl
theorem Rd.c1 {w : World} {B : Nat} {p : Int} {P : Part} (h : Rd w B p P) : w.cell? ⟨B, 1, none⟩ = some (.slice P.ad P.len P.cap) := by rw [cell_of_row w B 1 _ _ _ h]; rfl
theorem Rd.f0 {w : World} {B : Nat} {p : Int} {P : Part} (h : Rd w B p P) : w.frozen? ⟨B, 0, none⟩ = false := frozen_of_row w B 0 _ _ h
theorem Rd.set {w : World} {B : Nat} {p q : Int} {P : Part} (h : Rd w B p P) : Rd (w.setCell ⟨B, 0, none⟩ (.int .i64 q)) B q P := by
  have e := heap_setCell_same w B 0 _ _ (.int .i64 q) h
  exact e
theorem pass_yes (B : Nat) (p : Nat) (n : Nat) (m : Nat) (P : Part) (w : World) (hr : Rd w B p P) (h : p + n ≤ m) (hm : m ≤ 1000000000000000) :
    Calls Tryz.prog 159 #[.pointer (some ⟨B, 0, none⟩), .int .i64 n, .int .i64 m] w fun e w' => e = .returned (.bool true) ∧ w' = w.setCell ⟨B, 0, none⟩ (.int .i64 ((p + n : Nat) : Int)) := by
  have c0 := hr.c0
  have f0 := hr.f0
  clear hr
  go_enter Tryz.func159, Tryz.ntmps159
  go_wp2
  go_ret
  exact ⟨rfl, by rw [Int.natCast_add]⟩
theorem pass_no (B : Nat) (p : Nat) (n : Nat) (m : Nat) (P : Part) (w : World) (hr : Rd w B p P) (h : ¬ p + n ≤ m) (hp : p ≤ 9223372036854775807) (hm : m ≤ 1000000000000000) :
    Calls Tryz.prog 159 #[.pointer (some ⟨B, 0, none⟩), .int .i64 n, .int .i64 m] w fun e w' => e = .returned (.bool false) ∧ w' = w := by
  have c0 := hr.c0
  clear hr
  have h2 : (m : Int) - p < n := by omega
  go_enter Tryz.func159, Tryz.ntmps159
  go_wp2
  go_ret
  exact ⟨rfl, rfl⟩
theorem Rd.drewN {w : World} {B : Nat} {p : Int} {P : Part} (h : Rd w B p P) (m : Nat) : Rd (w.drewN m) B p P := by
  induction m with
  | zero => exact h
  | succ m ih => exact ih
set_option maxHeartbeats 1000000 in
theorem take_raw (B p n : Nat) (P : Part) (w : World) (hr : Rd w B p P) (h : p + n ≤ P.len) (hc : P.len ≤ P.cap) (hm : P.len ≤ 1000000000000000) :
    Calls Tryz.prog 137 #[.pointer (some ⟨B, 0, none⟩), .int .i64 n] w fun e w' => e = .returned (.tuple #[.slice (cutP P p n).ad n (cutP P p n).cap, .int .i64 0]) ∧ ∃ m, w' = (w.setCell ⟨B, 0, none⟩ (.int .i64 ((p : Int) + (n : Int)))).drewN m := by
  have c0 := hr.c0
  have c1 := hr.c1
  have HR : Hid (Rd w B p P) := hr
  have d1 := (hr.set (q := (p : Int) + (n : Int))).c1
  have d0 := (hr.set (q := (p : Int) + (n : Int))).c0
  clear hr
  obtain ⟨ad, len, cap, l⟩ := P
  simp only at c1 d1 h hc hm
  have y1 : Hid (cap = p → (cutP ⟨ad, len, cap, l⟩ p n) = ⟨ad, n, 0, (l.drop p).take n⟩) := fun e => by unfold cutP; rw [if_pos e]
  have y2 : Hid (¬ cap = p → (cutP ⟨ad, len, cap, l⟩ p n) = ⟨ad.map (fun x => x.add p), n, cap - p, (l.drop p).take n⟩) := fun e => by unfold cutP; rw [if_neg e]
  generalize cutP ⟨ad, len, cap, l⟩ p n = Q at *
  go_enter Tryz.func137, Tryz.ntmps137
  go_wp2
  go_region_held3 (fun w' => w'.cell? ⟨B, 1, none⟩ = some (.slice ad len cap)) (go_keep)
    ((go_at_call 159; refine (pass_yes B p n len ⟨ad, len, cap, l⟩ _ ?_ h (by omega)).mono ?_; exact HR; rintro e w' ⟨rfl, rfl⟩))
  all_goals go_wp2
  all_goals go_quiet (fail)
  all_goals go_wp2
  all_goals go_ret2
  all_goals
    first
    | (have e := y1.out (by assumption); subst e; exact ⟨rfl, _, rfl⟩)
    | (have e := y2.out (by assumption); subst e; exact ⟨rfl, _, rfl⟩)
theorem take_yes (w0 : World) (B p n : Nat) (P : Part) (w : World) (ok : P.ok w0) (bel : Below w0.heap.size w0 w) (hB : w0.heap.size ≤ B) (hr : Rd w B p P) (h : p + n ≤ P.len) (hc : P.len ≤ P.cap) (hm : P.len ≤ 1000000000000000) :
    Calls Tryz.prog 137 #[.pointer (some ⟨B, 0, none⟩), .int .i64 n] w fun e w' => ∃ Q : Part, e = .returned (.tuple #[.slice Q.ad n Q.cap, .int .i64 0]) ∧ Hid (Q.len = n ∧ Q.l = (P.l.drop p).take n ∧ Q.ok w0 ∧ n ≤ Q.cap) ∧ Rd w' B ((p + n : Nat) : Int) P ∧ Below w0.heap.size w0 w' := by
  refine (take_raw B p n P w hr h hc hm).mono ?_
  rintro e w' ⟨rfl, m, rfl⟩
  refine ⟨cutP P p n, rfl, ⟨cutP_len P p n, cutP_l P p n, cutP_ok ok p n h hc, by rw [cutP_cap]; omega⟩, ?_, ?_⟩
  · rw [Int.natCast_add]; exact hr.set.drewN m
  · exact below_drewN' (bel.setCell hB _) m
set_option maxHeartbeats 1000000 in
theorem take_no (w0 : World) (B p n : Nat) (P : Part) (w : World) (bel : Below w0.heap.size w0 w) (hr : Rd w B p P) (h : ¬ p + n ≤ P.len) (hp : p ≤ 9223372036854775807) (hm : P.len ≤ 1000000000000000) :
    Calls Tryz.prog 137 #[.pointer (some ⟨B, 0, none⟩), .int .i64 n] w fun e w' => e = .returned (.tuple #[.slice none 0 0, .int .i64 20]) ∧ Rd w' B p P ∧ Below w0.heap.size w0 w' := by
  have c0 := hr.c0
  have c1 := hr.c1
  have HR : Hid (Rd w B p P) := hr
  clear hr
  obtain ⟨ad, len, cap, l⟩ := P
  simp only at c1 h hm
  go_enter Tryz.func137, Tryz.ntmps137
  go_wp2
  go_region_held3 (fun w' => w'.cell? ⟨B, 1, none⟩ = some (.slice ad len cap)) (go_keep)
    ((go_at_call 159; refine (pass_no B p n len ⟨ad, len, cap, l⟩ _ ?_ h hp hm).mono ?_; exact HR; rintro e w' ⟨rfl, rfl⟩))
  all_goals go_wp2
  all_goals go_ret2
  all_goals exact ⟨rfl, HR, bel.drew⟩
end Go.Proofs.YtmiibakbcogolaaGreat
namespace Go.Proofs.YtmiibakbcogolaaGreat
open Go.RowKit

set_option maxHeartbeats 1000000 in
theorem number_yes (w0 : World) (B p s : Nat) (P : Part) (w : World) (ok : P.ok w0) (bel : Below w0.heap.size w0 w) (hB : w0.heap.size ≤ B) (hr : Rd w B p P) (h1 : 1 ≤ s) (h6 : s ≤ 6) (h : p + s ≤ P.len) (hc : P.len ≤ P.cap) (hm : P.len ≤ 1000000000000000) :
    Calls Tryz.prog 103 #[.pointer (some ⟨B, 0, none⟩), .int .i64 s] w fun e w' => e = .returned (.tuple #[.int .i64 (valN ((P.l.drop p).take s) : Nat), .int .i64 0]) ∧ Rd w' B ((p + s : Nat) : Int) P ∧ Below w0.heap.size w0 w' := by
  have HO : Hid (P.ok w0) := ok
  have HR : Hid (Rd w B p P) := hr
  clear ok hr
  go_enter Tryz.func103, Tryz.ntmps103
  go_wp2_with fail
  refine (take_yes w0 B p s P _ HO.out bel hB HR.out h hc hm).mono ?_
  rintro e w1 ⟨Q, rfl, HQ, hr1, b1⟩
  have HR1 : Hid (Rd w1 B ((p + s : Nat) : Int) P) := hr1
  clear hr1 HR bel
  obtain ⟨ad, len, cap, l⟩ := Q
  obtain ⟨q1, q2, q3, q4⟩ := HQ.out
  simp only at q1 q2 q3 q4
  subst q1
  obtain ⟨b, off, rfl, hb, hcell⟩ := q3.cells (by omega)
  have HC : Hid (∀ i, i < len → w1.cell? ⟨b, off + i, none⟩ = some (.int .u8 (l.getD i 0 : Nat))) := fun i hi => by
    rw [b1.cell (p := ⟨b, off + i, none⟩) hb]; exact hcell i hi
  have HB : Hid (∀ x ∈ l, x < 256) := q3.2.2.1
  have HL : Hid (l.length = len) := q3.1
  have H2 : Hid (l = (P.l.drop p).take len) := q2
  clear q2 q3 hcell HQ
  simp only
  go_wp2
  go_loop [8, 22] (fun n i => ∃ k : Nat, k ≤ len ∧ i = .int .i64 k ∧ n = .int .i64 (valN (l.take k) : Nat)) (fun _ i => len - (intOf i).toNat)
  case atStart => exact ⟨0, Nat.zero_le _, rfl, rfl⟩
  case round =>
    obtain ⟨k, hk, rfl, rfl⟩ := hrel
    by_cases hlt : k < len
    · have hck := HC.out k hlt
      have hx := getD_lt HB.out k
      have HS : Hid (bits .or .i64 ((valN (l.take k) : Nat) : Int) (wrap64 ((l.getD k 0 : Int) * 2 ^ (8 * k))) = ((valN (l.take (k + 1)) : Nat) : Int)) := by
        show _ = _
        rw [take_snoc l k (by rw [HL.out]; exact hlt)]
        exact orw_step _ _ k (take_mem HB.out k) hx (by rw [List.length_take, HL.out]; omega) (by omega)
      generalize l.getD k 0 = x at *
      go_wp2
      go_round
      case rel => exact ⟨k + 1, by omega, by go_num, val_int (HS.out)⟩
      case measure => simp [intOf]; omega
    · have HV : Hid (valN (l.take k) = valN ((P.l.drop p).take len)) := by
        show _ = _
        rw [List.take_of_length_le (by rw [HL.out]; omega), H2.out]
      go_wp2
      go_ret2
      exact ⟨by rw [← HV.out]; rfl, HR1, b1⟩

set_option maxHeartbeats 1000000 in
theorem number_no (w0 : World) (B p s : Nat) (P : Part) (w : World) (bel : Below w0.heap.size w0 w) (hr : Rd w B p P) (h : ¬ p + s ≤ P.len) (hp : p ≤ 9223372036854775807) (hm : P.len ≤ 1000000000000000) :
    Calls Tryz.prog 103 #[.pointer (some ⟨B, 0, none⟩), .int .i64 s] w fun e w' => e = .returned (.tuple #[.int .i64 0, .int .i64 20]) ∧ Rd w' B p P ∧ Below w0.heap.size w0 w' := by
  have HR : Hid (Rd w B p P) := hr
  clear hr
  go_enter Tryz.func103, Tryz.ntmps103
  go_wp2_with fail
  refine (take_no w0 B p s P _ bel HR.out h hp hm).mono ?_
  rintro e w1 ⟨rfl, hr1, b1⟩
  have HR1 : Hid (Rd w1 B p P) := hr1
  clear hr1 HR bel
  go_wp2
  go_ret2
  exact ⟨rfl, HR1, b1⟩

theorem number_at {z : Int} (w0 : World) (B p s : Nat) (P : Part) (w : World) (hz : z = s) (ok : P.ok w0) (bel : Below w0.heap.size w0 w) (hB : w0.heap.size ≤ B) (hr : Rd w B p P) (h1 : 1 ≤ s) (h6 : s ≤ 6) (h : p + s ≤ P.len) (hc : P.len ≤ P.cap) (hm : P.len ≤ 1000000000000000) :
    Calls Tryz.prog 103 #[.pointer (some ⟨B, 0, none⟩), .int .i64 z] w fun e w' => e = .returned (.tuple #[.int .i64 (valN ((P.l.drop p).take s) : Nat), .int .i64 0]) ∧ Rd w' B ((p + s : Nat) : Int) P ∧ Below w0.heap.size w0 w' := by
  subst hz; exact number_yes w0 B p s P w ok bel hB hr h1 h6 h hc hm
theorem number_not {z : Int} (w0 : World) (B p s : Nat) (P : Part) (w : World) (hz : z = s) (bel : Below w0.heap.size w0 w) (hr : Rd w B p P) (h : ¬ p + s ≤ P.len) (hp : p ≤ 9223372036854775807) (hm : P.len ≤ 1000000000000000) :
    Calls Tryz.prog 103 #[.pointer (some ⟨B, 0, none⟩), .int .i64 z] w fun e w' => e = .returned (.tuple #[.int .i64 0, .int .i64 20]) ∧ Rd w' B p P ∧ Below w0.heap.size w0 w' := by
  subst hz; exact number_no w0 B p s P w bel hr h hp hm

theorem Rd.new (w : World) (p : Int) (P : Part) : Rd (w.alloc (.cells #[.int .i64 p, .slice P.ad P.len P.cap] 166)) w.heap.size p P := heap_alloc_new w _
end Go.Proofs.YtmiibakbcogolaaGreat
namespace Go.Proofs.YtmiibakbcogolaaGreat
open Go.RowKit

set_option maxHeartbeats 1000000 in
theorem get_in (ad : Option Addr) (len cap : Nat) (l : List Nat) (p s : Nat) (w : World) (hp : Part.ok w ⟨ad, len, cap, l⟩) (hlc : len ≤ cap) (hm : len ≤ 1000000000000000) (hp2 : p ≤ 9223372036854775807) (h1 : 1 ≤ s) (h6 : s ≤ 6) :
    Calls Tryz.prog 77 #[.slice ad len cap, .int .i64 p, .int .i64 s] w fun e w' => e = .returned (.tuple #[.int .i64 (getN l p s).1, .int .i64 (getN l p s).2.1, .int .i64 (getN l p s).2.2]) ∧ Below w.heap.size w w' := by
  have hb : (decide (1 ≤ (s : Int)) && decide ((s : Int) ≤ 6)) = true := by simp; omega
  have hlen : l.length = len := hp.1
  have HP : Hid (Part.ok w ⟨ad, len, cap, l⟩) := hp
  clear hp
  have b0 : Below w.heap.size w (w.alloc (.cells #[.int .i64 (p : Int), .slice ad len cap] 166)) := (Below.refl _ _).alloc (Nat.le_refl _) _
  have r0 : Hid (Rd (w.alloc (.cells #[.int .i64 (p : Int), .slice ad len cap] 166)) w.heap.size p ⟨ad, len, cap, l⟩) := Rd.new w p ⟨ad, len, cap, l⟩
  by_cases h2 : p + s ≤ len
  · rw [getN_ok l p s ⟨h1, h6⟩ (by omega)]
    go_enter Tryz.func77, Tryz.ntmps77
    go_wp2_with (first | (go_at_call 101; refine (isSize_any _ _).mono ?_; rintro e w' ⟨rfl, rfl⟩; rw [hb]) | (go_at_call 103; refine (number_at w' w'.heap.size p s ⟨ad, len, cap, l⟩ _ rfl HP.out b0 (Nat.le_refl _) r0.out h1 h6 h2 hlc hm).mono ?_; rintro e w1 ⟨rfl, hr1, b1⟩; have c1 := hr1.c0; clear hr1))
    go_quiet (fail)
    go_wp2
    go_ret3
    exact ⟨rfl, below_drewN' b1 _⟩
  · rw [getN_end l p s (by omega) (by omega)]
    go_enter Tryz.func77, Tryz.ntmps77
    go_wp2_with (first | (go_at_call 101; refine (isSize_any _ _).mono ?_; rintro e w' ⟨rfl, rfl⟩; rw [hb]) | (go_at_call 103; refine (number_not w' w'.heap.size p s ⟨ad, len, cap, l⟩ _ rfl b0 r0.out h2 hp2 hm).mono ?_; rintro e w1 ⟨rfl, hr1, b1⟩; clear hr1))
    go_ret3
    exact ⟨rfl, b1⟩

theorem get_any (ad : Option Addr) (len cap : Nat) (l : List Nat) (p s : Int) (w : World) (hp : Part.ok w ⟨ad, len, cap, l⟩) (hlc : len ≤ cap) (hm : len ≤ 1000000000000000) (hp2 : p ≤ 9223372036854775807) :
    Calls Tryz.prog 77 #[.slice ad len cap, .int .i64 p, .int .i64 s] w fun e w' => e = .returned (.tuple #[.int .i64 (getN l p s).1, .int .i64 (getN l p s).2.1, .int .i64 (getN l p s).2.2]) ∧ Below w.heap.size w w' := by
  by_cases h : 1 ≤ s ∧ s ≤ 6
  · by_cases h0 : 0 ≤ p
    · obtain ⟨k, rfl⟩ := Int.eq_ofNat_of_zero_le (show 0 ≤ s by omega)
      obtain ⟨q, rfl⟩ := Int.eq_ofNat_of_zero_le h0
      exact get_in ad len cap l q k w hp hlc hm (by omega) (by omega) (by omega)
    · rw [getN_arg l p s (by omega)]
      have hb : (decide (1 ≤ s) && decide (s ≤ 6)) = true := by simp; omega
      clear hp h
      have h1 : p < 0 := by omega
      go_enter Tryz.func77, Tryz.ntmps77
      go_wp2_with (go_at_call 101; refine (isSize_any _ _).mono ?_; rintro e w' ⟨rfl, rfl⟩; rw [hb])
      go_ret3
      exact ⟨rfl, Below.refl _ _⟩
  · rw [getN_arg l p s (by omega)]
    have hb : (decide (1 ≤ s) && decide (s ≤ 6)) = false := by
      rw [Bool.and_eq_false_iff]; simp; omega
    clear hp h
    go_enter Tryz.func77, Tryz.ntmps77
    go_wp2_with (go_at_call 101; refine (isSize_any _ _).mono ?_; rintro e w' ⟨rfl, rfl⟩; rw [hb])
    go_ret3
    exact ⟨rfl, Below.refl _ _⟩
end Go.Proofs.YtmiibakbcogolaaGreat
namespace Go.Proofs.YtmiibakbcogolaaGreat
open Go.RowKit Crcm

theorem Rd.later {w w' : World} {B : Nat} {p : Int} {P : Part} (h : Rd w B p P) (hb : Below w.heap.size w w') : Rd w' B p P := by
  unfold Rd at h ⊢
  rw [hb.block B ?_]
  · exact h
  · rcases Nat.lt_or_ge B w.heap.size with hlt | hge
    · exact hlt
    · rw [Array.getElem?_eq_none hge] at h; cases h
set_option maxHeartbeats 1000000 in
theorem head_yes (w0 : World) (B p : Nat) (P : Part) (w : World) (ok : P.ok w0) (bel : Below w0.heap.size w0 w) (hB : w0.heap.size ≤ B) (hr : Rd w B p P) (h : p + 5 ≤ P.len) (hn : sizeAt P.l p ≤ 65536) (hc : P.len ≤ P.cap) (hm : P.len ≤ 1000000000000000) :
    Calls Tryz.prog 136 #[.pointer (some ⟨B, 0, none⟩)] w fun e w' => e = .returned (.tuple #[.int .i64 (kindAt P.l p : Nat), .int .i64 (sizeAt P.l p : Nat), .int .i64 0]) ∧ Rd w' B ((p + 5 : Nat) : Int) P ∧ Below w0.heap.size w0 w' := by
  have HO : Hid (P.ok w0) := ok
  have HR : Hid (Rd w B p P) := hr
  clear ok hr
  go_enter Tryz.func136, Tryz.ntmps136
  go_wp2_with fail
  refine (number_at w0 B p 1 P _ rfl HO.out bel hB HR.out (by omega) (by omega) (by omega) hc hm).mono ?_
  rintro e w1 ⟨rfl, hr1, b1⟩
  have HR1 : Hid (Rd w1 B ((p + 1 : Nat) : Int) P) := hr1
  clear hr1 HR bel
  go_wp2_with fail
  refine (number_at w0 B (p + 1) 4 P _ rfl HO.out b1 hB HR1.out (by omega) (by omega) (by omega) hc hm).mono ?_
  rintro e w2 ⟨rfl, hr2, b2⟩
  have HR2 : Hid (Rd w2 B ((p + 5 : Nat) : Int) P) := hr2
  clear hr2 HR1 b1
  rw [show valN ((P.l.drop (p + 1)).take 4) = sizeAt P.l p from rfl, show valN ((P.l.drop p).take 1) = kindAt P.l p from rfl]
  go_wp2
  go_ret3
  exact ⟨rfl, HR2, b2⟩
set_option maxHeartbeats 1000000 in
theorem head_form (w0 : World) (B p : Nat) (P : Part) (w : World) (ok : P.ok w0) (bel : Below w0.heap.size w0 w) (hB : w0.heap.size ≤ B) (hr : Rd w B p P) (h : p + 5 ≤ P.len) (hn : 65536 < sizeAt P.l p) (hc : P.len ≤ P.cap) (hm : P.len ≤ 1000000000000000) :
    Calls Tryz.prog 136 #[.pointer (some ⟨B, 0, none⟩)] w fun e w' => e = .returned (.tuple #[.int .i64 0, .int .i64 0, .int .i64 22]) ∧ Below w0.heap.size w0 w' := by
  have HO : Hid (P.ok w0) := ok
  have HR : Hid (Rd w B p P) := hr
  clear ok hr
  go_enter Tryz.func136, Tryz.ntmps136
  go_wp2_with fail
  refine (number_at w0 B p 1 P _ rfl HO.out bel hB HR.out (by omega) (by omega) (by omega) hc hm).mono ?_
  rintro e w1 ⟨rfl, hr1, b1⟩
  have HR1 : Hid (Rd w1 B ((p + 1 : Nat) : Int) P) := hr1
  clear hr1 HR bel
  go_wp2_with fail
  refine (number_at w0 B (p + 1) 4 P _ rfl HO.out b1 hB HR1.out (by omega) (by omega) (by omega) hc hm).mono ?_
  rintro e w2 ⟨rfl, hr2, b2⟩
  clear hr2 HR1 b1
  rw [show valN ((P.l.drop (p + 1)).take 4) = sizeAt P.l p from rfl]
  go_wp2
  go_ret3
  exact ⟨rfl, b2⟩
set_option maxHeartbeats 1000000 in
theorem head_end (w0 : World) (B p : Nat) (P : Part) (w : World) (ok : P.ok w0) (bel : Below w0.heap.size w0 w) (hB : w0.heap.size ≤ B) (hr : Rd w B p P) (h : ¬ p + 5 ≤ P.len) (hp : p ≤ 9223372036854775807) (hc : P.len ≤ P.cap) (hm : P.len ≤ 1000000000000000) :
    Calls Tryz.prog 136 #[.pointer (some ⟨B, 0, none⟩)] w fun e w' => e = .returned (.tuple #[.int .i64 0, .int .i64 0, .int .i64 20]) ∧ Below w0.heap.size w0 w' := by
  have HO : Hid (P.ok w0) := ok
  have HR : Hid (Rd w B p P) := hr
  clear ok hr
  by_cases h1 : p + 1 ≤ P.len
  · go_enter Tryz.func136, Tryz.ntmps136
    go_wp2_with fail
    refine (number_at w0 B p 1 P _ rfl HO.out bel hB HR.out (by omega) (by omega) (by omega) hc hm).mono ?_
    rintro e w1 ⟨rfl, hr1, b1⟩
    have HR1 : Hid (Rd w1 B ((p + 1 : Nat) : Int) P) := hr1
    clear hr1 HR bel
    go_wp2_with fail
    refine (number_not w0 B (p + 1) 4 P _ rfl b1 HR1.out (by omega) (by omega) hm).mono ?_
    rintro e w2 ⟨rfl, hr2, b2⟩
    clear hr2 HR1 b1
    go_wp2
    go_ret3
    exact ⟨rfl, b2⟩
  · go_enter Tryz.func136, Tryz.ntmps136
    go_wp2_with fail
    refine (number_not w0 B p 1 P _ rfl bel HR.out h1 hp hm).mono ?_
    rintro e w1 ⟨rfl, hr1, b1⟩
    clear hr1 HR bel
    go_wp2
    go_ret3
    exact ⟨rfl, b1⟩
set_option maxHeartbeats 2000000 in
theorem rframe_full (w0 : World) (B p : Nat) (P : Part) (w : World) (ok : P.ok w0) (bel : Below w0.heap.size w0 w) (hB : w0.heap.size ≤ B) (hr : Rd w B p P) (hn : sizeAt P.l p ≤ 65536) (h : p + 9 + sizeAt P.l p ≤ P.len) (hc : P.len ≤ P.cap) (hm : P.len ≤ 1000000000000000) :
    Calls Tryz.prog 102 #[.pointer (some ⟨B, 0, none⟩)] w fun e w' => Below w0.heap.size w0 w' ∧
      (sumAt P.l p = crc (toldAt P.l p) → ∃ v, e = .returned (.tuple #[.int .i64 (kindAt P.l p : Nat), v, .int .i64 0]) ∧ Own w' w0.heap.size v (bodyAt P.l p) ∧ Rd w' B ((p + 9 + sizeAt P.l p : Nat) : Int) P) ∧
      (sumAt P.l p ≠ crc (toldAt P.l p) → e = .returned (.tuple #[.int .i64 0, .slice none 0 0, .int .i64 21])) := by
  have c0 := hr.c0
  have HO : Hid (P.ok w0) := ok
  have HR : Hid (Rd w B p P) := hr
  clear ok hr
  go_enter Tryz.func102, Tryz.ntmps102
  go_wp2_with fail
  refine (head_yes w0 B p P _ HO.out bel hB HR.out (by omega) hn hc hm).mono ?_
  rintro e w1 ⟨rfl, hr1, b1⟩
  have HR1 : Hid (Rd w1 B ((p + 5 : Nat) : Int) P) := hr1
  clear hr1 HR bel c0
  go_wp2_with fail
  refine (take_yes w0 B (p + 5) (sizeAt P.l p) P _ HO.out b1 hB HR1.out (by omega) hc hm).mono ?_
  rintro e w2 ⟨Q, rfl, HQ, hr2, b2⟩
  have c0 := hr2.c0
  have c1 := hr2.c1
  have HR2 : Hid (Rd w2 B ((p + 5 + sizeAt P.l p : Nat) : Int) P) := hr2
  clear hr2 HR1 b1
  have hne : ¬ P.cap = p := by omega
  go_wp2_with fail
  go_quiet (fail)
  go_wp2_with fail
  refine (number_at w0 B (p + 5 + sizeAt P.l p) 4 P _ rfl HO.out (below_drewN' b2 nq) hB (HR2.out.drewN nq) (by omega) (by omega) (by omega) hc hm).mono ?_
  rintro e w3 ⟨rfl, hr3, b3⟩
  have HR3 : Hid (Rd w3 B ((p + 9 + sizeAt P.l p : Nat) : Int) P) := by
    have h := hr3
    rw [show p + 5 + sizeAt P.l p + 4 = p + 9 + sizeAt P.l p by omega] at h
    exact h
  clear hr3 HR2 b2 c0 c1
  rw [show valN ((P.l.drop (p + 5 + sizeAt P.l p)).take 4) = sumAt P.l p from rfl]
  have ht : (toldAt P.l p).length = p + 5 + sizeAt P.l p - p := by
    rw [toldAt, drop_take_length _ _ _ (by rw [HO.out.1]; omega)]; omega
  have kr : Hid (Row w3 (P.ad.map (fun x => x.add p)) (toldAt P.l p)) := by
    have hk := (cutP_ok (HO.out.later b3) p (5 + sizeAt P.l p) (by omega) hc).2.2
    rw [cutP_l] at hk
    unfold cutP at hk
    rw [if_neg hne] at hk
    exact hk
  have HT : Hid ((toldAt P.l p).length = p + 5 + sizeAt P.l p - p) := ht
  clear ht
  go_wp2_with fail
  refine (crc_any _ _ (P.cap - p) (toldAt P.l p) _ HT.out (by unfold maxLen; omega) kr.out).mono ?_
  rintro e w4 ⟨rfl, b4⟩
  have hc4 := crc_lt (toldAt P.l p)
  have b34 : Below w0.heap.size w0 w4 := b3.trans (b4.mono b3.size)
  clear kr HT
  have HR4 : Hid (Rd w4 B ((p + 9 + sizeAt P.l p : Nat) : Int) P) := HR3.out.later b4
  clear HR3 b3 b4
  by_cases hs : sumAt P.l p = crc (toldAt P.l p)
  · have hq : (((sumAt P.l p : Nat) : Int) != ((crc (toldAt P.l p) : Nat) : Int)) = false := by rw [hs]; simp
    have HS : Hid (sumAt P.l p = crc (toldAt P.l p)) := hs
    clear hs
    go_wp2_with fail
    have E : Hid (allN [Q] 1 = bodyAt P.l p) := by
      show _ = _
      simp [allN, HQ.out.2.1, bodyAt]
    refine (join_at [Q] w4 #[.slice Q.ad (sizeAt P.l p) Q.cap] (by rw [← HQ.out.1]; rfl) 1 1 rfl (by
      intro q hq
      simp at hq
      subst hq
      exact HQ.out.2.2.1.later b34) (by rw [E.out, bodyAt, List.length_take]; omega) (by omega)).mono ?_
    rintro e w5 ⟨p5, rfl, -, own5, -, b5⟩
    have own6 : Hid (Own w5 w0.heap.size (.slice p5.ad p5.len p5.cap) (bodyAt P.l p)) := by
      have h := own5.out
      rw [E.out] at h
      exact h.down b34.size
    have HR5 : Hid (Rd w5 B ((p + 9 + sizeAt P.l p : Nat) : Int) P) := HR4.out.later b5
    have b05 : Below w0.heap.size w0 w5 := b34.trans (b5.mono b34.size)
    clear own5 E HR4 b34 b5
    go_wp2
    go_ret3
    exact ⟨b05, fun _ => ⟨_, rfl, own6, HR5⟩, fun h => absurd HS.out h⟩
  · have hq : (((sumAt P.l p : Nat) : Int) != ((crc (toldAt P.l p) : Nat) : Int)) = true := by rw [bne_iff_ne]; omega
    have HS : Hid (¬ sumAt P.l p = crc (toldAt P.l p)) := hs
    clear hs
    go_wp2
    go_ret3
    exact ⟨b34, fun h => absurd h HS.out, fun _ => rfl⟩
set_option maxHeartbeats 2000000 in
theorem rframe_end (w0 : World) (B p : Nat) (P : Part) (w : World) (ok : P.ok w0) (bel : Below w0.heap.size w0 w) (hB : w0.heap.size ≤ B) (hr : Rd w B p P) (h5 : p + 5 ≤ P.len) (hn : sizeAt P.l p ≤ 65536) (h : ¬ p + 9 + sizeAt P.l p ≤ P.len) (hc : P.len ≤ P.cap) (hm : P.len ≤ 1000000000000000) :
    Calls Tryz.prog 102 #[.pointer (some ⟨B, 0, none⟩)] w fun e w' => e = .returned (.tuple #[.int .i64 0, .slice none 0 0, .int .i64 20]) ∧ Below w0.heap.size w0 w' := by
  have c0 := hr.c0
  have HO : Hid (P.ok w0) := ok
  have HR : Hid (Rd w B p P) := hr
  clear ok hr
  by_cases h2 : p + 5 + sizeAt P.l p ≤ P.len
  · go_enter Tryz.func102, Tryz.ntmps102
    go_wp2_with fail
    refine (head_yes w0 B p P _ HO.out bel hB HR.out h5 hn hc hm).mono ?_
    rintro e w1 ⟨rfl, hr1, b1⟩
    have HR1 : Hid (Rd w1 B ((p + 5 : Nat) : Int) P) := hr1
    clear hr1 HR bel c0
    go_wp2_with fail
    refine (take_yes w0 B (p + 5) (sizeAt P.l p) P _ HO.out b1 hB HR1.out h2 hc hm).mono ?_
    rintro e w2 ⟨Q, rfl, HQ, hr2, b2⟩
    have c0 := hr2.c0
    have c1 := hr2.c1
    have HR2 : Hid (Rd w2 B ((p + 5 + sizeAt P.l p : Nat) : Int) P) := hr2
    clear hr2 HR1 b1
    have hne : ¬ P.cap = p := by omega
    go_wp2_with fail
    go_quiet (fail)
    go_wp2_with fail
    refine (number_not w0 B (p + 5 + sizeAt P.l p) 4 P _ rfl (below_drewN' b2 nq) (HR2.out.drewN nq) (by omega) (by omega) hm).mono ?_
    rintro e w3 ⟨rfl, hr3, b3⟩
    clear hr3 HR2 b2 c0 c1
    go_wp2
    go_ret3
    exact ⟨rfl, b3⟩
  · go_enter Tryz.func102, Tryz.ntmps102
    go_wp2_with fail
    refine (head_yes w0 B p P _ HO.out bel hB HR.out h5 hn hc hm).mono ?_
    rintro e w1 ⟨rfl, hr1, b1⟩
    have HR1 : Hid (Rd w1 B ((p + 5 : Nat) : Int) P) := hr1
    clear hr1 HR bel c0
    go_wp2_with fail
    refine (take_no w0 B (p + 5) (sizeAt P.l p) P _ b1 HR1.out h2 (by omega) hm).mono ?_
    rintro e w2 ⟨rfl, hr2, b2⟩
    clear hr2 HR1 b1
    go_wp2
    go_ret3
    exact ⟨rfl, b2⟩
set_option maxHeartbeats 2000000 in
theorem rframe_form (w0 : World) (B p : Nat) (P : Part) (w : World) (ok : P.ok w0) (bel : Below w0.heap.size w0 w) (hB : w0.heap.size ≤ B) (hr : Rd w B p P) (h5 : p + 5 ≤ P.len) (hn : 65536 < sizeAt P.l p) (hc : P.len ≤ P.cap) (hm : P.len ≤ 1000000000000000) :
    Calls Tryz.prog 102 #[.pointer (some ⟨B, 0, none⟩)] w fun e w' => e = .returned (.tuple #[.int .i64 0, .slice none 0 0, .int .i64 22]) ∧ Below w0.heap.size w0 w' := by
  have c0 := hr.c0
  have HO : Hid (P.ok w0) := ok
  have HR : Hid (Rd w B p P) := hr
  clear ok hr
  go_enter Tryz.func102, Tryz.ntmps102
  go_wp2_with fail
  refine (head_form w0 B p P _ HO.out bel hB HR.out h5 hn hc hm).mono ?_
  rintro e w1 ⟨rfl, b1⟩
  clear HR bel c0
  go_wp2
  go_ret3
  exact ⟨rfl, b1⟩
set_option maxHeartbeats 2000000 in
theorem rframe_short (w0 : World) (B p : Nat) (P : Part) (w : World) (ok : P.ok w0) (bel : Below w0.heap.size w0 w) (hB : w0.heap.size ≤ B) (hr : Rd w B p P) (h5 : ¬ p + 5 ≤ P.len) (hp : p ≤ 9223372036854775807) (hc : P.len ≤ P.cap) (hm : P.len ≤ 1000000000000000) :
    Calls Tryz.prog 102 #[.pointer (some ⟨B, 0, none⟩)] w fun e w' => e = .returned (.tuple #[.int .i64 0, .slice none 0 0, .int .i64 20]) ∧ Below w0.heap.size w0 w' := by
  have c0 := hr.c0
  have HO : Hid (P.ok w0) := ok
  have HR : Hid (Rd w B p P) := hr
  clear ok hr
  go_enter Tryz.func102, Tryz.ntmps102
  go_wp2_with fail
  refine (head_end w0 B p P _ HO.out bel hB HR.out h5 hp hc hm).mono ?_
  rintro e w1 ⟨rfl, b1⟩
  clear HR bel c0
  go_wp2
  go_ret3
  exact ⟨rfl, b1⟩
/-- What frame answers where it answers an error. -/
theorem rframe_err (w0 : World) (B p : Nat) (P : Part) (w : World) (ok : P.ok w0) (bel : Below w0.heap.size w0 w) (hB : w0.heap.size ≤ B) (hr : Rd w B p P) (he : unframeE P.l p ≠ 0) (hp : p ≤ 9223372036854775807) (hc : P.len ≤ P.cap) (hm : P.len ≤ 1000000000000000) :
    Calls Tryz.prog 102 #[.pointer (some ⟨B, 0, none⟩)] w fun e w' => e = .returned (.tuple #[.int .i64 0, .slice none 0 0, .int .i64 (unframeE P.l p)]) ∧ Below w0.heap.size w0 w' := by
  have hl := ok.1
  unfold unframeE at he ⊢
  by_cases h1 : P.l.length < p + 5
  · rw [if_pos h1]
    exact rframe_short w0 B p P w ok bel hB hr (by omega) hp hc hm
  · rw [if_neg h1] at he ⊢
    by_cases h2 : 65536 < sizeAt P.l p
    · rw [if_pos h2]
      exact rframe_form w0 B p P w ok bel hB hr (by omega) h2 hc hm
    · rw [if_neg h2] at he ⊢
      by_cases h3 : P.l.length < p + 9 + sizeAt P.l p
      · rw [if_pos h3]
        exact rframe_end w0 B p P w ok bel hB hr (by omega) (by omega) (by omega) hc hm
      · rw [if_neg h3] at he ⊢
        by_cases h4 : sumAt P.l p = crc (toldAt P.l p)
        · rw [if_pos h4] at he; omega
        · rw [if_neg h4]
          refine (rframe_full w0 B p P w ok bel hB hr (by omega) (by omega) hc hm).mono ?_
          rintro e w' ⟨b, -, h⟩
          exact ⟨h h4, b⟩
set_option maxHeartbeats 2000000 in
theorem unframe_in (ad : Option Addr) (len cap : Nat) (l : List Nat) (p : Nat) (w : World) (hp : Part.ok w ⟨ad, len, cap, l⟩) (hlc : len ≤ cap) (hm : len ≤ 1000000000000000) (hp2 : p ≤ 9223372036854775807) :
    Calls Tryz.prog 76 #[.slice ad len cap, .int .i64 p] w fun e w' => ∃ v, e = .returned (.tuple #[.int .i64 (unframeN l p).1, v, .int .i64 (unframeN l p).2.2.1, .int .i64 (unframeN l p).2.2.2]) ∧ Own w' w.heap.size v (unframeN l p).2.1 ∧ Below w.heap.size w w' := by
  have HL : Hid (l.length = len) := hp.1
  have HP : Hid (Part.ok w ⟨ad, len, cap, l⟩) := hp
  clear hp
  have b0 : Below w.heap.size w (w.alloc (.cells #[.int .i64 (p : Int), .slice ad len cap] 166)) := (Below.refl _ _).alloc (Nat.le_refl _) _
  have r0 : Hid (Rd (w.alloc (.cells #[.int .i64 (p : Int), .slice ad len cap] 166)) w.heap.size p ⟨ad, len, cap, l⟩) := Rd.new w p ⟨ad, len, cap, l⟩
  by_cases he : unframeE l p = 0
  · rw [unframeN_ok l p he]
    obtain ⟨z1, z2, z3⟩ := unframeE_zero he
    have Z1 : Hid (sizeAt l p ≤ 65536) := z1
    have Z2 : Hid (p + 9 + sizeAt l p ≤ l.length) := z2
    have Z3 : Hid (sumAt l p = crc (toldAt l p)) := z3
    clear z1 z2 z3 he
    go_enter Tryz.func76, Tryz.ntmps76
    go_wp2_with fail
    refine (rframe_full w w.heap.size p ⟨ad, len, cap, l⟩ _ HP.out b0 (Nat.le_refl _) r0.out Z1.out (by show _ ≤ len; rw [← HL.out]; exact Z2.out) hlc hm).mono ?_
    rintro e w1 ⟨b1, h1, -⟩
    obtain ⟨v, rfl, own1, hr1⟩ := h1 Z3.out
    have c1 := hr1.c0
    have O1 : Hid (Own w1 w.heap.size v (bodyAt l p)) := own1
    simp only at c1 ⊢
    clear hr1 own1 h1
    go_wp2_with fail
    go_quiet (fail)
    go_wp2
    ((try simp only [Exit.inBlock, Exit.then]); refine bodyPost_ret (results_tmp4 rfl _ _ _) rfl ?_)
    exact ⟨_, rfl, O1.out.later (below_drewN' (Below.refl _ _) _), below_drewN' b1 _⟩
  · rw [unframeN_err l p he]
    have hb : (unframeE l p != 0) = true := by rw [bne_iff_ne]; exact he
    have HE : Hid (unframeE l p ≠ 0) := he
    clear he
    go_enter Tryz.func76, Tryz.ntmps76
    go_wp2_with fail
    refine (rframe_err w w.heap.size p ⟨ad, len, cap, l⟩ _ HP.out b0 (Nat.le_refl _) r0.out HE.out hp2 hlc hm).mono ?_
    rintro e w1 ⟨rfl, b1⟩
    simp only
    go_wp2
    ((try simp only [Exit.inBlock, Exit.then]); refine bodyPost_ret (results_tmp4 rfl _ _ _) rfl ?_)
    exact ⟨_, rfl, Own.nil _ _, b1⟩
theorem unframe_any (ad : Option Addr) (len cap : Nat) (l : List Nat) (p : Int) (w : World) (hp : Part.ok w ⟨ad, len, cap, l⟩) (hlc : len ≤ cap) (hm : len ≤ 1000000000000000) (hp2 : p ≤ 9223372036854775807) :
    Calls Tryz.prog 76 #[.slice ad len cap, .int .i64 p] w fun e w' => ∃ v, e = .returned (.tuple #[.int .i64 (unframeN l p).1, v, .int .i64 (unframeN l p).2.2.1, .int .i64 (unframeN l p).2.2.2]) ∧ Own w' w.heap.size v (unframeN l p).2.1 ∧ Below w.heap.size w w' := by
  by_cases h0 : 0 ≤ p
  · obtain ⟨q, rfl⟩ := Int.eq_ofNat_of_zero_le h0
    exact unframe_in ad len cap l q w hp hlc hm (by omega)
  · rw [unframeN_arg l p h0]
    clear hp
    have h1 : p < 0 := by omega
    go_enter Tryz.func76, Tryz.ntmps76
    go_wp2
    ((try simp only [Exit.inBlock, Exit.then]); refine bodyPost_ret (results_tmp4 rfl _ _ _) rfl ?_)
    exact ⟨_, rfl, Own.nil _ _, Below.refl _ _⟩
end Go.Proofs.YtmiibakbcogolaaGreat
