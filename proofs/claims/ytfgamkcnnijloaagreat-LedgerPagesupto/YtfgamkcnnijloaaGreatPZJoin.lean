/- What the Go functions isSize and spell answer: a number's bytes, the lowest first, in new memory. What the Go function wire.Put answers. What the Go function join answers: all parts' bytes, one part behind the other, in new memory. The contracts of spell and join in the form in which a walk meets them. What the Go function wire.Text answers. What the Go function wire.Frame answers. -/
import Derived.Test.YtfgamkcnnijloaaGreatPZMath
import Derived.Test.YtfgamkcnnijloaaGreatPZSum
namespace Go.Proofs.YtfgamkcnnijloaaGreat
open Go.RowKit

theorem isSize_any (size : Int) (w : World) : Calls Tryz.prog 86 #[.int .i64 size] w fun e w' => e = .returned (.bool (decide (1 ≤ size) && decide (size ≤ 6))) ∧ w' = w := by
  by_cases h1 : 1 ≤ size
  · by_cases h2 : size ≤ 6
    · go_enter Tryz.func86, Tryz.ntmps86
      go_wp2
      go_ret
      exact ⟨by simp [h1, h2], rfl⟩
    · go_enter Tryz.func86, Tryz.ntmps86
      go_wp2
      go_ret
      exact ⟨by simp [h2], rfl⟩
  · go_enter Tryz.func86, Tryz.ntmps86
    go_wp2
    go_ret
    exact ⟨by rw [decide_eq_false (by omega : ¬ 1 ≤ size)]; rfl, rfl⟩
/-- What spell has laid behind k rounds. -/
def laidN (n size k : Nat) : List Value := (spellN n k).map bv ++ List.replicate (size - k) (.int .u8 0)
theorem laidN_zero (n size : Nat) : laidN n size 0 = List.replicate size (.int .u8 0) := by simp [laidN, spellN]
theorem laidN_full (n size : Nat) : laidN n size size = (spellN n size).map bv := by simp [laidN]
theorem laidN_at (n size k : Nat) (h : k < size) : (laidN n size k)[k]? = some (.int .u8 0) := by
  unfold laidN
  rw [List.getElem?_append_right (by simp [spellN_length])]
  rw [List.length_map, spellN_length, Nat.sub_self, List.getElem?_replicate, if_pos (by omega)]
theorem laidN_set (n size k : Nat) (h : k < size) : (laidN n size k).set k (bv (n / 2 ^ (8 * k) % 256)) = laidN n size (k + 1) := by
  unfold laidN
  rw [List.set_append_right _ _ (by simp [spellN_length])]
  rw [List.length_map, spellN_length, Nat.sub_self, show size - k = (size - (k + 1)) + 1 by omega, List.replicate_succ]
  simp [spellN]
set_option maxHeartbeats 400000 in
theorem spell_any (n size : Nat) (w : World) (h6 : size ≤ 6) :
    Calls Tryz.prog 63 #[.int .i64 n, .int .i64 size] w fun e w' => ∃ v, e = .returned v ∧ Own w' w.heap.size v (spellN n size) ∧ Below w.heap.size w w' := by
  obtain ⟨i0, hi, hz0, hz1, hz2⟩ := info_parts Tryz.info5
  go_enter Tryz.func63, Tryz.ntmps63
  go_wp2_with (at_make; refine wpList_make_full _ rfl _ _ 53 rfl w.heap.size 5 i0 (.int .u8 0) 1 Tryz.underlying53 hi hz0 hz1 _ _ _ _ size rfl rfl rfl rfl (by rw [hz2]; omega) (by unfold maxLen; omega) (Nat.le_refl _) ?_; intro w1 hown hgrow)
  have hb := (Below.refl w.heap.size w).grown hgrow (Nat.le_refl _) (by intro k hk; cases hk)
  have hown2 : w1.ownsRow w.heap.size 5 1 (.slice (some ⟨w.heap.size, 0, none⟩) size size) size (laidN n size 0) := by
    rw [laidN_zero]
    have e := toList_madeCells_one (.int .u8 0) (size * 1)
    simp only [Value.cells] at hown
    rw [e, Nat.mul_one] at hown
    exact hown
  clear hown hgrow
  go_loopw [11] (fun i wr => ∃ k : Nat, k ≤ size ∧ i = .int .i64 k ∧ wr.ownsRow w.heap.size 5 1 (.slice (some ⟨w.heap.size, 0, none⟩) size size) size (laidN n size k) ∧ Below w.heap.size w wr) (fun i _ => size - (intOf i).toNat)
  case atStart => exact ⟨0, Nat.zero_le _, rfl, hown2, hb⟩
  case round =>
    obtain ⟨k, hk, rfl, hownk, hbk⟩ := hrel
    clear hown2 hb
    by_cases hlt : k < size
    · have hck : wr.cell? ⟨w.heap.size, k, none⟩ = some (.int .u8 0) := by rw [hownk.cellAt k (by omega), laidN_at n size k hlt]
      have hfk := hownk.frozenAt k
      go_wp2
      have hst := hownk.stored k (bv (n / 2 ^ (8 * k) % 256))
      rw [laidN_set n size k hlt] at hst
      go_roundw
      case rel => exact ⟨k + 1, by omega, by go_num, by simpa [bv] using hst.1, hbk.setCell (Nat.le_refl _) _⟩
      case measure => simp [intOf]; omega
    · obtain rfl : k = size := by omega
      rw [laidN_full] at hownk
      go_wp2
      go_ret
      exact ⟨_, rfl, ⟨spellN_lt n k, by rw [spellN_length]; exact hownk⟩, hbk⟩
end Go.Proofs.YtfgamkcnnijloaaGreat
namespace Go.Proofs.YtfgamkcnnijloaaGreat
open Go.RowKit

theorem put_no (n size : Int) (w : World) (h : ¬ (1 ≤ size ∧ size ≤ 6)) :
    Calls Tryz.prog 58 #[.int .i64 n, .int .i64 size] w fun e w' => e = .returned (.tuple #[.slice none 0 0, .int .i64 1]) ∧ w' = w := by
  have hb : (decide (1 ≤ size) && decide (size ≤ 6)) = false := by
    rw [Bool.and_eq_false_iff]; simp; omega
  go_enter Tryz.func58, Tryz.ntmps58
  go_wp2_with (go_at_call 86; refine (isSize_any _ _).mono ?_; rintro e w' ⟨rfl, rfl⟩; rw [hb])
  go_ret2
  exact ⟨rfl, rfl⟩
set_option maxHeartbeats 400000 in
theorem put_size (n : Int) (size : Nat) (w : World) (h1 : 1 ≤ size) (h6 : size ≤ 6) :
    Calls Tryz.prog 58 #[.int .i64 n, .int .i64 size] w fun e w' => ∃ v, e = .returned (.tuple #[v, .int .i64 (putN n size).1]) ∧ Own w' w.heap.size v (putN n size).2 ∧ Below w.heap.size w w' := by
  have hb : (decide (1 ≤ (size : Int)) && decide ((size : Int) ≤ 6)) = true := by simp; omega
  obtain ⟨p, ep, hp, HP⟩ := pow_size size h6
  by_cases hn : 0 ≤ n
  · obtain ⟨n, rfl⟩ := Int.eq_ofNat_of_zero_le hn
    by_cases hlt : n < p
    · rw [putN_ok n size h1 h6 (by omega)]
      clear HP
      go_enter Tryz.func58, Tryz.ntmps58
      go_wp2_with (first | (go_at_call 86; refine (isSize_any _ _).mono ?_; rintro e w' ⟨rfl, rfl⟩; rw [hb]) | (go_at_call 63; refine (spell_any _ _ _ h6).mono ?_; rintro e w1 ⟨v, rfl, hown, hbel⟩))
      go_ret2
      exact ⟨_, rfl, hown, hbel⟩
    · rw [putN_range n size h1 h6 (by
        have e : ((2 ^ (8 * size) : Nat) : Int) = (2 : Int) ^ (8 * size) := by rw [Int.natCast_pow]; rfl
        rw [← e]; omega)]
      clear HP
      go_enter Tryz.func58, Tryz.ntmps58
      go_wp2_with (first | (go_at_call 86; refine (isSize_any _ _).mono ?_; rintro e w' ⟨rfl, rfl⟩; rw [hb]))
      go_ret2
      exact ⟨_, rfl, Own.nil _ _, Below.refl _ _⟩
  · rw [putN_range n size h1 h6 (by omega)]
    clear HP
    go_enter Tryz.func58, Tryz.ntmps58
    go_wp2_with (first | (go_at_call 86; refine (isSize_any _ _).mono ?_; rintro e w' ⟨rfl, rfl⟩; rw [hb]))
    go_ret2
    exact ⟨_, rfl, Own.nil _ _, Below.refl _ _⟩
theorem put_any (n size : Int) (w : World) :
    Calls Tryz.prog 58 #[.int .i64 n, .int .i64 size] w fun e w' => ∃ v, e = .returned (.tuple #[v, .int .i64 (putN n size).1]) ∧ Own w' w.heap.size v (putN n size).2 ∧ Below w.heap.size w w' := by
  by_cases h : 1 ≤ size ∧ size ≤ 6
  · obtain ⟨k, rfl⟩ := Int.eq_ofNat_of_zero_le (show 0 ≤ size by omega)
    exact put_size n k w (by omega) (by omega)
  · refine (put_no n size w h).mono ?_
    rintro e w' ⟨rfl, rfl⟩
    rw [putN_no n size h]
    exact ⟨_, rfl, Own.nil _ _, Below.refl _ _⟩
end Go.Proofs.YtfgamkcnnijloaaGreat
namespace Go.Proofs.YtfgamkcnnijloaaGreat
open Go.RowKit

set_option maxHeartbeats 400000 in
theorem join_any (g m c : Nat) (ps : List Part) (w : World) (hm : ps.length = m) (hg : g < w.heap.size) (hcell : ∀ (i : Nat) (p : Part), ps[i]? = some p → w.cell? ⟨g, i, none⟩ = some (.slice p.ad p.len p.cap))
    (hok : ∀ (i : Nat) (p : Part), ps[i]? = some p → p.ok w) (htot : (allN ps m).length ≤ 1000000) (hmm : m ≤ 1000) :
    Calls Tryz.prog 62 #[.slice (some ⟨g, 0, none⟩) m c] w fun e w' => ∃ v, e = .returned v ∧ Own w' w.heap.size v (allN ps m) ∧ Below w.heap.size w w' := by
  have HC : Hid (∀ (i : Nat) (p : Part), ps[i]? = some p → w.cell? ⟨g, i, none⟩ = some (.slice p.ad p.len p.cap)) := hcell
  have HO : Hid (∀ (i : Nat) (p : Part), ps[i]? = some p → p.ok w) := hok
  clear hcell hok
  obtain ⟨i0, hi, hz0, hz1, hz2⟩ := info_parts Tryz.info5
  go_enter Tryz.func62, Tryz.ntmps62
  go_wp2
  go_loop [3, 11] (fun s i => ∃ k : Nat, k ≤ m ∧ i = .int .i64 k ∧ s = .int .i64 ((allN ps k).length : Nat)) (fun _ i => m - (intOf i).toNat)
  case atStart => exact ⟨0, Nat.zero_le _, rfl, rfl⟩
  case round =>
    obtain ⟨k, hk, rfl, rfl⟩ := hrel
    have hle := allN_le ps k
    rw [hm] at hle
    by_cases hlt : k < m
    · obtain ⟨p, hp⟩ : ∃ p, ps[k]? = some p := ⟨_, List.getElem?_eq_getElem (by omega)⟩
      have hck := HC.out k p hp
      have hpl := (HO.out k p hp).1
      have HS : Hid ((allN ps (k + 1)).length = (allN ps k).length + p.len) := by show _ = _; rw [allN_succ ps k p hp, List.length_append, hpl]
      have hle2 := allN_le ps (k + 1)
      rw [hm] at hle2
      have hb2 : (allN ps k).length + p.len ≤ 1000000 := by have := HS.out; omega
      obtain ⟨pad, plen, pcap, pl⟩ := p
      simp only at hck hpl HS hb2
      clear hp hle2
      generalize (allN ps k).length = q at *
      go_wp2
      go_round
      case rel => exact ⟨k + 1, by omega, by go_num, by rw [HS.out]; go_num⟩
      case measure => simp [intOf]; omega
    · obtain rfl : k = m := by omega
      generalize hq : (allN ps k).length = q at *
      have HQ : Hid ((allN ps k).length = q) := hq
      clear hq
      go_wp2_with (at_make; refine wpList_make_own _ rfl _ _ 53 rfl w.heap.size 5 i0 (.int .u8 0) 1 Tryz.underlying53 hi hz0 hz1 _ _ _ q rfl rfl rfl (by rw [hz2]; omega) (by unfold maxLen; omega) (Nat.le_refl _) ?_; intro w1 hown hgrow)
      have hb := (Below.refl w.heap.size w).grown hgrow (Nat.le_refl _) (by intro k hk; cases hk)
      clear hgrow
      go_loopw [6, 24] (fun v i wr => ∃ j n : Nat, j ≤ k ∧ i = .int .i64 j ∧ v = .slice (some ⟨w.heap.size, 0, none⟩) n q ∧ Hid ((allN ps j).length = n) ∧ n ≤ q ∧ wr.ownsRow w.heap.size 5 1 (.slice (some ⟨w.heap.size, 0, none⟩) n q) n ((allN ps j).map bv) ∧ Below w.heap.size w wr) (fun _ i _ => k - (intOf i).toNat)
      case atStart => exact ⟨0, 0, Nat.zero_le _, rfl, rfl, rfl, Nat.zero_le _, hown, hb⟩
      case round =>
        obtain ⟨j, n, hj, rfl, rfl, HN, hnq, hownj, hbj⟩ := hrel
        clear hown hb
        by_cases hjl : j < k
        · obtain ⟨p, hp⟩ : ∃ p, ps[j]? = some p := ⟨_, List.getElem?_eq_getElem (by omega)⟩
          have hck : wr.cell? ⟨g, j, none⟩ = some (.slice p.ad p.len p.cap) := by rw [hbj.cell (p := ⟨g, j, none⟩) hg]; exact HC.out j p hp
          have hpo := (HO.out j p hp).later hbj
          have HS : Hid ((allN ps (j + 1)).length = n + p.len) := by show _ = _; rw [allN_succ ps j p hp, List.length_append, hpo.1, HN.out]
          have HA : Hid (allN ps (j + 1) = allN ps j ++ p.l) := allN_succ ps j p hp
          have hle2 := allN_le ps (j + 1)
          rw [hm] at hle2
          have hb2 : n + p.len ≤ q := by have := HS.out; have := HQ.out; omega
          obtain ⟨pad, plen, pcap, pl⟩ := p
          simp only at hck HS hb2 HA
          obtain ⟨hp1, hp2, hp3⟩ := hpo
          simp only at hp1 hp2 hp3
          clear hp hle2
          have hsz := hbj.size
          go_wp2_with (at_builtin; refine wpList_append_fits_any _ rfl _ _ 53 rfl w.heap.size 5 i0 1 Tryz.underlying53 hi hz1 w.heap.size n q _ rfl hownj pad plen pcap (pl.map bv) rfl (by simp [hp1]) hp2 (row_cells hp3) (bv_one pl) hb2 ?_; intro w2 hown2 hgrow2)
          have hb3 := hbj.grown hgrow2 hsz (by intro x hx; simp at hx; omega)
          rw [← List.map_append, ← HA.out] at hown2
          clear hgrow2 hownj
          go_roundw
          case rel => exact ⟨j + 1, n + plen, by omega, by go_num, rfl, HS, hb2, hown2, hb3⟩
          case measure => simp [intOf]; omega
        · obtain rfl : j = k := by omega
          go_wp2
          go_ret
          exact ⟨_, rfl, ⟨allN_lt w ps HO.out j, by rw [HN.out]; exact hownj⟩, hbj⟩
end Go.Proofs.YtfgamkcnnijloaaGreat
namespace Go.Proofs.YtfgamkcnnijloaaGreat
open Go.RowKit

theorem spell_at {z s : Int} (n size : Nat) (w : World) (hz : z = n) (hs : s = size) (h6 : size ≤ 6) :
    Calls Tryz.prog 63 #[.int .i64 z, .int .i64 s] w fun e w' => ∃ p : Part, e = .returned (.slice p.ad p.len p.cap) ∧ Hid (p.l = spellN n size) ∧ Hid (p.ok w') ∧ Below w.heap.size w w' := by
  subst hz hs
  refine (spell_any n size w h6).mono ?_
  rintro e w' ⟨v, rfl, hown, hb⟩
  obtain ⟨p, rfl, h1, h2⟩ := Part.of_own hown
  exact ⟨p, rfl, h1, h2, hb⟩
/-- A join of parts that lie in one new block. -/
theorem join_at (ps : List Part) (w0 : World) (cs : Array Value) (hcs : cs = (ps.map fun p => Value.slice p.ad p.len p.cap).toArray) (m c : Nat) (hm : ps.length = m) (hok : ∀ p ∈ ps, p.ok w0) (htot : (allN ps m).length ≤ 1000000) (hmm : m ≤ 1000) :
    Calls Tryz.prog 62 #[.slice (some ⟨w0.heap.size, 0, none⟩) m c] (w0.alloc (.cells cs 53)) fun e w' => ∃ p : Part, e = .returned (.slice p.ad p.len p.cap) ∧ Hid (p.l = allN ps m) ∧ Hid (Own w' w0.heap.size (.slice p.ad p.len p.cap) (allN ps m)) ∧ Hid (p.ok w') ∧ Below w0.heap.size w0 w' := by
  have hb0 : Below w0.heap.size w0 (w0.alloc (.cells cs 53)) := (Below.refl _ _).alloc (Nat.le_refl _) _
  refine (join_any w0.heap.size m c ps _ hm (by simp) ?_ ?_ htot hmm).mono ?_
  · intro i p hp
    subst hcs
    have hi : i < ps.length := (List.getElem?_eq_some_iff.1 hp).1
    simp [hp]
  · intro i p hp
    exact (hok p (List.mem_of_getElem? hp)).later hb0
  · rintro e w' ⟨v, rfl, hown, hb⟩
    obtain ⟨p, rfl, h1, h2⟩ := Part.of_own hown
    exact ⟨p, rfl, h1, hown.down (by simp), h2, hb0.trans (hb.mono (by simp))⟩
end Go.Proofs.YtfgamkcnnijloaaGreat
namespace Go.Proofs.YtfgamkcnnijloaaGreat
open Go.RowKit

set_option maxHeartbeats 1000000 in
theorem text_any (s : ByteArray) (w : World) (hs : s.size ≤ maxLen) :
    Calls Tryz.prog 117 #[.string s] w fun e w' => ∃ v, e = .returned (.tuple #[v, .int .i64 (textN s).1]) ∧ Own w' w.heap.size v (textN s).2 ∧ Below w.heap.size w w' := by
  unfold maxLen at hs
  by_cases h : s.size ≤ 65535
  · rw [textN_ok s h]
    go_enter Tryz.func117, Tryz.ntmps117
    go_wp2_with fail
    refine (spell_at s.size 2 _ rfl rfl (by omega)).mono ?_
    rintro e w1 ⟨p1, rfl, e1, ok1, b1⟩
    obtain ⟨Q, w2, hrun, HQ, b2⟩ := conv_string s w1
    go_wp2_with fail
    have E : Hid (allN [p1, Q] 2 = spellN s.size 2 ++ sbytes s) := by
      show _ = _
      simp [allN, e1.out, HQ.out.1]
    refine (join_at [p1, Q] w2 _ rfl 2 2 rfl (by
      intro p hp
      simp at hp
      rcases hp with rfl | rfl
      · exact ok1.out.later b2
      · exact HQ.out.2) (by rw [E.out, List.length_append, spellN_length, sbytes_length]; omega) (by omega)).mono ?_
    rintro e w3 ⟨p3, rfl, -, own3, -, b3⟩
    have b12 : Below w.heap.size w w2 := b1.trans (b2.mono b1.size)
    have own4 : Hid (Own w3 w.heap.size (.slice p3.ad p3.len p3.cap) (spellN s.size 2 ++ sbytes s)) := by
      have h := own3.out
      rw [E.out] at h
      exact h.down b12.size
    have b13 : Below w.heap.size w w3 := b12.trans (b3.mono b12.size)
    clear own3 E e1 ok1 HQ b1 b2 b3 b12 hrun
    go_wp2
    go_ret2
    exact ⟨_, rfl, own4, b13⟩
  · rw [textN_no s h]
    go_enter Tryz.func117, Tryz.ntmps117
    go_wp2
    go_ret2
    exact ⟨_, rfl, Own.nil _ _, Below.refl _ _⟩
end Go.Proofs.YtfgamkcnnijloaaGreat
namespace Go.Proofs.YtfgamkcnnijloaaGreat
open Go.RowKit Crcm

set_option maxHeartbeats 1000000 in
theorem frame_ok (kind : Nat) (ad : Option Addr) (len cap : Nat) (l : List Nat) (w : World) (hk : kind ≤ 255) (hl : len ≤ 65536) (hp : Part.ok w ⟨ad, len, cap, l⟩) :
    Calls Tryz.prog 37 #[.int .i64 kind, .slice ad len cap] w fun e w' => ∃ v, e = .returned (.tuple #[v, .int .i64 0]) ∧ Own w' w.heap.size v (frameBs kind l) ∧ Below w.heap.size w w' := by
  have HP : Hid (Part.ok w ⟨ad, len, cap, l⟩) := hp
  clear hp
  go_enter Tryz.func37, Tryz.ntmps37
  go_wp2_with fail
  refine (spell_at kind 1 _ rfl rfl (by omega)).mono ?_
  rintro e w1 ⟨p1, rfl, e1, ok1, b1⟩
  go_wp2_with fail
  refine (spell_at len 4 _ rfl rfl (by omega)).mono ?_
  rintro e w2 ⟨p2, rfl, e2, ok2, b2⟩
  go_wp2_with fail
  have b12 : Below w.heap.size w w2 := b1.trans (b2.mono b1.size)
  have E3 : Hid (allN [p1, p2, ⟨ad, len, cap, l⟩] 3 = toldN kind l) := by
    show _ = _
    simp [allN, e1.out, e2.out, toldN, HP.out.1]
  have hkl : Hid (l.length = len) := HP.out.1
  refine (join_at [p1, p2, ⟨ad, len, cap, l⟩] w2 _ rfl 3 3 rfl (by
    intro p hp
    simp at hp
    rcases hp with rfl | rfl | rfl
    · exact ok1.out.later b2
    · exact ok2.out
    · exact HP.out.later b12) (by rw [E3.out, toldN_length, hkl.out]; omega) (by omega)).mono ?_
  rintro e w3 ⟨p3, rfl, e3, -, ok3, b3⟩
  have e3' : Hid (p3.l = toldN kind l) := by show _ = _; rw [e3.out, E3.out]
  have b13 : Below w.heap.size w w3 := b12.trans (b3.mono b12.size)
  have h3l : p3.len ≤ 65541 := by rw [← ok3.out.1, e3'.out, toldN_length, hkl.out]; omega
  clear e1 e2 e3 ok1 ok2 b1 b2 b12 b3 HP E3
  go_wp2_with fail
  refine (crc_any p3.ad p3.len p3.cap p3.l _ ok3.out.1 (by unfold maxLen; omega) ok3.out.2.2).mono ?_
  rintro e w4 ⟨rfl, b4⟩
  have hc := crc_lt p3.l
  go_wp2_with fail
  refine (spell_at (crc p3.l) 4 _ rfl rfl (by omega)).mono ?_
  rintro e w5 ⟨p5, rfl, e5, ok5, b5⟩
  go_wp2_with fail
  have E6 : Hid (allN [p3, p5] 2 = frameBs kind l) := by
    show _ = _
    simp [allN, e3'.out, e5.out, frameBs]
  refine (join_at [p3, p5] w5 _ rfl 2 2 rfl (by
    intro p hp
    simp at hp
    rcases hp with rfl | rfl
    · exact ok3.out.later (b4.trans (b5.mono b4.size))
    · exact ok5.out) (by rw [E6.out, frameBs_length, hkl.out]; omega) (by omega)).mono ?_
  rintro e w6 ⟨p6, rfl, -, own6, -, b6⟩
  have b15 : Below w.heap.size w w5 := (b13.trans (b4.mono b13.size)).trans (b5.mono (Nat.le_trans b13.size b4.size))
  have own7 : Hid (Own w6 w.heap.size (.slice p6.ad p6.len p6.cap) (frameBs kind l)) := by
    have h := own6.out
    rw [E6.out] at h
    exact h.down b15.size
  have b16 : Below w.heap.size w w6 := b15.trans (b6.mono b15.size)
  clear own6 E6 ok3 ok5 e5 e3' b13 b4 b5 b6 b15
  go_wp2
  go_ret2
  exact ⟨_, rfl, own7, b16⟩
theorem frame_any (kind : Int) (ad : Option Addr) (len cap : Nat) (l : List Nat) (w : World) (hp : Part.ok w ⟨ad, len, cap, l⟩) (hm : len ≤ maxLen) :
    Calls Tryz.prog 37 #[.int .i64 kind, .slice ad len cap] w fun e w' => ∃ v, e = .returned (.tuple #[v, .int .i64 (frameN kind l).1]) ∧ Own w' w.heap.size v (frameN kind l).2 ∧ Below w.heap.size w w' := by
  have hlen : l.length = len := hp.1
  unfold maxLen at hm
  by_cases hk : 0 ≤ kind ∧ kind ≤ 255
  · by_cases hl : len ≤ 65536
    · obtain ⟨k, rfl⟩ := Int.eq_ofNat_of_zero_le hk.1
      rw [frameN_ok k l (by omega) (by omega)]
      exact frame_ok k ad len cap l w (by omega) hl hp
    · rw [frameN_size kind l hk (by omega)]
      clear hp hlen
      go_enter Tryz.func37, Tryz.ntmps37
      go_wp2
      go_ret2
      exact ⟨_, rfl, Own.nil _ _, Below.refl _ _⟩
  · rw [frameN_kind kind l hk]
    clear hp hlen
    by_cases h0 : kind < 0
    · go_enter Tryz.func37, Tryz.ntmps37
      go_wp2
      go_ret2
      exact ⟨_, rfl, Own.nil _ _, Below.refl _ _⟩
    · have h1 : 255 < kind := by omega
      go_enter Tryz.func37, Tryz.ntmps37
      go_wp2
      go_ret2
      exact ⟨_, rfl, Own.nil _ _, Below.refl _ _⟩
end Go.Proofs.YtfgamkcnnijloaaGreat
