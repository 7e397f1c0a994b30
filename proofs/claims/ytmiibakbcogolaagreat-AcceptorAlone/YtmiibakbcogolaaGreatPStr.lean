/- slices.Grow of nil bytes: a new row with room, and nothing in it. slices.Concat of bytes: all parts' bytes, one part behind the other, in new memory. spell of package store; slices.Concat in the form in which a walk meets it. text of an entry of package store. -/
import Derived.Test.YtmiibakbcogolaaGreatFoot
import Derived.Test.YtmiibakbcogolaaGreatPDisk
import Derived.Lib.AppendZerosOnto
import Derived.Test.YtmiibakbcogolaaGreatPMath
import Derived.Test.YtmiibakbcogolaaGreatPWire
import Derived.Test.YtmiibakbcogolaaGreatHand
namespace Go.Proofs.YtmiibakbcogolaaGreat
open Go.RowKit

theorem app_make {w : World} {ops : Array Oper} {rest : List Oper} {o : Oper} {a : Act} {Q : Exit → Act → World → Prop} (hgd : o.guard = none) (x y : Operand) (ho : o.op = .call { callee := .builtin .append, args := #[x, y], argTypes := #[22, 3] })
    (hx : a.eval x = .slice none 0 0) (n : Nat) (hy : a.eval y = .int .i64 (n : Int)) (h0 : 0 < n) (hn : n ≤ 1073741824)
    (hK : ∀ c w', n ≤ c → c ≤ maxLen → w'.ownsRow w.heap.size 5 1 (.slice (some ⟨w.heap.size, 0, none⟩) 0 c) 0 [] → Below w.heap.size w w' → wpList Tryz.prog ops Q rest (a.put o.dst (.slice (some ⟨w.heap.size, 0, none⟩) n c)) w') : wpList Tryz.prog ops Q (o :: rest) a w := by
  obtain ⟨i0, hi, hz0, hz1, hz2⟩ := info_parts Tryz.info5
  have hfit : Builtin.nextslicecap (0 + n) 0 * i0.bytes ≤ 281474976710656 := by rw [hz2]; exact growslice_fits (by omega) (by omega)
  have hrun := Lib.run_append_grow_zeros (P := Tryz.prog) w 22 3 o.type 5 i0 (.int .u8 0) .i64 .i64 Tryz.underlying22 Tryz.underlying3 hi hz0 none 0 0 [] (by simp [Builtin.firstCells]) n h0 (by rw [hz1]; omega) (by omega) (by omega) (by rw [hz2]; omega) hfit
  rw [Nat.zero_add] at hrun
  have hc := grownCap_ge w n 0 5
  have hcm := grownCap_le_maxLen w n 0 5 (by unfold maxLen; omega)
  generalize grownCap w n 0 5 = c at *
  refine wpList_plain hgd fun K hK' => ?_
  unfold Oper.wp
  simp only [execOp, ho, resolve, invoke, builtin]
  simp [hx, hy, hrun, Result.andThen]
  refine hK' _ _ (hK c _ hc hcm ?_ ?_)
  · refine ⟨by simp, Or.inr ⟨w.heap.size, c, _, rfl, Nat.le_refl _, heap_alloc_last _ _, by omega, hcm, ?_, by simp⟩⟩
    simp [Builtin.zeroCells, Value.cells]
    omega
  · exact ((Below.refl _ w).drew).alloc (Nat.le_refl _) _
set_option maxRecDepth 100000 in
set_option maxHeartbeats 1000000 in
theorem grow_any (n : Nat) (w : World) (hn : n ≤ 1073741824) : Calls Tryz.prog 71 #[.slice none 0 0, .int .i64 (n : Int)] w fun e w' => ∃ v, e = .returned v ∧ w'.ownsRow w.heap.size 5 1 v 0 [] ∧ Below w.heap.size w w' := by
  by_cases h0 : n = 0
  · subst h0
    go_enter Tryz.func71, Tryz.ntmps71
    go_wp2
    go_ret
    exact ⟨_, rfl, World.ownsRow_nil _ _ _ _, Below.refl _ _⟩
  · have h1 : 0 < n := by omega
    go_enter Tryz.func71, Tryz.ntmps71
    go_wp2_with (at_builtin; refine app_make rfl _ _ rfl rfl n rfl h1 hn ?_; intro c w1 hc hcm o1 b1)
    go_ret
    exact ⟨_, rfl, o1, b1⟩
end Go.Proofs.YtmiibakbcogolaaGreat
namespace Go.Proofs.YtmiibakbcogolaaGreat
open Go.RowKit

set_option maxRecDepth 100000 in
set_option maxHeartbeats 1000000 in
theorem concat_any (g m c : Nat) (ps : List Part) (w : World) (hm : ps.length = m) (hg : g < w.heap.size) (hcell : ∀ (i : Nat) (p : Part), ps[i]? = some p → w.cell? ⟨g, i, none⟩ = some (.slice p.ad p.len p.cap))
    (hok : ∀ (i : Nat) (p : Part), ps[i]? = some p → p.ok w) (htot : (allN ps m).length ≤ 1000000) (hmm : m ≤ 1000) :
    Calls Tryz.prog 36 #[.slice (some ⟨g, 0, none⟩) m c] w fun e w' => ∃ v, e = .returned v ∧ Own w' w.heap.size v (allN ps m) ∧ Below w.heap.size w w' := by
  have HC : Hid (∀ (i : Nat) (p : Part), ps[i]? = some p → w.cell? ⟨g, i, none⟩ = some (.slice p.ad p.len p.cap)) := hcell
  have HO : Hid (∀ (i : Nat) (p : Part), ps[i]? = some p → p.ok w) := hok
  clear hcell hok
  go_enter Tryz.func36, Tryz.ntmps36
  go_wp2
  go_loop [3, 11] (fun s i => ∃ k : Nat, k ≤ m ∧ i = .int .i64 k ∧ s = .int .i64 ((allN ps k).length : Nat)) (fun _ i => m - (intOf i).toNat)
  case atStart => exact ⟨0, Nat.zero_le _, rfl, rfl⟩
  case round =>
    obtain ⟨k, hk, rfl, rfl⟩ := hrel
    have hle := allN_le ps k
    rw [hm] at hle
    by_cases hlt : k < m
    · obtain ⟨p, hp⟩ : ∃ p, ps[k]? = some p := ⟨_, List.getElem?_eq_getElem (by omega)⟩
      have hck := HC.out k p hp
      have hpl := (HO.out k p hp).1
      have HS : Hid ((allN ps (k + 1)).length = (allN ps k).length + p.len) := by show _ = _; rw [allN_succ ps k p hp, List.length_append, hpl]
      have hle2 := allN_le ps (k + 1)
      rw [hm] at hle2
      have hb2 : (allN ps k).length + p.len ≤ 1000000 := by have := HS.out; omega
      obtain ⟨pad, plen, pcap, pl⟩ := p
      simp only at hck hpl HS hb2
      clear hp hle2
      generalize (allN ps k).length = q at *
      go_wp2
      go_round
      case rel => exact ⟨k + 1, by omega, by go_num, by rw [HS.out]; go_num⟩
      case measure => simp [intOf]; omega
    · obtain rfl : k = m := by omega
      generalize hq : (allN ps k).length = q at *
      have HQ : Hid ((allN ps k).length = q) := hq
      clear hq
      go_wp2_with fail
      refine (grow_any q w (by omega)).mono ?_
      rintro e w1 ⟨v0, rfl, o1, b1⟩
      have HO1 : Hid (w1.ownsRow w.heap.size 5 1 v0 0 []) := o1
      have HB1 : Hid (Below w.heap.size w w1) := b1
      clear o1 b1
      go_wp2_with fail
      go_loopw [6, 27] (fun v i wr => ∃ j n : Nat, j ≤ k ∧ i = .int .i64 j ∧ n ≤ q ∧ Hid ((allN ps j).length = n) ∧ Hid (wr.ownsRow w.heap.size 5 1 v n ((allN ps j).map bv)) ∧ Hid (Below w.heap.size w wr)) (fun _ i _ => k - (intOf i).toNat)
      case atStart => exact ⟨0, 0, Nat.zero_le _, rfl, Nat.zero_le _, (show Hid _ from rfl), HO1, HB1⟩
      case round =>
        obtain ⟨j, n, hj, rfl, hnq, HN, HW, HB⟩ := hrel
        clear HO1 HB1
        by_cases hjl : j < k
        · obtain ⟨p, hp⟩ : ∃ p, ps[j]? = some p := ⟨_, List.getElem?_eq_getElem (by omega)⟩
          have hck := (HB.out.cell (p := ⟨g, j, none⟩) hg).trans (HC.out j p hp)
          have hpo := HO.out j p hp
          have hS : (allN ps (j + 1)).length = n + p.len := by rw [allN_succ ps j p hp, List.length_append, HN.out, hpo.1]
          have HA : Hid (allN ps (j + 1) = allN ps j ++ p.l) := allN_succ ps j p hp
          have hle2 := allN_le ps (j + 1)
          rw [hm, HQ.out] at hle2
          have HS : Hid ((allN ps (j + 1)).length = n + p.len) := hS
          have hb2 : n + p.len ≤ q := by omega
          obtain ⟨pad, plen, pcap, pl⟩ := p
          have HP : Hid (Part.ok w ⟨pad, plen, pcap, pl⟩) := hpo
          simp only at hck HA hb2
          clear hp hle2 hpo hS
          go_wp2_with (at_builtin; refine app_any rfl _ _ rfl w.heap.size _ n (allN ps j) rfl HW.out pad plen pcap pl rfl HP.out.1 HP.out.2.1 (HP.out.2.2.later HB.out) (by omega) HB.out.size ?_; intro v2 w2 o2 g2)
          refine ⟨⟨j + 1, n + plen, by omega, by go_num, hb2, HS, (show Hid _ from by rw [HA.out]; exact o2), (show Hid _ from HB.out.grown g2 HB.out.size (fun k hk => (HW.out.lt k hk).1))⟩, by simp [intOf]; omega⟩
        · obtain rfl : j = k := by omega
          go_wp2
          go_ret
          refine ⟨_, rfl, ⟨allN_lt w ps HO.out j, ?_⟩, HB.out⟩
          rw [HN.out]
          exact HW.out
end Go.Proofs.YtmiibakbcogolaaGreat
namespace Go.Proofs.YtmiibakbcogolaaGreat
open Go.RowKit

set_option maxRecDepth 100000 in
theorem sspell_at {z s : Int} (n size : Nat) (w : World) (hz : z = n) (hs : s = size) (h1 : 1 ≤ size) (h6 : size ≤ 6) (hn : n < 2 ^ (8 * size)) :
    Calls Tryz.prog 179 #[.int .i64 z, .int .i64 s] w fun e w' => ∃ p : Part, e = .returned (.slice p.ad p.len p.cap) ∧ Hid (p.l = spellN n size) ∧ Hid (p.ok w') ∧ Below w.heap.size w w' := by
  subst hz hs
  have q := put_any (n : Int) (size : Int) w
  rw [putN_ok n size h1 h6 hn] at q
  go_enter Tryz.func179, Tryz.ntmps179
  go_wp2_with (go_at_call 72; refine q.mono ?_; rintro e w' ⟨v, rfl, hown, hb⟩)
  go_ret
  obtain ⟨p, rfl, h1, h2⟩ := Part.of_own hown
  exact ⟨p, rfl, h1, h2, hb⟩
/-- A Concat of parts that lie in one new block. -/
theorem concat_at (ps : List Part) (w0 : World) (cs : Array Value) (hcs : cs = (ps.map fun p => Value.slice p.ad p.len p.cap).toArray) (m c : Nat) (hm : ps.length = m) (hok : ∀ p ∈ ps, p.ok w0) (htot : (allN ps m).length ≤ 1000000) (hmm : m ≤ 1000) :
    Calls Tryz.prog 36 #[.slice (some ⟨w0.heap.size, 0, none⟩) m c] (w0.alloc (.cells cs 22)) fun e w' => ∃ p : Part, e = .returned (.slice p.ad p.len p.cap) ∧ Hid (p.l = allN ps m) ∧ Hid (Own w' w0.heap.size (.slice p.ad p.len p.cap) (allN ps m)) ∧ Hid (p.ok w') ∧ Below w0.heap.size w0 w' := by
  have hb0 : Below w0.heap.size w0 (w0.alloc (.cells cs 22)) := (Below.refl _ _).alloc (Nat.le_refl _) _
  refine (concat_any w0.heap.size m c ps _ hm (by simp) ?_ ?_ htot hmm).mono ?_
  · intro i p hp
    subst hcs
    have hi : i < ps.length := (List.getElem?_eq_some_iff.1 hp).1
    simp [hp]
  · intro i p hp
    exact (hok p (List.mem_of_getElem? hp)).later hb0
  · rintro e w' ⟨v, rfl, hown, hb⟩
    obtain ⟨p, rfl, h1, h2⟩ := Part.of_own hown
    exact ⟨p, rfl, h1, hown.down (by simp), h2, hb0.trans (hb.mono (by simp))⟩
end Go.Proofs.YtmiibakbcogolaaGreat
namespace Go.Proofs.YtmiibakbcogolaaGreat
open Go.RowKit Crcm

/-- An entry as it is handed on. -/
def entV (kind loglet pos : Nat) (ad : Option Addr) (len cap : Nat) : Value := .agg #[.int .i64 (kind : Int), .int .i64 (loglet : Int), .int .i64 (pos : Int), .slice ad len cap]
theorem ok4 {w : World} {p1 p2 p3 p4 : Part} (h1 : p1.ok w) (h2 : p2.ok w) (h3 : p3.ok w) (h4 : p4.ok w) : ∀ p ∈ [p1, p2, p3, p4], p.ok w := by
  intro p hp
  simp at hp
  rcases hp with rfl | rfl | rfl | rfl <;> assumption
theorem len4 {x : List Nat} {kind loglet pos len : Nat} {l : List Nat} (h : x = entryN kind loglet pos l) (hl : l.length = len) (hlen : len ≤ 65536) : x.length ≤ 1000000 := by
  rw [h, entryN_length]
  omega
theorem own4 {w : World} {N M : Nat} {v : Value} {x y : List Nat} (h : Own w M v x) (e : x = y) (hN : N ≤ M) : Own w N v y := by
  subst e
  exact h.down hN
theorem all4 {p1 p2 p3 : Part} {kind loglet pos : Nat} {ad : Option Addr} {len cap : Nat} {l : List Nat} (e1 : p1.l = spellN kind 1) (e2 : p2.l = spellN loglet 6) (e3 : p3.l = spellN pos 6) : allN [p1, p2, p3, ⟨ad, len, cap, l⟩] 4 = entryN kind loglet pos l := by
  simp [allN, e1, e2, e3, entryN]
set_option maxRecDepth 100000 in
set_option maxHeartbeats 4000000 in
theorem text4_any (kind loglet pos : Nat) (ad : Option Addr) (len cap : Nat) (l : List Nat) (w : World) (hk : kind < 256) (hl : loglet < 281474976710656) (hp : pos < 281474976710656) (ha : Part.ok w ⟨ad, len, cap, l⟩) (hlen : len ≤ 65536) :
    Calls Tryz.prog 157 #[entV kind loglet pos ad len cap] w fun e w' => ∃ p : Part, e = .returned (.slice p.ad p.len p.cap) ∧ Hid (p.l = entryN kind loglet pos l) ∧ Hid (p.ok w') ∧ Hid (Own w' w.heap.size (.slice p.ad p.len p.cap) (entryN kind loglet pos l)) ∧ Below w.heap.size w w' := by
  have HA : Hid (Part.ok w ⟨ad, len, cap, l⟩) := ha
  clear ha
  unfold entV
  have HS : Hid (∀ W : World, Below (w.heap.size + 1) (w.alloc (.cells #[.int .i64 (kind : Int), .int .i64 (loglet : Int), .int .i64 (pos : Int), .slice ad len cap] 207)) W → W.cell? ⟨w.heap.size, 0, none⟩ = some (.int .i64 (kind : Int)) ∧ W.cell? ⟨w.heap.size, 1, none⟩ = some (.int .i64 (loglet : Int)) ∧ W.cell? ⟨w.heap.size, 2, none⟩ = some (.int .i64 (pos : Int)) ∧ W.cell? ⟨w.heap.size, 3, none⟩ = some (.slice ad len cap)) := (show Hid _ from fun W hW => by
    have q := (hW.block w.heap.size (by omega)).trans (heap_alloc_last w _)
    refine ⟨?_, ?_, ?_, ?_⟩ <;> (rw [cell_of_row _ _ _ _ _ _ q]; rfl))
  go_enter Tryz.func157, Tryz.ntmps157
  go_wp2_with fail
  generalize hW0 : w.alloc (.cells #[.int .i64 (kind : Int), .int .i64 (loglet : Int), .int .i64 (pos : Int), .slice ad len cap] 207) = W0 at *
  have hsz : W0.heap.size = w.heap.size + 1 := by rw [← hW0]; simp
  have B0 : Hid (Below w.heap.size w W0.drew) := (show Hid _ from (by rw [← hW0]; exact ((Below.refl _ w).alloc (Nat.le_refl _) _).drew))
  have C0 : Hid (Below (w.heap.size + 1) W0 W0.drew) := (show Hid _ from (Below.refl _ W0).drew)
  clear hW0
  go_region_held3 (fun W => W.cell? ⟨w.heap.size, 0, none⟩ = some (.int .i64 (kind : Int)) ∧ W.cell? ⟨w.heap.size, 1, none⟩ = some (.int .i64 (loglet : Int)) ∧ W.cell? ⟨w.heap.size, 2, none⟩ = some (.int .i64 (pos : Int)) ∧ W.cell? ⟨w.heap.size, 3, none⟩ = some (.slice ad len cap))
    (first | exact HS.out _ C0.out | exact HS.out _ C1.out | exact HS.out _ C2.out | exact HS.out _ C3.out | exact HS.out _ (C3.out.alloc C3s.out _) | exact HS.out _ C4.out)
    (first
      | (go_at_call 36; refine (concat_at [p1, p2, p3, ⟨ad, len, cap, l⟩] w3 _ rfl 4 4 rfl OK3.out LEN3.out (by omega)).mono ?_; rintro e w4 ⟨p4, rfl, e4, o4, k4, b4⟩; have C4 : Hid (Below (w.heap.size + 1) W0 w4) := (show Hid _ from C3.out.trans (b4.mono C3s.out)); have B4 : Hid (Below w.heap.size w w4) := (show Hid _ from B3.out.trans (b4.mono B3.out.size)); have E4 : Hid (p4.l = entryN kind loglet pos l) := (show Hid _ from e4.out.trans E3.out); have O4 : Hid (Own w4 w.heap.size (.slice p4.ad p4.len p4.cap) (entryN kind loglet pos l)) := (show Hid _ from own4 o4.out E3.out B3.out.size); clear b4 e4 o4)
      | (go_at_call 179; (with_reducible_and_instances (refine (sspell_at pos 6 w2 rfl rfl (by omega) (by omega) (by omega)).mono ?_)); rintro e w3 ⟨p3, rfl, e3, k3, b3⟩; have C3s : Hid (w.heap.size + 1 ≤ w3.heap.size) := (show Hid _ from Nat.le_trans C2s.out b3.size); have C3 : Hid (Below (w.heap.size + 1) W0 w3) := (show Hid _ from C2.out.trans (b3.mono C2s.out)); have B3 : Hid (Below w.heap.size w w3) := (show Hid _ from B2.out.trans (b3.mono B2.out.size)); have OK3 : Hid (∀ p ∈ [p1, p2, p3, ⟨ad, len, cap, l⟩], p.ok w3) := (show Hid _ from ok4 (K2.out.1.later b3) (K2.out.2.later b3) k3.out (HA.out.later B3.out)); have E3 : Hid (allN [p1, p2, p3, ⟨ad, len, cap, l⟩] 4 = entryN kind loglet pos l) := (show Hid _ from all4 E2.out.1 E2.out.2 e3.out); have LEN3 : Hid ((allN [p1, p2, p3, ⟨ad, len, cap, l⟩] 4).length ≤ 1000000) := (show Hid _ from len4 E3.out HA.out.1 hlen); clear e3 k3 b3)
      | (go_at_call 179; (with_reducible_and_instances (refine (sspell_at loglet 6 w1 rfl rfl (by omega) (by omega) (by omega)).mono ?_)); rintro e w2 ⟨p2, rfl, e2, k2, b2⟩; have C2s : Hid (w.heap.size + 1 ≤ w2.heap.size) := (show Hid _ from Nat.le_trans C1s.out b2.size); have C2 : Hid (Below (w.heap.size + 1) W0 w2) := (show Hid _ from C1.out.trans (b2.mono C1s.out)); have B2 : Hid (Below w.heap.size w w2) := (show Hid _ from B1.out.trans (b2.mono B1.out.size)); have K2 : Hid (p1.ok w2 ∧ p2.ok w2) := (show Hid _ from ⟨K1.out.later b2, k2.out⟩); have E2 : Hid (p1.l = spellN kind 1 ∧ p2.l = spellN loglet 6) := (show Hid _ from ⟨E1.out, e2.out⟩); clear e2 k2 b2)
      | (go_at_call 179; (with_reducible_and_instances (refine (sspell_at kind 1 W0.drew rfl rfl (by omega) (by omega) (by omega)).mono ?_)); rintro e w1 ⟨p1, rfl, e1, k1, b1⟩; have C1s : Hid (w.heap.size + 1 ≤ w1.heap.size) := (show Hid _ from Nat.le_trans (Nat.le_of_eq hsz.symm) b1.size); have C1 : Hid (Below (w.heap.size + 1) W0 w1) := (show Hid _ from C0.out.trans (b1.mono (Nat.le_of_eq hsz.symm))); have B1 : Hid (Below w.heap.size w w1) := (show Hid _ from B0.out.trans (b1.mono B0.out.size)); have K1 : Hid (p1.ok w1) := k1; have E1 : Hid (p1.l = spellN kind 1) := e1; clear b1 e1 k1))
  go_wp2
  go_ret
  exact ⟨p4, rfl, E4, k4, O4, B4.out⟩
end Go.Proofs.YtmiibakbcogolaaGreat
