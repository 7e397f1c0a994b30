/- attempt of package group, of bytes (by genbye15.py). slices.Concat of bytes at package group's seat: store's Grow, Concat and concat_at, without the disk. -/
import Derived.Test.YtiiepmljcjbflaaGreatGAttB
import Derived.Test.YtiiepmljcjbflaaGreatPGOwn
import Derived.Test.YtiiepmljcjbflaaGreatPWide
import Derived.Test.YtiiepmljcjbflaaGreatPGXMath
import Derived.Lib.AppendZerosOnto
namespace Go.Proofs.YtiiepmljcjbflaaGreat
open Go.RowKit

set_option maxRecDepth 100000 in
theorem catchbyte (g : Nat) (y0 y : Int) (w : World) (hb : Blk w g #[.int .i64 y0] 26) :
    CallsD Tryz.prog 48 #[.pointer (some ⟨g, 0, none⟩)] (.panicking (refusal y)) w fun e u' w' =>
      e = .returned (.tuple #[]) ∧ u' = .panicking [{ v := .iface 101 (.agg #[.int .i64 y]), recovered := true }] ∧ w' = (w.setCell ⟨g, 0, none⟩ (.int .i64 y)).alloc (.cells #[.int .i64 y] 101) := by
  have hc : w.cell? ⟨g, 0, none⟩ = some (.int .i64 y0) := hb.cell 0
  have hgl := hb.lt
  have hz := hb.free 0
  refine callsD_of_wpS Tryz.func48 rfl fun c₀ cs hu => ?_
  apply wpS_seq
  apply wpS_region
  simp [wpOpsS, go_sem, recoverD, hu, Tryz.ntmps48, Exit.thenS]
  simp only [Array.replicate_succ, Array.replicate_zero, List.push_toArray, List.append_toArray, List.nil_append, List.cons_append, List.setIfInBounds_toArray, List.set_cons_zero, List.set_cons_succ]
  refine wpS_of_wp ?_
  have hta : ∀ w : World, (Instr.typeAssert (.iface 101 (.agg #[.int .i64 y])) 20 101 true).run Tryz.prog w = .ok (.tuple #[.agg #[.int .i64 y], .bool true]) w := fun w => by kernel_rfl
  generalize hc1 : ({ c₀ with mode := FrameMode.panicking [{ v := .iface 101 (.agg #[.int .i64 y]), recovered := true }] } : Frame) = c1
  clear hu
  go_wp2
  exact ⟨rfl, _, by rw [← hc1], .tuple #[], by simp [results, Tryz.results48, go_sem], rfl, rfl, rfl⟩
set_option maxRecDepth 100000 in
theorem idlebyte (g : Nat) (w : World) :
    CallsD Tryz.prog 48 #[.pointer (some ⟨g, 0, none⟩)] .returning w fun e u' w' => e = .returned (.tuple #[]) ∧ u' = .returning ∧ w' = w := by
  refine callsD_of_wpS Tryz.func48 rfl fun c₀ cs hu => ?_
  apply wpS_seq
  apply wpS_region
  simp [wpOpsS, go_sem, recoverD, hu, Tryz.ntmps48, Exit.thenS]
  simp only [Array.replicate_succ, Array.replicate_zero, List.push_toArray, List.append_toArray, List.nil_append, List.cons_append, List.setIfInBounds_toArray, List.set_cons_zero, List.set_cons_succ]
  refine wpS_of_wp ?_
  have hc1 : c₀ = { c₀ with mode := FrameMode.returning } := by cases c₀; simp_all
  clear hu
  go_wp2
  exact ⟨rfl, _, by rw [← hc1], .tuple #[], by simp [results, Tryz.results48, go_sem], rfl, rfl, rfl⟩
/-- attempt: what work answers, or why it gave up. -/
theorem attemptbyte (f : Nat) (caps : Array Value) (w : World) (hf : ∀ args W, (callFunc f args).run Tryz.prog W = .ok (.enter f args) W) (G : Option Addr → Nat → Nat → World → Prop) (B : Int → Prop)
    (HC : Calls Tryz.prog f caps (w.alloc (.cells #[.int .i64 0] 26)) fun e W => ((∃ (ad : Option Addr) (m c : Nat), e = .returned (.slice ad m c) ∧ G ad m c W) ∨ (∃ y : Int, e = .panicked (refusal y) ∧ B y)) ∧ Below (w.heap.size + 1) (w.alloc (.cells #[.int .i64 0] 26)) W) :
    Calls Tryz.prog 25 #[.func (.func f) #[] caps] w fun e w' => ((∃ W, Chg [w.heap.size] W w' ∧ w.heap.size + 1 ≤ W.heap.size ∧ ∃ (ad : Option Addr) (m c : Nat), e = .returned (.tuple #[.slice ad m c, .int .i64 0]) ∧ G ad m c W) ∨ (∃ y : Int, e = .returned (.tuple #[.slice none 0 0, .int .i64 y]) ∧ B y)) ∧ Below w.heap.size w w' := by
  have hmf : ∀ (fn : Fn) (first cap : Array Value) (w : World), (Instr.makeFunc fn first cap).run Tryz.prog w = .ok (.func fn first cap) w := fun _ _ _ _ => rfl
  have HBX : Hid (∀ W, Below (w.heap.size + 1) (w.alloc (.cells #[.int .i64 0] 26)) W → Blk W (w.heap.size) #[.int .i64 0] 26 ∧ Below w.heap.size w W ∧ w.heap.size + 1 ≤ W.heap.size) := fun W hW => ⟨(show Blk _ w.heap.size _ _ from heap_alloc_new w (.cells #[.int .i64 0] 26)).keep hW (by omega), ((Below.refl _ w).alloc (Nat.le_refl _) _).trans (hW.mono (by omega)), by have := hW.size; simpa using this⟩
  have HC2 := HC.mono (fun e W hh => (show (((∃ (ad : Option Addr) (m c : Nat), e = .returned (.slice ad m c) ∧ Hid (G ad m c W)) ∨ (∃ y : Int, e = .panicked (refusal y) ∧ Hid (B y))) ∧ (W.cell? ⟨w.heap.size, 0, none⟩ = some (.int .i64 0) ∧ W.frozen? ⟨w.heap.size, 0, none⟩ = false) ∧ Hid (Blk W (w.heap.size) #[.int .i64 0] 26 ∧ Below w.heap.size w W ∧ w.heap.size + 1 ≤ W.heap.size)) from by
    have hk := HBX.out W hh.2
    exact ⟨hh.1, ⟨hk.1.cell 0, hk.1.free 0⟩, hk⟩))
  clear HC HBX
  go_enter_defers Tryz.func25, Tryz.ntmps25
  go_wp2_with (refine HC2.mono ?_; rintro e W ⟨⟨ad, m, c, rfl, HG⟩ | ⟨y, rfl, HBy⟩, ⟨q0, qf⟩, HK⟩)
  · have hsz := HK.out.2.2
    refine leaves_cons (f := 48) (args := #[.pointer (some ⟨w.heap.size, 0, none⟩)]) (by simp) (by simp [go_sem]) ?_
    refine (idlebyte _ _).mono ?_
    rintro e u' w'' ⟨rfl, rfl, rfl⟩
    obtain ⟨k1, hbl, hsz⟩ := HK.out
    have m1 := k1.set 0 (.int .i64 0)
    have s3 := m1.cell 0
    simp only [List.setIfInBounds_toArray, List.set_cons_zero, List.getElem?_toArray, List.getElem?_cons_zero] at s3
    refine ⟨.tuple #[.slice ad m c, .int .i64 0], by simp [results, Tryz.results25, go_sem, s3], Or.inl ⟨W, ?_, hsz, ad, m, c, rfl, HG.out⟩, ?_⟩
    · exact (Chg.refl _ W).set (Or.inl (by simp)) _ _
    · exact hbl.setCell (p := ⟨w.heap.size, 0, none⟩) (Nat.le_refl _) _
  · obtain ⟨k1, hbl, hsz⟩ := HK.out
    refine leaves_cons (f := 48) (args := #[.pointer (some ⟨w.heap.size, 0, none⟩)]) (by simp) (by simp [go_sem]) ?_
    refine (catchbyte (w.heap.size) 0 y W k1).mono ?_
    rintro e u' w'' ⟨rfl, rfl, rfl⟩
    have m1 := (k1.set 0 (.int .i64 y)).later ((Below.refl _ _).alloc (Nat.le_refl _) (.cells #[.int .i64 y] 101))
    have s3 := m1.cell 0
    simp only [List.setIfInBounds_toArray, List.set_cons_zero, List.getElem?_toArray, List.getElem?_cons_zero] at s3
    refine ⟨.tuple #[.slice none 0 0, .int .i64 y], by simp [results, Tryz.results25, go_sem, s3], Or.inr ⟨y, rfl, HBy.out⟩, ?_⟩
    exact (hbl.setCell (p := ⟨w.heap.size, 0, none⟩) (Nat.le_refl _) _).alloc (by simp [World.setCell]; omega) _
end Go.Proofs.YtiiepmljcjbflaaGreat
namespace Go.Proofs.YtiiepmljcjbflaaGreat
open Go.RowKit


theorem app_make {w : World} {ops : Array Oper} {rest : List Oper} {o : Oper} {a : Act} {Q : Exit → Act → World → Prop} (hgd : o.guard = none) (x y : Operand) (ho : o.op = .call { callee := .builtin .append, args := #[x, y], argTypes := #[24, 3] })
    (hx : a.eval x = .slice none 0 0) (n : Nat) (hy : a.eval y = .int .i64 (n : Int)) (h0 : 0 < n) (hn : n ≤ 1073741824)
    (hK : ∀ c w', n ≤ c → c ≤ maxLen → w'.ownsRow w.heap.size 5 1 (.slice (some ⟨w.heap.size, 0, none⟩) 0 c) 0 [] → Below w.heap.size w w' → wpList Tryz.prog ops Q rest (a.put o.dst (.slice (some ⟨w.heap.size, 0, none⟩) n c)) w') : wpList Tryz.prog ops Q (o :: rest) a w := by
  obtain ⟨i0, hi, hz0, hz1, hz2⟩ := info_parts Tryz.info5
  have hfit : Builtin.nextslicecap (0 + n) 0 * i0.bytes ≤ 281474976710656 := by rw [hz2]; exact growslice_fits (by omega) (by omega)
  have hrun := Lib.run_append_grow_zeros (P := Tryz.prog) w 24 3 o.type 5 i0 (.int .u8 0) .i64 .i64 Tryz.underlying24 Tryz.underlying3 hi hz0 none 0 0 [] (by simp [Builtin.firstCells]) n h0 (by rw [hz1]; omega) (by omega) (by omega) (by rw [hz2]; omega) hfit
  rw [Nat.zero_add] at hrun
  have hc := grownCap_ge w n 0 5
  have hcm := grownCap_le_maxLen w n 0 5 (by unfold maxLen; omega)
  generalize grownCap w n 0 5 = c at *
  refine wpList_plain hgd fun K hK' => ?_
  unfold Oper.wp
  simp only [execOp, ho, resolve, invoke, builtin]
  simp [hx, hy, hrun, Result.andThen]
  refine hK' _ _ (hK c _ hc hcm ?_ ?_)
  · refine ⟨by simp, Or.inr ⟨w.heap.size, c, _, rfl, Nat.le_refl _, heap_alloc_last _ _, by omega, hcm, ?_, by simp⟩⟩
    simp [Builtin.zeroCells, Value.cells]
    omega
  · exact ((Below.refl _ w).drew).alloc (Nat.le_refl _) _
set_option maxRecDepth 100000 in
set_option maxHeartbeats 1000000 in
theorem grow_any (n : Nat) (w : World) (hn : n ≤ 1073741824) : Calls Tryz.prog 86 #[.slice none 0 0, .int .i64 (n : Int)] w fun e w' => ∃ v, e = .returned v ∧ w'.ownsRow w.heap.size 5 1 v 0 [] ∧ Below w.heap.size w w' := by
  by_cases h0 : n = 0
  · subst h0
    go_enter Tryz.func86, Tryz.ntmps86
    go_wp2
    go_ret
    exact ⟨_, rfl, World.ownsRow_nil _ _ _ _, Below.refl _ _⟩
  · have h1 : 0 < n := by omega
    go_enter Tryz.func86, Tryz.ntmps86
    go_wp2_with (at_builtin; refine app_make rfl _ _ rfl rfl n rfl h1 hn ?_; intro c w1 hc hcm o1 b1)
    go_ret
    exact ⟨_, rfl, o1, b1⟩


set_option maxRecDepth 100000 in
set_option maxHeartbeats 1000000 in
theorem concat_any (g m c : Nat) (ps : List Part) (w : World) (hm : ps.length = m) (hg : g < w.heap.size) (hcell : ∀ (i : Nat) (p : Part), ps[i]? = some p → w.cell? ⟨g, i, none⟩ = some (.slice p.ad p.len p.cap))
    (hok : ∀ (i : Nat) (p : Part), ps[i]? = some p → p.ok w) (htot : (allN ps m).length ≤ 1000000) (hmm : m ≤ 1000) :
    Calls Tryz.prog 53 #[.slice (some ⟨g, 0, none⟩) m c] w fun e w' => ∃ v, e = .returned v ∧ Own w' w.heap.size v (allN ps m) ∧ Below w.heap.size w w' := by
  have HC : Hid (∀ (i : Nat) (p : Part), ps[i]? = some p → w.cell? ⟨g, i, none⟩ = some (.slice p.ad p.len p.cap)) := hcell
  have HO : Hid (∀ (i : Nat) (p : Part), ps[i]? = some p → p.ok w) := hok
  clear hcell hok
  go_enter Tryz.func53, Tryz.ntmps53
  go_wp2
  go_loop [3, 11] (fun s i => ∃ k : Nat, k ≤ m ∧ i = .int .i64 k ∧ s = .int .i64 ((allN ps k).length : Nat)) (fun _ i => m - (intOf i).toNat)
  case atStart => exact ⟨0, Nat.zero_le _, rfl, rfl⟩
  case round =>
    obtain ⟨k, hk, rfl, rfl⟩ := hrel
    have hle := allN_le ps k
    rw [hm] at hle
    by_cases hlt : k < m
    · obtain ⟨p, hp⟩ : ∃ p, ps[k]? = some p := ⟨_, List.getElem?_eq_getElem (by omega)⟩
      have hck := HC.out k p hp
      have hpl := (HO.out k p hp).1
      have HS : Hid ((allN ps (k + 1)).length = (allN ps k).length + p.len) := by show _ = _; rw [allN_succ ps k p hp, List.length_append, hpl]
      have hle2 := allN_le ps (k + 1)
      rw [hm] at hle2
      have hb2 : (allN ps k).length + p.len ≤ 1000000 := by have := HS.out; omega
      obtain ⟨pad, plen, pcap, pl⟩ := p
      simp only at hck hpl HS hb2
      clear hp hle2
      generalize (allN ps k).length = q at *
      go_wp2
      go_round
      case rel => exact ⟨k + 1, by omega, by go_num, by rw [HS.out]; go_num⟩
      case measure => simp [intOf]; omega
    · obtain rfl : k = m := by omega
      generalize hq : (allN ps k).length = q at *
      have HQ : Hid ((allN ps k).length = q) := hq
      clear hq
      go_wp2_with fail
      refine (grow_any q w (by omega)).mono ?_
      rintro e w1 ⟨v0, rfl, o1, b1⟩
      have HO1 : Hid (w1.ownsRow w.heap.size 5 1 v0 0 []) := o1
      have HB1 : Hid (Below w.heap.size w w1) := b1
      clear o1 b1
      go_wp2_with fail
      go_loopw [6, 27] (fun v i wr => ∃ j n : Nat, j ≤ k ∧ i = .int .i64 j ∧ n ≤ q ∧ Hid ((allN ps j).length = n) ∧ Hid (wr.ownsRow w.heap.size 5 1 v n ((allN ps j).map bv)) ∧ Hid (Below w.heap.size w wr)) (fun _ i _ => k - (intOf i).toNat)
      case atStart => exact ⟨0, 0, Nat.zero_le _, rfl, Nat.zero_le _, (show Hid _ from rfl), HO1, HB1⟩
      case round =>
        obtain ⟨j, n, hj, rfl, hnq, HN, HW, HB⟩ := hrel
        clear HO1 HB1
        by_cases hjl : j < k
        · obtain ⟨p, hp⟩ : ∃ p, ps[j]? = some p := ⟨_, List.getElem?_eq_getElem (by omega)⟩
          have hck := (HB.out.cell (p := ⟨g, j, none⟩) hg).trans (HC.out j p hp)
          have hpo := HO.out j p hp
          have hS : (allN ps (j + 1)).length = n + p.len := by rw [allN_succ ps j p hp, List.length_append, HN.out, hpo.1]
          have HA : Hid (allN ps (j + 1) = allN ps j ++ p.l) := allN_succ ps j p hp
          have hle2 := allN_le ps (j + 1)
          rw [hm, HQ.out] at hle2
          have HS : Hid ((allN ps (j + 1)).length = n + p.len) := hS
          have hb2 : n + p.len ≤ q := by omega
          obtain ⟨pad, plen, pcap, pl⟩ := p
          have HP : Hid (Part.ok w ⟨pad, plen, pcap, pl⟩) := hpo
          simp only at hck HA hb2
          clear hp hle2 hpo hS
          go_wp2_with (at_builtin; refine app_any rfl _ _ rfl w.heap.size _ n (allN ps j) rfl HW.out pad plen pcap pl rfl HP.out.1 HP.out.2.1 (HP.out.2.2.later HB.out) (by omega) HB.out.size ?_; intro v2 w2 o2 g2)
          refine ⟨⟨j + 1, n + plen, by omega, by go_num, hb2, HS, (show Hid _ from by rw [HA.out]; exact o2), (show Hid _ from HB.out.grown g2 HB.out.size (fun k hk => (HW.out.lt k hk).1))⟩, by simp [intOf]; omega⟩
        · obtain rfl : j = k := by omega
          go_wp2
          go_ret
          refine ⟨_, rfl, ⟨allN_lt w ps HO.out j, ?_⟩, HB.out⟩
          rw [HN.out]
          exact HW.out
/-- A Concat of parts that lie in one new block. -/
theorem concat_at (ps : List Part) (w0 : World) (cs : Array Value) (hcs : cs = (ps.map fun p => Value.slice p.ad p.len p.cap).toArray) (m c : Nat) (hm : ps.length = m) (hok : ∀ p ∈ ps, p.ok w0) (htot : (allN ps m).length ≤ 1000000) (hmm : m ≤ 1000) :
    Calls Tryz.prog 53 #[.slice (some ⟨w0.heap.size, 0, none⟩) m c] (w0.alloc (.cells cs 24)) fun e w' => ∃ p : Part, e = .returned (.slice p.ad p.len p.cap) ∧ Hid (p.l = allN ps m) ∧ Hid (Own w' w0.heap.size (.slice p.ad p.len p.cap) (allN ps m)) ∧ Hid (p.ok w') ∧ Below w0.heap.size w0 w' := by
  have hb0 : Below w0.heap.size w0 (w0.alloc (.cells cs 24)) := (Below.refl _ _).alloc (Nat.le_refl _) _
  refine (concat_any w0.heap.size m c ps _ hm (by simp) ?_ ?_ htot hmm).mono ?_
  · intro i p hp
    subst hcs
    have hi : i < ps.length := (List.getElem?_eq_some_iff.1 hp).1
    simp [hp]
  · intro i p hp
    exact (hok p (List.mem_of_getElem? hp)).later hb0
  · rintro e w' ⟨v, rfl, hown, hb⟩
    obtain ⟨p, rfl, h1, h2⟩ := Part.of_own hown
    exact ⟨p, rfl, h1, hown.down (by simp), h2, hb0.trans (hb.mono (by simp))⟩
end Go.Proofs.YtiiepmljcjbflaaGreat
