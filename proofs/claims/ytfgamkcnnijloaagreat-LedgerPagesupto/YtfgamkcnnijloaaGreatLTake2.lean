/- take of a ledger, a batch that opens one (by genltake.py). -/
import Derived.Test.YtfgamkcnnijloaaGreatTk
import Derived.Test.YtfgamkcnnijloaaGreatPZTk
import Derived.Deep.RegionHeld3
import Derived.OrdersHeld
namespace Go.Proofs.YtfgamkcnnijloaaGreat
open Go.RowKit Go.Shelf
variable {w w' : World} {L t M n N : Nat} {vr vo va : Value} {g : Lg}

set_option maxRecDepth 20000 in
set_option maxHeartbeats 4000000 in
theorem take_o (h : LPic0 w L t M n N vr vo va g) (hN : N ≤ w.heap.size) (hn : n < maxLen) (p e q : Int) (rs : List Rec) (ad : Option Addr) (len cap : Nat) (hB : BArg w ⟨1, p, e, q, true, rs⟩ ad len cap) (hT : RTyp w ad len) (hck : checkN ⟨1, p, e, q, true, rs⟩ = 0) (hf0 : 0 ≤ g.fin ∧ g.fin ≤ 281474976710656) (hrb : (g.rows.length + 64) * 64 ≤ 140737488355328) (hob : g.opn.length + 1 ≤ maxLen ∧ (g.opn.length + 1) * 16 ≤ 140737488355328) (hop : opAt p g.opn = none) (G : Lg) (hG : G = takeB g ⟨1, p, e, q, true, rs⟩) :
    Calls Tryz.prog 27 #[.pointer (some ⟨L, 0, none⟩), .agg #[.int .i64 1, .int .i64 p, .int .i64 e, .int .i64 q, .bool true, .slice ad len cap]] w fun x w' => x = .returned (.tuple #[]) ∧ ∃ vr' vo' va', LPic0 w' L t M (n + 1) N vr' vo' va' G ∧ Chg (L :: M :: (vr.ownBlock.toList ++ (vo.ownBlock.toList ++ va.ownBlock.toList))) w w' ∧ NewB w vr vr' ∧ NewB w vo vo' ∧ NewB w va va' := by
  subst hG
  obtain ⟨W0, hW0⟩ : ∃ W0, w.alloc (.cells #[.int .i64 1, .int .i64 p, .int .i64 e, .int .i64 q, .bool true, .slice ad len cap] 30) = W0 := ⟨_, rfl⟩
  have b0 : Below w.heap.size w W0 := by rw [← hW0]; exact (Below.refl _ _).alloc (Nat.le_refl _) _
  have X0 : BBox W0 w.heap.size 1 p e q true (.slice ad len cap) := by rw [← hW0]; exact BBox.new w 1 p e q true _
  obtain ⟨fn, hfn⟩ : ∃ fn, g.fin = fn := ⟨_, rfl⟩
  have hl64 := (checkN_nums hck).2.2.2.2.2.2.2.1
  have hlen : rs.length = len := hB.len_eq
  have hl64' : len ≤ 64 := by rw [← hlen]; exact hl64
  have hLn : (if (1 : Int) == 2 || (1 : Int) == 3 then (1 : Int) else len) = lenN ⟨1, p, e, q, true, rs⟩ := by unfold lenN Bat.marker; rw [show (⟨1, p, e, q, true, rs⟩ : Bat).recs.length = len from hB.len_eq]
  have hz1 : 0 ≤ lenN ⟨1, p, e, q, true, rs⟩ ∧ lenN ⟨1, p, e, q, true, rs⟩ ≤ 64 := lenN_small hck
  obtain ⟨ln, hln⟩ : ∃ ln, lenN ⟨1, p, e, q, true, rs⟩ = ln := ⟨_, rfl⟩
  rw [hln] at hLn hz1
  obtain ⟨T1, hT1⟩ : ∃ T1, (notN g.tb ⟨1, p, e, q, true, rs⟩ fn).2 = T1 := ⟨_, rfl⟩
  have hNt := Note_any (h.later b0).tab.drew hn 1 p e q true rs ad len cap fn ((hB.later b0).drew)
  rw [hT1] at hNt
  generalize (notN g.tb ⟨1, p, e, q, true, rs⟩ fn).1 = en at hNt
  have HNt := hid hNt
  have HS1 : Hid (∀ W, Below W0.heap.size W0 W → (W.cell? ⟨L, 0, none⟩ = some (.pointer (some ⟨t, 0, none⟩))) ∧ W.cell? ⟨L, 2, none⟩ = some (.int .i64 fn) ∧ (W.cell? ⟨w.heap.size, 0, none⟩ = some (.int .i64 1)) ∧ W.cell? ⟨w.heap.size, 1, none⟩ = some (.int .i64 p) ∧ W.cell? ⟨w.heap.size, 2, none⟩ = some (.int .i64 e) ∧ W.cell? ⟨w.heap.size, 3, none⟩ = some (.int .i64 q) ∧ W.cell? ⟨w.heap.size, 4, none⟩ = some (.bool true) ∧ W.cell? ⟨w.heap.size, 5, none⟩ = some (.slice ad len cap)) := fun W hW => by
    have hx := X0.later hW
    have hp := (h.later b0).later hW
    exact ⟨hp.c0, by rw [← hfn]; exact hp.c2, hx.c0, hx.c1, hx.c2, hx.c3, hx.c4, hx.c5⟩
  have HTk : Hid (∀ W1, TPic W1 t M (n + 1) T1 → Chg [M] W0.drew W1 → TkI w L t M (n + 1) N vr vo va g T1 ⟨1, p, e, q, true, rs⟩ ad len cap 0 W1 vr) := fun W1 ht hc => by
    have hp := ((h.later b0).later (Below.refl _ W0).drew).tabbed ht hc
    have hM := h.tab.lt.2
    have hkr : ∀ (b : Nat) (cur : Array Value) (T : TypeId), W0.heap[b]? = some (.cells cur T (0, 0)) → W1.heap[b]? = W0.heap[b]? := fun b cur T hh => hc.block b (Array.getElem?_eq_some_iff.1 hh).1 (fun hm => by
      simp at hm
      subst hm
      obtain ⟨es, c, hm2⟩ := (h.later b0).tab.map.isMap
      rw [hm2] at hh; cases hh)
    have hT0 : RTyp W0 ad len := hT.keep (fun b cur hh => b0.block b (Array.getElem?_eq_some_iff.1 hh).1)
    refine ⟨?_, (hkr _ _ _ X0).trans X0, (hB.later b0).keep hT0 hc.size (fun b cur hh => hkr b cur _ hh), hT0.keep (fun b cur hh => hkr b cur _ hh), ?_, NewB.refl _ _, Nat.lt_of_lt_of_le X0.lt hc.size⟩
    · rw [List.take_zero, List.append_nil]
      exact hp
    · exact ((Chg.of (F := L :: M :: vr.ownBlock.toList) b0).drew).trans hc (fun k hk => Or.inl (by simp at hk; simp [hk]))
  have HA1 : Hid (∀ W1, TPic W1 t M (n + 1) T1 → Chg [M] W0.drew W1 → ((W1.cell? ⟨L, 0, none⟩ = some (.pointer (some ⟨t, 0, none⟩))) ∧ W1.cell? ⟨L, 2, none⟩ = some (.int .i64 fn) ∧ (W1.cell? ⟨w.heap.size, 0, none⟩ = some (.int .i64 1)) ∧ W1.cell? ⟨w.heap.size, 1, none⟩ = some (.int .i64 p) ∧ W1.cell? ⟨w.heap.size, 2, none⟩ = some (.int .i64 e) ∧ W1.cell? ⟨w.heap.size, 3, none⟩ = some (.int .i64 q) ∧ W1.cell? ⟨w.heap.size, 4, none⟩ = some (.bool true) ∧ W1.cell? ⟨w.heap.size, 5, none⟩ = some (.slice ad len cap)) ∧ TkI w L t M (n + 1) N vr vo va g T1 ⟨1, p, e, q, true, rs⟩ ad len cap 0 W1 vr) := fun W1 ht hc => by
    have hk := HTk.out W1 ht hc
    have hx := hk.box
    exact ⟨⟨hk.pic.c0, by rw [← hfn]; exact hk.pic.c2, hx.c0, hx.c1, hx.c2, hx.c3, hx.c4, hx.c5⟩, hk⟩
  have HB0 := hid b0
  have HTb : Hid ((notN g.tb ⟨1, p, e, q, true, rs⟩ g.fin).2 = T1) := by rw [hfn]; exact hT1
  have HFn := hid hfn
  have HLen := hid hlen
  have HLn := hid hLn
  have HLnN := hid hln
  have HNN := hid hN
  have HSz := hid X0.lt
  have HLw0 := hid h.lt
  have HLw : Hid (w.heap.size ≠ L) := fun e => by have := HLw0.out; omega
  rw [hfn] at hf0
  have hwr : IntKind.i64.wrap (fn + ln) = fn + ln := by rw [IntKind.wrap_i64]; omega
  have HRb := hid hrb
  obtain ⟨ao, mo, co, hvo⟩ := h.opn.shape
  obtain ⟨aa, ma, ca, hva⟩ := h.gone.shape
  subst hvo hva
  have lx := X0.lt
  clear h hB hT hck X0 b0 hNt HTk hT1 hfn hlen hLn hln hl64 hN hrb hz1
  go_enter Tryz.func27, Tryz.ntmps27
  go_wp2_with fail
  refine wp_region_held_drew (S := fun W => (W.cell? ⟨L, 0, none⟩ = some (.pointer (some ⟨t, 0, none⟩))) ∧ W.cell? ⟨L, 2, none⟩ = some (.int .i64 fn) ∧ (W.cell? ⟨w.heap.size, 0, none⟩ = some (.int .i64 1)) ∧ W.cell? ⟨w.heap.size, 1, none⟩ = some (.int .i64 p) ∧ W.cell? ⟨w.heap.size, 2, none⟩ = some (.int .i64 e) ∧ W.cell? ⟨w.heap.size, 3, none⟩ = some (.int .i64 q) ∧ W.cell? ⟨w.heap.size, 4, none⟩ = some (.bool true) ∧ W.cell? ⟨w.heap.size, 5, none⟩ = some (.slice ad len cap)) (by kernel_rfl) (HS1.out _ (Below.refl _ W0).drew) (fun hHeld => ?_)
  refine tk 0 8 hHeld ?_
  try simp only [Act.put, p1, p2, p3]
  refine tk 1 9 hHeld ?_
  try simp only [Act.put, p1, p2, p3]
  refine tk 2 10 hHeld ?_
  try simp only [Act.put, p1, p2, p3]
  refine tk 3 11 hHeld ?_
  try simp only [Act.put, p1, p2, p3]
  refine tk 4 12 hHeld ?_
  try simp only [Act.put, p1, p2, p3]
  refine tk 5 13 hHeld ?_
  try simp only [Act.put, p1, p2, p3]
  refine tk 6 14 hHeld ?_
  try simp only [Act.put, p1, p2, p3]
  refine tk 7 15 hHeld ?_
  try simp only [Act.put, p1, p2, p3]
  refine tk 8 16 hHeld ?_
  try simp only [Act.put, p1, p2, p3]
  refine tk 9 17 hHeld ?_
  try simp only [Act.put, p1, p2, p3]
  refine wpAnyH_ready (rs := [10]) (by kernel_rfl) (by simp) ?_
  refine AllReadyH.cons rfl (fun K hK => ?_) (AllReadyH.nil)
  go_simp
  go_wp2_with (go_at_call 50; (with_reducible_and_instances (refine HNt.out.mono ?_)); rintro x W1 ⟨rfl, ht1, hc1⟩; obtain ⟨s1, k1⟩ := HA1.out W1 ht1 hc1; have HK1 := hid k1; clear k1 ht1 hc1)
  refine hK.out _ _ (s1) (fun hHeld => ?_)
  clear hK K
  try simp only [Act.put, p1, p2, p3]
  refine wpAnyH_done (by kernel_rfl) ?_ _
  clear hHeld s1
  have lL0 := HLw0.out
  have lw1 : w.heap.size < W1.heap.size := HK1.out.lt
  have r5 := HK1.out.box.c5
  go_wp2_with fail
  go_loopw [22] (fun ix wr => ∃ (j : Nat) (v : Value), j ≤ len ∧ ix = .int .i64 (j : Int) ∧ Hid (TkI w L t M (n + 1) N vr (.slice ao mo co) (.slice aa ma ca) g T1 ⟨1, p, e, q, true, rs⟩ ad len cap j wr v)) (fun ix _ => len - (intOf ix).toNat)
  case atStart => exact ⟨0, _, by omega, rfl, HK1⟩
  case round =>
    obtain ⟨j, v, hj, rfl, HK⟩ := hrel
    clear HK1 r5
    by_cases hjm : j < len
    · as_aux_lemma =>
        obtain ⟨ar, mr, cr, hv⟩ := HK.out.pic.rows.shape
        subst hv
        obtain ⟨gb, off, hadd, hbl, hcells⟩ := HK.out.arg.cells (by omega)
        obtain rfl := hadd
        obtain ⟨e0, e1, e2⟩ := hcells j hjm
        change wr.cell? _ = some (.string (rs.getD j rec0).key) at e0
        change wr.cell? _ = some (.string (rs.getD j rec0).val) at e1
        change wr.cell? _ = some (.bool (rs.getD j rec0).dead) at e2
        obtain ⟨ky, hky⟩ : ∃ ky, (rs.getD j rec0).key = ky := ⟨_, rfl⟩
        obtain ⟨vl, hvl⟩ : ∃ vl, (rs.getD j rec0).val = vl := ⟨_, rfl⟩
        obtain ⟨dd, hdd⟩ : ∃ dd, (rs.getD j rec0).dead = dd := ⟨_, rfl⟩
        rw [hky] at e0
        rw [hvl] at e1
        rw [hdd] at e2
        have HRec : Hid (rs.getD j rec0 = ⟨ky, vl, dd⟩) := by rw [← hky, ← hvl, ← hdd]; exact rfl
        obtain ⟨W4, hW4⟩ : ∃ W4, wr.alloc (.cells #[.string ky, .string vl, .bool dd] 43) = W4 := ⟨_, rfl⟩
        have b4 : Below wr.heap.size wr W4 := by rw [← hW4]; exact (Below.refl _ _).alloc (Nat.le_refl _) _
        have x4 : Blk W4 wr.heap.size #[.string ky, .string vl, .bool dd] 43 := by rw [← hW4]; exact heap_alloc_new wr _
        have HK4 := hid (HK.out.later b4)
        have HX4 := hid x4
        have HS5 : Hid (∀ W, Below W4.heap.size W4 W → (W.cell? ⟨L, 2, none⟩ = some (.int .i64 fn)) ∧ W.cell? ⟨w.heap.size, 1, none⟩ = some (.int .i64 p) ∧ W.cell? ⟨w.heap.size, 4, none⟩ = some (.bool true) ∧ W.cell? ⟨wr.heap.size, 0, none⟩ = some (.string ky) ∧ W.cell? ⟨wr.heap.size, 1, none⟩ = some (.string vl) ∧ W.cell? ⟨wr.heap.size, 2, none⟩ = some (.bool dd)) := fun W hW => by
          have hk := HK4.out.later hW
          have hx := HX4.out.later hW
          exact ⟨by rw [← HFn.out]; exact hk.pic.c2, hk.box.c1, hk.box.c4, hx.cell 0, hx.cell 1, hx.cell 2⟩
        have HL3 : Hid (∀ W, Below W4.heap.size W4 W → W.cell? ⟨L, 3, none⟩ = some (.slice ar mr cr)) := fun W hW => (HK4.out.later hW).pic.c3
        have HOr : Hid (∀ W, Below W4.heap.size W4 W → OwnK kRw W N (.slice ar mr cr) (g.rows ++ (rowsB g.fin ⟨1, p, e, q, true, rs⟩ rs).take j)) := fun W hW => (HK4.out.later hW).pic.rows
        have hlr : (g.rows ++ (rowsB g.fin ⟨1, p, e, q, true, rs⟩ rs).take j).length = g.rows.length + j := by
          rw [List.length_append, List.length_take, rowsB_len, HLen.out]; omega
        have HLe : Hid ((g.rows ++ (rowsB g.fin ⟨1, p, e, q, true, rs⟩ rs).take j).length + 1 ≤ maxLen ∧ ((g.rows ++ (rowsB g.fin ⟨1, p, e, q, true, rs⟩ rs).take j).length + 1) * 64 ≤ 140737488355328) := by
          rw [hlr]
          exact rows_room HRb.out (by omega)
        have HLe3 : Hid (N ≤ ((W4.alloc (.cells #[.int .i64 (fn + (j : Int)), .int .i64 p, .bool true, .string ky, .string vl, .bool dd] 51)).drew).heap.size) := by
          have h1 := HNN.out; have h2 := HK4.out.lt; have e : ((W4.alloc (.cells #[.int .i64 (fn + (j : Int)), .int .i64 p, .bool true, .string ky, .string vl, .bool dd] 51)).drew).heap.size = W4.heap.size + 1 := by simp [World.drew]
          rw [e]; exact (show N ≤ W4.heap.size + 1 by omega)
        have hbj : -9223372036854775808 ≤ fn + (j : Int) ∧ fn + (j : Int) ≤ 9223372036854775807 := by omega
        have hwj : IntKind.i64.wrap (fn + (j : Int)) = fn + (j : Int) := by rw [IntKind.wrap_i64]; omega
        have HAp : Hid (∀ (b3 c3 : Nat) (W5 : World), OwnK kRw W5 N (.slice (some ⟨b3, 0, none⟩) ((g.rows ++ (rowsB g.fin ⟨1, p, e, q, true, rs⟩ rs).take j).length + 1) c3) ((g.rows ++ (rowsB g.fin ⟨1, p, e, q, true, rs⟩ rs).take j) ++ [⟨fn + (j : Int), p, true, ⟨ky, vl, dd⟩⟩]) → ((W4.alloc (.cells #[.int .i64 (fn + (j : Int)), .int .i64 p, .bool true, .string ky, .string vl, .bool dd] 51)).drew).grownBy W5 (Value.slice ar mr cr).ownBlock → ((Value.slice ar mr cr).ownBlock = some b3 ∨ b3 = ((W4.alloc (.cells #[.int .i64 (fn + (j : Int)), .int .i64 p, .bool true, .string ky, .string vl, .bool dd] 51)).drew).heap.size) →
            W5.cell? ⟨L, 3, none⟩ = some (.slice ar mr cr) ∧ W5.frozen? ⟨L, 3, none⟩ = false ∧ ((W5.cell? ⟨L, 2, none⟩ = some (.int .i64 fn)) ∧ W5.cell? ⟨w.heap.size, 1, none⟩ = some (.int .i64 p) ∧ W5.cell? ⟨w.heap.size, 4, none⟩ = some (.bool true) ∧ W5.cell? ⟨wr.heap.size, 0, none⟩ = some (.string ky) ∧ W5.cell? ⟨wr.heap.size, 1, none⟩ = some (.string vl) ∧ W5.cell? ⟨wr.heap.size, 2, none⟩ = some (.bool dd)) ∧ (((W5.setCell ⟨L, 3, none⟩ (.slice (some ⟨b3, 0, none⟩) ((g.rows ++ (rowsB g.fin ⟨1, p, e, q, true, rs⟩ rs).take j).length + 1) c3)).cell? ⟨L, 2, none⟩ = some (.int .i64 fn)) ∧ (W5.setCell ⟨L, 3, none⟩ (.slice (some ⟨b3, 0, none⟩) ((g.rows ++ (rowsB g.fin ⟨1, p, e, q, true, rs⟩ rs).take j).length + 1) c3)).cell? ⟨w.heap.size, 1, none⟩ = some (.int .i64 p) ∧ (W5.setCell ⟨L, 3, none⟩ (.slice (some ⟨b3, 0, none⟩) ((g.rows ++ (rowsB g.fin ⟨1, p, e, q, true, rs⟩ rs).take j).length + 1) c3)).cell? ⟨w.heap.size, 4, none⟩ = some (.bool true) ∧ (W5.setCell ⟨L, 3, none⟩ (.slice (some ⟨b3, 0, none⟩) ((g.rows ++ (rowsB g.fin ⟨1, p, e, q, true, rs⟩ rs).take j).length + 1) c3)).cell? ⟨wr.heap.size, 0, none⟩ = some (.string ky) ∧ (W5.setCell ⟨L, 3, none⟩ (.slice (some ⟨b3, 0, none⟩) ((g.rows ++ (rowsB g.fin ⟨1, p, e, q, true, rs⟩ rs).take j).length + 1) c3)).cell? ⟨wr.heap.size, 1, none⟩ = some (.string vl) ∧ (W5.setCell ⟨L, 3, none⟩ (.slice (some ⟨b3, 0, none⟩) ((g.rows ++ (rowsB g.fin ⟨1, p, e, q, true, rs⟩ rs).take j).length + 1) c3)).cell? ⟨wr.heap.size, 2, none⟩ = some (.bool dd)) ∧ TkI w L t M (n + 1) N vr (.slice ao mo co) (.slice aa ma ca) g T1 ⟨1, p, e, q, true, rs⟩ (some ⟨gb, off, none⟩) len cap (j + 1) (W5.setCell ⟨L, 3, none⟩ (.slice (some ⟨b3, 0, none⟩) ((g.rows ++ (rowsB g.fin ⟨1, p, e, q, true, rs⟩ rs).take j).length + 1) c3)) (.slice (some ⟨b3, 0, none⟩) ((g.rows ++ (rowsB g.fin ⟨1, p, e, q, true, rs⟩ rs).take j).length + 1) c3)) := fun b3 c3 W5 hO hG hn => by
          have bA : Below W4.heap.size W4 ((W4.alloc (.cells #[.int .i64 (fn + (j : Int)), .int .i64 p, .bool true, .string ky, .string vl, .bool dd] 51)).drew) := ((Below.refl _ W4).alloc (Nat.le_refl _) _).drew
          have hk := HK4.out.later bA
          rw [← HRec.out, ← HFn.out] at hO
          obtain ⟨y1, y2, y3, y4⟩ := hk.app hjm hO hG hn
          have hx := HX4.out.later bA
          have hbx : ∃ cs, Blk ((W4.alloc (.cells #[.int .i64 (fn + (j : Int)), .int .i64 p, .bool true, .string ky, .string vl, .bool dd] 51)).drew) L cs TLg := ⟨_, hk.pic.box⟩
          have kx := app_keep (k := 3) (v3 := (.slice (some ⟨b3, 0, none⟩) ((g.rows ++ (rowsB g.fin ⟨1, p, e, q, true, rs⟩ rs).take j).length + 1) c3)) hk.pic.rows hbx hG _ _ _ hx (by decide) (by decide)
          have kb := app_keep (k := 3) (v3 := (.slice (some ⟨b3, 0, none⟩) ((g.rows ++ (rowsB g.fin ⟨1, p, e, q, true, rs⟩ rs).take j).length + 1) c3)) hk.pic.rows hbx hG _ _ _ hk.box (by decide) (by decide)
          have x5 : Blk W5 wr.heap.size #[.string ky, .string vl, .bool dd] 43 := kx.1.trans hx
          have x6 : Blk (W5.setCell ⟨L, 3, none⟩ (.slice (some ⟨b3, 0, none⟩) ((g.rows ++ (rowsB g.fin ⟨1, p, e, q, true, rs⟩ rs).take j).length + 1) c3)) wr.heap.size #[.string ky, .string vl, .bool dd] 43 := kx.2.trans hx
          have z5 : BBox W5 w.heap.size 1 p e q true (.slice _ len cap) := kb.1.trans hk.box
          have z6 := y4.box
          exact ⟨y1, y2, ⟨by rw [← HFn.out]; exact y3, z5.c1, z5.c4, x5.cell 0, x5.cell 1, x5.cell 2⟩, ⟨by rw [← HFn.out]; exact y4.pic.c2, z6.c1, z6.c4, x6.cell 0, x6.cell 1, x6.cell 2⟩, y4⟩
        have c2 := HK.out.pic.c2
        have lL4 : wr.heap.size < W4.heap.size := x4.lt
        clear hcells hky hvl hdd b4 x4 hlr HK c2
        generalize hRJ : g.rows ++ (rowsB g.fin ⟨1, p, e, q, true, rs⟩ rs).take j = RJ at *
        go_wp2_with fail
        refine wp_region_held_drew (S := fun W => (W.cell? ⟨L, 2, none⟩ = some (.int .i64 fn)) ∧ W.cell? ⟨w.heap.size, 1, none⟩ = some (.int .i64 p) ∧ W.cell? ⟨w.heap.size, 4, none⟩ = some (.bool true) ∧ W.cell? ⟨wr.heap.size, 0, none⟩ = some (.string ky) ∧ W.cell? ⟨wr.heap.size, 1, none⟩ = some (.string vl) ∧ W.cell? ⟨wr.heap.size, 2, none⟩ = some (.bool dd)) (by kernel_rfl) (HS5.out _ (Below.refl _ W4).drew) (fun hHeld => ?_)
        refine tk 0 27 hHeld ?_
        try simp only [Act.put, p1, p2, p3]
        refine tk 1 28 hHeld ?_
        try simp only [Act.put, p1, p2, p3]
        refine tk 2 29 hHeld ?_
        try simp only [Act.put, p1, p2, p3]
        refine tk 3 30 hHeld ?_
        try simp only [Act.put, p1, p2, p3]
        refine tk 5 32 hHeld ?_
        try simp only [Act.put, p1, p2, p3]
        refine tk 6 33 hHeld ?_
        try simp only [Act.put, p1, p2, p3]
        refine tk 7 34 hHeld ?_
        try simp only [Act.put, p1, p2, p3]
        refine tk 8 35 hHeld ?_
        try simp only [Act.put, p1, p2, p3]
        refine tk 9 36 hHeld ?_
        try simp only [Act.put, p1, p2, p3]
        refine tk 10 37 hHeld ?_
        try simp only [Act.put, p1, p2, p3]
        refine tk 11 38 hHeld ?_
        try simp only [Act.put, p1, p2, p3]
        refine tk 12 39 hHeld ?_
        try simp only [Act.put, p1, p2, p3]
        refine tk 13 40 hHeld ?_
        try simp only [Act.put, p1, p2, p3]
        refine tk 14 41 hHeld ?_
        try simp only [Act.put, p1, p2, p3]
        refine tk 15 42 hHeld ?_
        try simp only [Act.put, p1, p2, p3]
        refine wpAnyH_take (i := 16) (oi := ⟨some 43, _, _, _, _, _⟩) (v := .agg #[.int .i64 (fn + (j : Int)), .int .i64 p, .bool true, .string ky, .string vl, .bool dd]) rfl (by kernel_rfl) (by kernel_rfl) (by kernel_rfl) (fun _ _ _ h => h) (Or.inl ⟨by rfl, ?_⟩) hHeld ?_
        · intro w hSw; exact exec_row (.tmp 37) (.tmp 39) (.tmp 41) (.tmp 42) (by rfl) (by rfl) (by rfl) (by rfl) (by rfl)
        try simp only [Act.put, p1, p2, p3]
        refine wpAnyH_ready (rs := [4, 17]) (by kernel_rfl) (by simp) ?_
        refine AllReadyH.cons rfl (fun K hK => ?_) (AllReadyH.cons rfl (fun K hK => ?_) (AllReadyH.nil))
        · skip
          have q0 := HL3.out W4.drew (Below.refl _ W4).drew
          go_simp
          clear q0
          refine hK.out _ _ (HS5.out _ (Below.refl _ W4).drew) (fun hHeld => ?_)
          clear hK K
          try simp only [Act.put, p1, p2, p3]
          refine wpAnyH_ready (rs := [17]) (by kernel_rfl) (by simp) ?_
          refine AllReadyH.cons rfl (fun K hK => ?_) (AllReadyH.nil)
          refine step_bslice_row (by rfl) (.tmp 43) (by rfl) (by rfl) ?_
          refine hK.out _ _ (HS5.out _ (((Below.refl _ W4).alloc (Nat.le_refl _) (.cells #[.int .i64 (fn + (j : Int)), .int .i64 p, .bool true, .string ky, .string vl, .bool dd] 51)).drew)) (fun hHeld => ?_)
          clear hK K
          try simp only [Act.put, p1]
          refine wpAnyH_ready (rs := [18]) (by kernel_rfl) (by simp) ?_
          refine AllReadyH.cons rfl (fun K hK => ?_) (AllReadyH.nil)
          refine step_app_kd kRw_ok (by rfl) (.tmp 31) (.tmp 44) (by rfl) N (.slice ar mr cr) RJ (by rfl) (HOr.out _ (((Below.refl _ W4).alloc (Nat.le_refl _) (.cells #[.int .i64 (fn + (j : Int)), .int .i64 p, .bool true, .string ky, .string vl, .bool dd] 51)).drew)) W4.heap.size ⟨fn + (j : Int), p, true, ⟨ky, vl, dd⟩⟩ (by rfl) (rw_row W4 ⟨fn + (j : Int), p, true, ⟨ky, vl, dd⟩⟩) HLe.out.1 HLe.out.2 HLe3.out ?_
          intro b3 c3 W5 hO5 hG5 hN5
          obtain ⟨y1, y2, y3, y4⟩ := HAp.out b3 c3 W5 hO5 hG5 hN5
          have HY := hid y4
          clear hO5 hG5 hN5 y4
          refine hK.out _ _ (y3) (fun hHeld => ?_)
          clear hK K
          refine tk 19 46 hHeld ?_
          refine tk 20 47 hHeld ?_
          refine wpAnyH_ready (rs := [21]) (by kernel_rfl) (by simp) ?_
          refine AllReadyH.cons rfl (fun K hK => ?_) (AllReadyH.nil)
          go_simp
          refine hK.out _ _ (HY.out.1) (fun hHeld => ?_)
          clear hK K
          refine wpAnyH_done (by kernel_rfl) ?_ _
          clear hHeld
          go_wp2_with fail
          refine ⟨⟨j + 1, _, by omega, by go_num, hid HY.out.2⟩, by simp [intOf]; omega⟩
        · skip
          refine step_bslice_row (by rfl) (.tmp 43) (by rfl) (by rfl) ?_
          refine hK.out _ _ (HS5.out _ (((Below.refl _ W4).alloc (Nat.le_refl _) (.cells #[.int .i64 (fn + (j : Int)), .int .i64 p, .bool true, .string ky, .string vl, .bool dd] 51)).drew)) (fun hHeld => ?_)
          clear hK K
          try simp only [Act.put, p1]
          refine wpAnyH_ready (rs := [4]) (by kernel_rfl) (by simp) ?_
          refine AllReadyH.cons rfl (fun K hK => ?_) (AllReadyH.nil)
          have q0 := HL3.out (W4.alloc (.cells #[.int .i64 (fn + (j : Int)), .int .i64 p, .bool true, .string ky, .string vl, .bool dd] 51)).drew (((Below.refl _ W4).alloc (Nat.le_refl _) (.cells #[.int .i64 (fn + (j : Int)), .int .i64 p, .bool true, .string ky, .string vl, .bool dd] 51)).drew)
          go_simp
          clear q0
          refine hK.out _ _ (HS5.out _ (((Below.refl _ W4).alloc (Nat.le_refl _) (.cells #[.int .i64 (fn + (j : Int)), .int .i64 p, .bool true, .string ky, .string vl, .bool dd] 51)).drew)) (fun hHeld => ?_)
          clear hK K
          try simp only [Act.put, p1, p2, p3]
          refine wpAnyH_ready (rs := [18]) (by kernel_rfl) (by simp) ?_
          refine AllReadyH.cons rfl (fun K hK => ?_) (AllReadyH.nil)
          refine step_app_kd kRw_ok (by rfl) (.tmp 31) (.tmp 44) (by rfl) N (.slice ar mr cr) RJ (by rfl) (HOr.out _ (((Below.refl _ W4).alloc (Nat.le_refl _) (.cells #[.int .i64 (fn + (j : Int)), .int .i64 p, .bool true, .string ky, .string vl, .bool dd] 51)).drew)) W4.heap.size ⟨fn + (j : Int), p, true, ⟨ky, vl, dd⟩⟩ (by rfl) (rw_row W4 ⟨fn + (j : Int), p, true, ⟨ky, vl, dd⟩⟩) HLe.out.1 HLe.out.2 HLe3.out ?_
          intro b3 c3 W5 hO5 hG5 hN5
          obtain ⟨y1, y2, y3, y4⟩ := HAp.out b3 c3 W5 hO5 hG5 hN5
          have HY := hid y4
          clear hO5 hG5 hN5 y4
          refine hK.out _ _ (y3) (fun hHeld => ?_)
          clear hK K
          refine tk 19 46 hHeld ?_
          refine tk 20 47 hHeld ?_
          refine wpAnyH_ready (rs := [21]) (by kernel_rfl) (by simp) ?_
          refine AllReadyH.cons rfl (fun K hK => ?_) (AllReadyH.nil)
          go_simp
          refine hK.out _ _ (HY.out.1) (fun hHeld => ?_)
          clear hK K
          refine wpAnyH_done (by kernel_rfl) ?_ _
          clear hHeld
          go_wp2_with fail
          refine ⟨⟨j + 1, _, by omega, by go_num, hid HY.out.2⟩, by simp [intOf]; omega⟩
    · obtain rfl : j = len := by omega
      as_aux_lemma =>
        have HTf : Hid ((rowsB g.fin ⟨1, p, e, q, true, rs⟩ rs).take j = rowsB g.fin ⟨1, p, e, q, true, rs⟩ rs) := List.take_of_length_le (by rw [rowsB_len, HLen.out]; omega)
        have r0 := HK.out.box.c0
        have r1 := HK.out.box.c1
        have r2 := HK.out.box.c2
        have r3 := HK.out.box.c3
        have r4 := HK.out.box.c4
        have r5 := HK.out.box.c5
        have lw := HK.out.lt
        have HFo := hid (findOpen_any HK.out.pic p)
        have HOi := hid (opI_of p g.opn)
        obtain ⟨z, hz0⟩ : ∃ z, opI p g.opn = z := ⟨_, rfl⟩
        change Hid (Calls _ _ _ _ (fun e w' => e = .returned (.tuple #[.int .i64 (opI p g.opn), .bool (decide (0 ≤ opI p g.opn))]) ∧ _)) at HFo
        rw [hz0] at HFo HOi
        clear hz0
        have hz : decide (0 ≤ z) = false := by rcases HOi.out with ⟨-, e2⟩ | ⟨i', e1, -, -⟩; (rw [e2]; rfl); (rw [e1] at hop; cases hop)
        have HHop := hid hop
        clear hop
        go_wp2_with (first
          | (go_at_call 46; (with_reducible_and_instances (refine HFo.out.mono ?_)); rintro x W2 ⟨rfl, hb2⟩; have HK2 := hid (HK.out.later hb2); clear hb2 r0 r1 r2 r3 r4 r5; have r0 := HK2.out.box.c0; have r1 := HK2.out.box.c1; have r2 := HK2.out.box.c2; have r3 := HK2.out.box.c3; have r4 := HK2.out.box.c4; have r5 := HK2.out.box.c5)
          | (go_at_call 47; (with_reducible_and_instances (refine (mark13_any 1 p e q true ad j cap _).mono ?_)); rintro x W3 ⟨rfl, hw3⟩; have HK3 : Hid (TkI w L t M (n + 1) N vr (.slice ao mo co) (.slice aa ma ca) g T1 ⟨1, p, e, q, true, rs⟩ ad j cap j W3 v) := (by rw [hw3]; exact HK2.out.later ((Below.refl _ _).alloc (Nat.le_refl _) _)); clear hw3 r0 r1 r2 r3 r4 r5; have r4 := HK3.out.box.c4))
        have HPw := hid HK3.out.pic
        have HXw := hid HK3.out.box
        have HCw : Hid (Chg (L :: M :: (vr.ownBlock.toList ++ ((Value.slice ao mo co).ownBlock.toList ++ (Value.slice aa ma ca).ownBlock.toList))) w W3) := HK3.out.chg.mono (by intro x hx; simp only [List.mem_cons, List.mem_append] at hx ⊢; rcases hx with h | h | h <;> simp [h])
        have HNw := hid HK3.out.new
        have HSw := hid HK3.out.chg.size
        have HS11 : Hid (∀ W, Below W3.heap.size W3 W → (W.cell? ⟨L, 2, none⟩ = some (.int .i64 fn)) ∧ (W.cell? ⟨w.heap.size, 0, none⟩ = some (.int .i64 1)) ∧ W.cell? ⟨w.heap.size, 1, none⟩ = some (.int .i64 p) ∧ W.cell? ⟨w.heap.size, 2, none⟩ = some (.int .i64 e) ∧ W.cell? ⟨w.heap.size, 3, none⟩ = some (.int .i64 q) ∧ W.cell? ⟨w.heap.size, 4, none⟩ = some (.bool true) ∧ W.cell? ⟨w.heap.size, 5, none⟩ = some (.slice ad j cap)) := fun W hW => by
          have hx := HXw.out.later hW
          exact ⟨by rw [← HFn.out]; exact (HPw.out.later hW).c2, hx.c0, hx.c1, hx.c2, hx.c3, hx.c4, hx.c5⟩
        have HL4 : Hid (∀ W, Below W3.heap.size W3 W → W.cell? ⟨L, 4, none⟩ = some (.slice ao mo co)) := fun W hW => (HPw.out.later hW).c4
        have HOo : Hid (∀ W, Below W3.heap.size W3 W → OwnK kTx W N (.slice ao mo co) g.opn) := fun W hW => (HPw.out.later hW).opn
        have HNo : Hid (N ≤ ((W3.alloc (.cells #[.int .i64 p, .int .i64 fn] 82)).drew).heap.size) := by have h1 := HNN.out; have h2 := HK3.out.lt; have e : ((W3.alloc (.cells #[.int .i64 p, .int .i64 fn] 82)).drew).heap.size = W3.heap.size + 1 := (by simp [World.drew]); rw [e]; exact (show N ≤ W3.heap.size + 1 by omega)
        have HAo : Hid (∀ (b6 c6 : Nat) (W6 : World), OwnK kTx W6 N (.slice (some ⟨b6, 0, none⟩) (g.opn.length + 1) c6) (g.opn ++ [⟨p, fn⟩]) → ((W3.alloc (.cells #[.int .i64 p, .int .i64 fn] 82)).drew).grownBy W6 (Value.slice ao mo co).ownBlock → ((Value.slice ao mo co).ownBlock = some b6 ∨ b6 = ((W3.alloc (.cells #[.int .i64 p, .int .i64 fn] 82)).drew).heap.size) →
            W6.cell? ⟨L, 4, none⟩ = some (.slice ao mo co) ∧ W6.frozen? ⟨L, 4, none⟩ = false ∧ ((W6.cell? ⟨L, 2, none⟩ = some (.int .i64 fn)) ∧ (W6.cell? ⟨w.heap.size, 0, none⟩ = some (.int .i64 1)) ∧ W6.cell? ⟨w.heap.size, 1, none⟩ = some (.int .i64 p) ∧ W6.cell? ⟨w.heap.size, 2, none⟩ = some (.int .i64 e) ∧ W6.cell? ⟨w.heap.size, 3, none⟩ = some (.int .i64 q) ∧ W6.cell? ⟨w.heap.size, 4, none⟩ = some (.bool true) ∧ W6.cell? ⟨w.heap.size, 5, none⟩ = some (.slice ad j cap)) ∧ (((W6.setCell ⟨L, 4, none⟩ (.slice (some ⟨b6, 0, none⟩) (g.opn.length + 1) c6)).cell? ⟨L, 2, none⟩ = some (.int .i64 fn)) ∧ ((W6.setCell ⟨L, 4, none⟩ (.slice (some ⟨b6, 0, none⟩) (g.opn.length + 1) c6)).cell? ⟨w.heap.size, 0, none⟩ = some (.int .i64 1)) ∧ (W6.setCell ⟨L, 4, none⟩ (.slice (some ⟨b6, 0, none⟩) (g.opn.length + 1) c6)).cell? ⟨w.heap.size, 1, none⟩ = some (.int .i64 p) ∧ (W6.setCell ⟨L, 4, none⟩ (.slice (some ⟨b6, 0, none⟩) (g.opn.length + 1) c6)).cell? ⟨w.heap.size, 2, none⟩ = some (.int .i64 e) ∧ (W6.setCell ⟨L, 4, none⟩ (.slice (some ⟨b6, 0, none⟩) (g.opn.length + 1) c6)).cell? ⟨w.heap.size, 3, none⟩ = some (.int .i64 q) ∧ (W6.setCell ⟨L, 4, none⟩ (.slice (some ⟨b6, 0, none⟩) (g.opn.length + 1) c6)).cell? ⟨w.heap.size, 4, none⟩ = some (.bool true) ∧ (W6.setCell ⟨L, 4, none⟩ (.slice (some ⟨b6, 0, none⟩) (g.opn.length + 1) c6)).cell? ⟨w.heap.size, 5, none⟩ = some (.slice ad j cap)) ∧ LPic0 (W6.setCell ⟨L, 4, none⟩ (.slice (some ⟨b6, 0, none⟩) (g.opn.length + 1) c6)) L t M (n + 1) N v (.slice (some ⟨b6, 0, none⟩) (g.opn.length + 1) c6) (.slice aa ma ca) { g with tb := T1, rows := g.rows ++ (rowsB g.fin ⟨1, p, e, q, true, rs⟩ rs).take j, opn := g.opn ++ [⟨p, fn⟩] } ∧ BBox (W6.setCell ⟨L, 4, none⟩ (.slice (some ⟨b6, 0, none⟩) (g.opn.length + 1) c6)) w.heap.size 1 p e q true (.slice ad j cap) ∧ Chg (L :: M :: (vr.ownBlock.toList ++ ((Value.slice ao mo co).ownBlock.toList ++ (Value.slice aa ma ca).ownBlock.toList))) w (W6.setCell ⟨L, 4, none⟩ (.slice (some ⟨b6, 0, none⟩) (g.opn.length + 1) c6)) ∧ NewB w vr v ∧ NewB w (.slice ao mo co) (.slice (some ⟨b6, 0, none⟩) (g.opn.length + 1) c6) ∧ NewB w (.slice aa ma ca) (.slice aa ma ca)) := fun b6 c6 W6 hO hG hn => by
          have bA : Below W3.heap.size W3 ((W3.alloc (.cells #[.int .i64 p, .int .i64 fn] 82)).drew) := ((Below.refl _ W3).alloc (Nat.le_refl _) _).drew
          have hp := HPw.out.later bA
          have hx := HXw.out.later bA
          obtain ⟨q1, q2, q3⟩ := hp.opned hG hO
          have hbx : ∃ cs, Blk ((W3.alloc (.cells #[.int .i64 p, .int .i64 fn] 82)).drew) L cs TLg := ⟨_, hp.box⟩
          have kb := app_keep (k := 4) (v3 := (.slice (some ⟨b6, 0, none⟩) (g.opn.length + 1) c6)) hp.opn hbx hG _ _ _ hx (by decide) (by decide)
          have z5 : BBox W6 w.heap.size 1 p e q true (.slice ad j cap) := kb.1.trans hx
          have z6 : BBox (W6.setCell ⟨L, 4, none⟩ (.slice (some ⟨b6, 0, none⟩) (g.opn.length + 1) c6)) w.heap.size 1 p e q true (.slice ad j cap) := kb.2.trans hx
          have hb2 : Blk W6 L #[.pointer (some ⟨t, 0, none⟩), .int .i64 g.start, .int .i64 g.fin, v, .slice ao mo co, .slice aa ma ca] TLg := (hG.block L hp.lt (fun e => (hp.apart.2.2.2.2.1 L e.symm).1 rfl)).trans hp.box
          refine ⟨q2, q3, ⟨by rw [← HFn.out]; exact hb2.cell 2, z5.c0, z5.c1, z5.c2, z5.c3, z5.c4, z5.c5⟩, ⟨by rw [← HFn.out]; exact q1.c2, z6.c0, z6.c1, z6.c2, z6.c3, z6.c4, z6.c5⟩, q1, z6, ?_, HNw.out, fun x hx => ?_, NewB.refl _ _⟩
          · exact (fin_chg HCw.out hG).mono (by intro x hx; simp only [List.mem_append, List.mem_cons] at hx ⊢; rcases hx with (h | h | h | h | h) | h | h <;> simp [h])
          · cases hx
            rcases hn with h | h
            · exact Or.inl h
            · right; have e : ((W3.alloc (.cells #[.int .i64 p, .int .i64 fn] 82)).drew).heap.size = W3.heap.size + 1 := by simp [World.drew]
              rw [e] at h; show w.heap.size ≤ b6; have := HSw.out; omega
        have HFv : Hid (({ g with tb := T1, rows := g.rows ++ (rowsB g.fin ⟨1, p, e, q, true, rs⟩ rs).take j, opn := g.opn ++ [⟨p, fn⟩] } : Lg).fin = fn) := HFn.out
        have HGv : Hid ({ ({ g with tb := T1, rows := g.rows ++ (rowsB g.fin ⟨1, p, e, q, true, rs⟩ rs).take j, opn := g.opn ++ [⟨p, fn⟩] } : Lg) with fin := fn + ln } = takeB g ⟨1, p, e, q, true, rs⟩) := by rw [HTf.out]; exact takeB_o HHop.out HTb.out HFn.out HLnN.out
        clear HK3 HK2 HK HFo
        refine wp_region_held_drew (S := fun W => (W.cell? ⟨L, 2, none⟩ = some (.int .i64 fn)) ∧ (W.cell? ⟨w.heap.size, 0, none⟩ = some (.int .i64 1)) ∧ W.cell? ⟨w.heap.size, 1, none⟩ = some (.int .i64 p) ∧ W.cell? ⟨w.heap.size, 2, none⟩ = some (.int .i64 e) ∧ W.cell? ⟨w.heap.size, 3, none⟩ = some (.int .i64 q) ∧ W.cell? ⟨w.heap.size, 4, none⟩ = some (.bool true) ∧ W.cell? ⟨w.heap.size, 5, none⟩ = some (.slice ad j cap)) (by kernel_rfl) (HS11.out _ (Below.refl _ W3).drew) (fun hHeld => ?_)
        refine tk 0 74 hHeld ?_
        try simp only [Act.put, p1, p2, p3]
        refine tk 1 75 hHeld ?_
        try simp only [Act.put, p1, p2, p3]
        refine tk 2 76 hHeld ?_
        try simp only [Act.put, p1, p2, p3]
        refine tk 3 77 hHeld ?_
        try simp only [Act.put, p1, p2, p3]
        refine tk 5 79 hHeld ?_
        try simp only [Act.put, p1, p2, p3]
        refine tk 6 80 hHeld ?_
        try simp only [Act.put, p1, p2, p3]
        refine tk 7 81 hHeld ?_
        try simp only [Act.put, p1, p2, p3]
        refine tk 8 82 hHeld ?_
        try simp only [Act.put, p1, p2, p3]
        refine tk 9 83 hHeld ?_
        try simp only [Act.put, p1, p2, p3]
        refine tk 10 84 hHeld ?_
        try simp only [Act.put, p1, p2, p3]
        refine tk 11 85 hHeld ?_
        try simp only [Act.put, p1, p2, p3]
        refine wpAnyH_ready (rs := [4, 12]) (by kernel_rfl) (by simp) ?_
        refine AllReadyH.cons rfl (fun K hK => ?_) (AllReadyH.cons rfl (fun K hK => ?_) (AllReadyH.nil))
        · skip
          have q0 := HL4.out W3.drew (Below.refl _ W3).drew
          go_simp
          clear q0
          refine hK.out _ _ (HS11.out _ (Below.refl _ W3).drew) (fun hHeld => ?_)
          clear hK K
          try simp only [Act.put, p1, p2, p3]
          refine wpAnyH_ready (rs := [12]) (by kernel_rfl) (by simp) ?_
          refine AllReadyH.cons rfl (fun K hK => ?_) (AllReadyH.nil)
          go_simp
          refine hK.out _ _ (HS11.out _ (((Below.refl _ W3).alloc (Nat.le_refl _) (.cells #[.int .i64 p, .int .i64 fn] 82)).drew)) (fun hHeld => ?_)
          clear hK K
          try simp only [Act.put, p1, p2, p3]
          refine wpAnyH_ready (rs := [13]) (by kernel_rfl) (by simp) ?_
          refine AllReadyH.cons rfl (fun K hK => ?_) (AllReadyH.nil)
          refine step_app_kd kTx_ok (by rfl) (.tmp 78) (.tmp 86) (by rfl) N (.slice ao mo co) g.opn (by rfl) (HOo.out _ (((Below.refl _ W3).alloc (Nat.le_refl _) (.cells #[.int .i64 p, .int .i64 fn] 82)).drew)) W3.heap.size ⟨p, fn⟩ (by rfl) (tx_row W3 ⟨p, fn⟩) hob.1 hob.2 HNo.out ?_
          intro b6 c6 W6 hO6 hG6 hN6
          obtain ⟨y1, y2, y3, y4, y5⟩ := HAo.out b6 c6 W6 hO6 hG6 hN6
          have HY := hid y5
          clear hO6 hG6 hN6 y5
          refine hK.out _ _ (y3) (fun hHeld => ?_)
          clear hK K
          refine tk 14 88 hHeld ?_
          refine tk 15 89 hHeld ?_
          refine wpAnyH_ready (rs := [16]) (by kernel_rfl) (by simp) ?_
          refine AllReadyH.cons rfl (fun K hK => ?_) (AllReadyH.nil)
          go_simp
          refine hK.out _ _ (y4) (fun hHeld => ?_)
          clear hK K
          refine wpAnyH_done (by kernel_rfl) ?_ _
          clear hHeld
          obtain ⟨W7, hW7⟩ : ∃ W7, W6.setCell ⟨L, 4, none⟩ (.slice (some ⟨b6, 0, none⟩) (g.opn.length + 1) c6) = W7 := ⟨_, rfl⟩
          rw [hW7] at HY ⊢
          have HPv := hid HY.out.1
          have HXv := hid HY.out.2.1
          have HCv := hid HY.out.2.2.1
          have HNv := hid HY.out.2.2.2
          clear HY HPw HXw HCw HNw HL4 HS11 HOo HAo y1 y2 y3 y4
          go_wp2_with fail
          have HS12 : Hid (∀ W, Below W7.heap.size W7 W → (W.cell? ⟨w.heap.size, 0, none⟩ = some (.int .i64 1)) ∧ W.cell? ⟨w.heap.size, 1, none⟩ = some (.int .i64 p) ∧ W.cell? ⟨w.heap.size, 2, none⟩ = some (.int .i64 e) ∧ W.cell? ⟨w.heap.size, 3, none⟩ = some (.int .i64 q) ∧ W.cell? ⟨w.heap.size, 4, none⟩ = some (.bool true) ∧ W.cell? ⟨w.heap.size, 5, none⟩ = some (.slice ad j cap)) := fun W hW => (by have hx := HXv.out.later hW; exact ⟨hx.c0, hx.c1, hx.c2, hx.c3, hx.c4, hx.c5⟩)
          have HL2 : Hid (∀ W, Below W7.heap.size W7 W → W.cell? ⟨L, 2, none⟩ = some (.int .i64 fn) ∧ W.frozen? ⟨L, 2, none⟩ = false) := fun W hW => (by have hp := HPv.out.later hW; have h2 := hp.c2; rw [HFv.out] at h2; exact ⟨h2, hp.box.free 2⟩)
          refine wp_region_held_drew (S := fun W => (W.cell? ⟨w.heap.size, 0, none⟩ = some (.int .i64 1)) ∧ W.cell? ⟨w.heap.size, 1, none⟩ = some (.int .i64 p) ∧ W.cell? ⟨w.heap.size, 2, none⟩ = some (.int .i64 e) ∧ W.cell? ⟨w.heap.size, 3, none⟩ = some (.int .i64 q) ∧ W.cell? ⟨w.heap.size, 4, none⟩ = some (.bool true) ∧ W.cell? ⟨w.heap.size, 5, none⟩ = some (.slice ad j cap)) (by kernel_rfl) (HS12.out _ (Below.refl _ W7).drew) (fun hHeld => ?_)
          refine tk 0 90 hHeld ?_
          try simp only [Act.put, p1, p2, p3]
          refine tk 1 91 hHeld ?_
          try simp only [Act.put, p1, p2, p3]
          refine tk 2 92 hHeld ?_
          try simp only [Act.put, p1, p2, p3]
          refine tk 4 94 hHeld ?_
          try simp only [Act.put, p1, p2, p3]
          refine wpAnyH_ready (rs := [3, 5]) (by kernel_rfl) (by simp) ?_
          refine AllReadyH.cons rfl (fun K hK => ?_) (AllReadyH.cons rfl (fun K hK => ?_) (AllReadyH.nil))
          · skip
            have q0 := (HL2.out W7.drew (Below.refl _ W7).drew).1
            go_simp
            clear q0
            refine hK.out _ _ (HS12.out _ (Below.refl _ W7).drew) (fun hHeld => ?_)
            clear hK K
            try simp only [Act.put, p1, p2, p3]
            refine wpAnyH_ready (rs := [5]) (by kernel_rfl) (by simp) ?_
            refine AllReadyH.cons rfl (fun K hK => ?_) (AllReadyH.nil)
            go_simp
            go_wp2_with (go_at_call 49; (with_reducible_and_instances (refine (len_any 1 p e q true ad j cap _).mono ?_)); rintro x W9 ⟨rfl, hb9⟩; have HB9 := hid ((Below.refl _ W7).drew.trans hb9); clear hb9; rw [HLn.out])
            refine hK.out _ _ (HS12.out _ HB9.out) (fun hHeld => ?_)
            clear hK K
            try simp only [Act.put, p1, p2, p3]
            refine tk 6 96 hHeld ?_
            try simp only [Act.put, p1, p2, p3]
            refine tk 7 97 hHeld ?_
            try simp only [Act.put, p1, p2, p3]
            refine tk 8 98 hHeld ?_
            try simp only [Act.put, p1, p2, p3]
            refine wpAnyH_ready (rs := [9]) (by kernel_rfl) (by simp) ?_
            refine AllReadyH.cons rfl (fun K hK => ?_) (AllReadyH.nil)
            obtain ⟨y1, y2⟩ := HL2.out _ HB9.out
            go_simp
            refine hK.out _ _ ((box_set (HS12.out _ HB9.out) HLw.out)) (fun hHeld => ?_)
            clear hK K
            refine wpAnyH_done (by kernel_rfl) ?_ _
            clear hHeld
            go_wp2_with fail
            refine bodyPost_end (results_none rfl _ _ _) rfl ⟨rfl, _, _, _, by rw [← HGv.out]; exact (HPv.out.later HB9.out).fined _, ?_, HNv.out⟩
            exact (HCv.out.trans (Chg.of (F := []) HB9.out) (fun k hk => by cases hk)).set (Or.inl (by simp)) _ _
          · skip
            go_simp
            go_wp2_with (go_at_call 49; (with_reducible_and_instances (refine (len_any 1 p e q true ad j cap _).mono ?_)); rintro x W9 ⟨rfl, hb9⟩; have HB9 := hid ((Below.refl _ W7).drew.trans hb9); clear hb9; rw [HLn.out])
            refine hK.out _ _ (HS12.out _ HB9.out) (fun hHeld => ?_)
            clear hK K
            try simp only [Act.put, p1, p2, p3]
            refine wpAnyH_ready (rs := [3]) (by kernel_rfl) (by simp) ?_
            refine AllReadyH.cons rfl (fun K hK => ?_) (AllReadyH.nil)
            have q0 := (HL2.out W9 HB9.out).1
            go_simp
            clear q0
            refine hK.out _ _ (HS12.out _ HB9.out) (fun hHeld => ?_)
            clear hK K
            try simp only [Act.put, p1, p2, p3]
            refine tk 6 96 hHeld ?_
            try simp only [Act.put, p1, p2, p3]
            refine tk 7 97 hHeld ?_
            try simp only [Act.put, p1, p2, p3]
            refine tk 8 98 hHeld ?_
            try simp only [Act.put, p1, p2, p3]
            refine wpAnyH_ready (rs := [9]) (by kernel_rfl) (by simp) ?_
            refine AllReadyH.cons rfl (fun K hK => ?_) (AllReadyH.nil)
            obtain ⟨y1, y2⟩ := HL2.out _ HB9.out
            go_simp
            refine hK.out _ _ ((box_set (HS12.out _ HB9.out) HLw.out)) (fun hHeld => ?_)
            clear hK K
            refine wpAnyH_done (by kernel_rfl) ?_ _
            clear hHeld
            go_wp2_with fail
            refine bodyPost_end (results_none rfl _ _ _) rfl ⟨rfl, _, _, _, by rw [← HGv.out]; exact (HPv.out.later HB9.out).fined _, ?_, HNv.out⟩
            exact (HCv.out.trans (Chg.of (F := []) HB9.out) (fun k hk => by cases hk)).set (Or.inl (by simp)) _ _
        · skip
          go_simp
          refine hK.out _ _ (HS11.out _ (((Below.refl _ W3).alloc (Nat.le_refl _) (.cells #[.int .i64 p, .int .i64 fn] 82)).drew)) (fun hHeld => ?_)
          clear hK K
          try simp only [Act.put, p1, p2, p3]
          refine wpAnyH_ready (rs := [4]) (by kernel_rfl) (by simp) ?_
          refine AllReadyH.cons rfl (fun K hK => ?_) (AllReadyH.nil)
          have q0 := HL4.out (W3.alloc (.cells #[.int .i64 p, .int .i64 fn] 82)).drew (((Below.refl _ W3).alloc (Nat.le_refl _) (.cells #[.int .i64 p, .int .i64 fn] 82)).drew)
          go_simp
          clear q0
          refine hK.out _ _ (HS11.out _ (((Below.refl _ W3).alloc (Nat.le_refl _) (.cells #[.int .i64 p, .int .i64 fn] 82)).drew)) (fun hHeld => ?_)
          clear hK K
          try simp only [Act.put, p1, p2, p3]
          refine wpAnyH_ready (rs := [13]) (by kernel_rfl) (by simp) ?_
          refine AllReadyH.cons rfl (fun K hK => ?_) (AllReadyH.nil)
          refine step_app_kd kTx_ok (by rfl) (.tmp 78) (.tmp 86) (by rfl) N (.slice ao mo co) g.opn (by rfl) (HOo.out _ (((Below.refl _ W3).alloc (Nat.le_refl _) (.cells #[.int .i64 p, .int .i64 fn] 82)).drew)) W3.heap.size ⟨p, fn⟩ (by rfl) (tx_row W3 ⟨p, fn⟩) hob.1 hob.2 HNo.out ?_
          intro b6 c6 W6 hO6 hG6 hN6
          obtain ⟨y1, y2, y3, y4, y5⟩ := HAo.out b6 c6 W6 hO6 hG6 hN6
          have HY := hid y5
          clear hO6 hG6 hN6 y5
          refine hK.out _ _ (y3) (fun hHeld => ?_)
          clear hK K
          refine tk 14 88 hHeld ?_
          refine tk 15 89 hHeld ?_
          refine wpAnyH_ready (rs := [16]) (by kernel_rfl) (by simp) ?_
          refine AllReadyH.cons rfl (fun K hK => ?_) (AllReadyH.nil)
          go_simp
          refine hK.out _ _ (y4) (fun hHeld => ?_)
          clear hK K
          refine wpAnyH_done (by kernel_rfl) ?_ _
          clear hHeld
          obtain ⟨W7, hW7⟩ : ∃ W7, W6.setCell ⟨L, 4, none⟩ (.slice (some ⟨b6, 0, none⟩) (g.opn.length + 1) c6) = W7 := ⟨_, rfl⟩
          rw [hW7] at HY ⊢
          have HPv := hid HY.out.1
          have HXv := hid HY.out.2.1
          have HCv := hid HY.out.2.2.1
          have HNv := hid HY.out.2.2.2
          clear HY HPw HXw HCw HNw HL4 HS11 HOo HAo y1 y2 y3 y4
          go_wp2_with fail
          have HS12 : Hid (∀ W, Below W7.heap.size W7 W → (W.cell? ⟨w.heap.size, 0, none⟩ = some (.int .i64 1)) ∧ W.cell? ⟨w.heap.size, 1, none⟩ = some (.int .i64 p) ∧ W.cell? ⟨w.heap.size, 2, none⟩ = some (.int .i64 e) ∧ W.cell? ⟨w.heap.size, 3, none⟩ = some (.int .i64 q) ∧ W.cell? ⟨w.heap.size, 4, none⟩ = some (.bool true) ∧ W.cell? ⟨w.heap.size, 5, none⟩ = some (.slice ad j cap)) := fun W hW => (by have hx := HXv.out.later hW; exact ⟨hx.c0, hx.c1, hx.c2, hx.c3, hx.c4, hx.c5⟩)
          have HL2 : Hid (∀ W, Below W7.heap.size W7 W → W.cell? ⟨L, 2, none⟩ = some (.int .i64 fn) ∧ W.frozen? ⟨L, 2, none⟩ = false) := fun W hW => (by have hp := HPv.out.later hW; have h2 := hp.c2; rw [HFv.out] at h2; exact ⟨h2, hp.box.free 2⟩)
          refine wp_region_held_drew (S := fun W => (W.cell? ⟨w.heap.size, 0, none⟩ = some (.int .i64 1)) ∧ W.cell? ⟨w.heap.size, 1, none⟩ = some (.int .i64 p) ∧ W.cell? ⟨w.heap.size, 2, none⟩ = some (.int .i64 e) ∧ W.cell? ⟨w.heap.size, 3, none⟩ = some (.int .i64 q) ∧ W.cell? ⟨w.heap.size, 4, none⟩ = some (.bool true) ∧ W.cell? ⟨w.heap.size, 5, none⟩ = some (.slice ad j cap)) (by kernel_rfl) (HS12.out _ (Below.refl _ W7).drew) (fun hHeld => ?_)
          refine tk 0 90 hHeld ?_
          try simp only [Act.put, p1, p2, p3]
          refine tk 1 91 hHeld ?_
          try simp only [Act.put, p1, p2, p3]
          refine tk 2 92 hHeld ?_
          try simp only [Act.put, p1, p2, p3]
          refine tk 4 94 hHeld ?_
          try simp only [Act.put, p1, p2, p3]
          refine wpAnyH_ready (rs := [3, 5]) (by kernel_rfl) (by simp) ?_
          refine AllReadyH.cons rfl (fun K hK => ?_) (AllReadyH.cons rfl (fun K hK => ?_) (AllReadyH.nil))
          · skip
            have q0 := (HL2.out W7.drew (Below.refl _ W7).drew).1
            go_simp
            clear q0
            refine hK.out _ _ (HS12.out _ (Below.refl _ W7).drew) (fun hHeld => ?_)
            clear hK K
            try simp only [Act.put, p1, p2, p3]
            refine wpAnyH_ready (rs := [5]) (by kernel_rfl) (by simp) ?_
            refine AllReadyH.cons rfl (fun K hK => ?_) (AllReadyH.nil)
            go_simp
            go_wp2_with (go_at_call 49; (with_reducible_and_instances (refine (len_any 1 p e q true ad j cap _).mono ?_)); rintro x W9 ⟨rfl, hb9⟩; have HB9 := hid ((Below.refl _ W7).drew.trans hb9); clear hb9; rw [HLn.out])
            refine hK.out _ _ (HS12.out _ HB9.out) (fun hHeld => ?_)
            clear hK K
            try simp only [Act.put, p1, p2, p3]
            refine tk 6 96 hHeld ?_
            try simp only [Act.put, p1, p2, p3]
            refine tk 7 97 hHeld ?_
            try simp only [Act.put, p1, p2, p3]
            refine tk 8 98 hHeld ?_
            try simp only [Act.put, p1, p2, p3]
            refine wpAnyH_ready (rs := [9]) (by kernel_rfl) (by simp) ?_
            refine AllReadyH.cons rfl (fun K hK => ?_) (AllReadyH.nil)
            obtain ⟨y1, y2⟩ := HL2.out _ HB9.out
            go_simp
            refine hK.out _ _ ((box_set (HS12.out _ HB9.out) HLw.out)) (fun hHeld => ?_)
            clear hK K
            refine wpAnyH_done (by kernel_rfl) ?_ _
            clear hHeld
            go_wp2_with fail
            refine bodyPost_end (results_none rfl _ _ _) rfl ⟨rfl, _, _, _, by rw [← HGv.out]; exact (HPv.out.later HB9.out).fined _, ?_, HNv.out⟩
            exact (HCv.out.trans (Chg.of (F := []) HB9.out) (fun k hk => by cases hk)).set (Or.inl (by simp)) _ _
          · skip
            go_simp
            go_wp2_with (go_at_call 49; (with_reducible_and_instances (refine (len_any 1 p e q true ad j cap _).mono ?_)); rintro x W9 ⟨rfl, hb9⟩; have HB9 := hid ((Below.refl _ W7).drew.trans hb9); clear hb9; rw [HLn.out])
            refine hK.out _ _ (HS12.out _ HB9.out) (fun hHeld => ?_)
            clear hK K
            try simp only [Act.put, p1, p2, p3]
            refine wpAnyH_ready (rs := [3]) (by kernel_rfl) (by simp) ?_
            refine AllReadyH.cons rfl (fun K hK => ?_) (AllReadyH.nil)
            have q0 := (HL2.out W9 HB9.out).1
            go_simp
            clear q0
            refine hK.out _ _ (HS12.out _ HB9.out) (fun hHeld => ?_)
            clear hK K
            try simp only [Act.put, p1, p2, p3]
            refine tk 6 96 hHeld ?_
            try simp only [Act.put, p1, p2, p3]
            refine tk 7 97 hHeld ?_
            try simp only [Act.put, p1, p2, p3]
            refine tk 8 98 hHeld ?_
            try simp only [Act.put, p1, p2, p3]
            refine wpAnyH_ready (rs := [9]) (by kernel_rfl) (by simp) ?_
            refine AllReadyH.cons rfl (fun K hK => ?_) (AllReadyH.nil)
            obtain ⟨y1, y2⟩ := HL2.out _ HB9.out
            go_simp
            refine hK.out _ _ ((box_set (HS12.out _ HB9.out) HLw.out)) (fun hHeld => ?_)
            clear hK K
            refine wpAnyH_done (by kernel_rfl) ?_ _
            clear hHeld
            go_wp2_with fail
            refine bodyPost_end (results_none rfl _ _ _) rfl ⟨rfl, _, _, _, by rw [← HGv.out]; exact (HPv.out.later HB9.out).fined _, ?_, HNv.out⟩
            exact (HCv.out.trans (Chg.of (F := []) HB9.out) (fun k hk => by cases hk)).set (Or.inl (by simp)) _ _
end Go.Proofs.YtfgamkcnnijloaaGreat
