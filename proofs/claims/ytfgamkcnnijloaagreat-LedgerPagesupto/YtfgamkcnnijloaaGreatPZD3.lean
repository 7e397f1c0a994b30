/- decideBatch of a ledger, way 6 (by genldec.py). decideBatch of a ledger, what the table tells (by genldec.py). -/
import Derived.Test.YtfgamkcnnijloaaGreatTk
import Derived.Test.YtfgamkcnnijloaaGreatPZFd
import Derived.Deep.RegionHeld3
import Derived.OrdersHeld
namespace Go.Proofs.YtfgamkcnnijloaaGreat
open Go.RowKit Go.Shelf
variable {w w' : World} {L t M n N : Nat} {vr vo va : Value} {g : Lg}

set_option maxHeartbeats 2000000 in
theorem decB6 (h : LPic w L t M n N vr vo va g) (p e q : Int) (tx : Bool) (rs : List Rec) (ad : Option Addr) (len cap : Nat) (hB : BArg w ⟨1, p, e, q, tx, rs⟩ ad len cap) (o : Int) (hd : decN g.tb ⟨1, p, e, q, tx, rs⟩ = (o, false, 0)) (hz : decide (0 ≤ opI p g.opn) = false) (R : Int × Bool × Int) (hR : R = if 281474976710656 < g.fin + lenN ⟨1, p, e, q, tx, rs⟩ then (0, false, 53) else (g.fin, false, 0)) :
    Calls Tryz.prog 25 #[.pointer (some ⟨L, 0, none⟩), .agg #[.int .i64 1, .int .i64 p, .int .i64 e, .int .i64 q, .bool tx, .slice ad len cap]] w fun x w' => x = .returned (decV R) ∧ Below w.heap.size w w' := by
  obtain ⟨W0, hW0⟩ : ∃ W0, w.alloc (.cells #[.int .i64 1, .int .i64 p, .int .i64 e, .int .i64 q, .bool tx, .slice ad len cap] 30) = W0 := ⟨_, rfl⟩
  have b0 : Below w.heap.size w W0 := by rw [← hW0]; exact (Below.refl _ _).alloc (Nat.le_refl _) _
  have X0 : BBox W0 w.heap.size 1 p e q tx (.slice ad len cap) := by rw [← hW0]; exact BBox.new w 1 p e q tx _
  have HP := hid (h.later b0)
  have HD := hid (Decide_any (h.later b0).tab.drew 1 p e q tx rs ad len cap ((hB.later b0).drew))
  rw [show (⟨1, p, e, q, tx, rs⟩ : Bat) = ⟨1, p, e, q, tx, rs⟩ from rfl, hd] at HD
  unfold decV at HD
  dsimp only at HD
  have HCk := hid (dec_check hd)
  have hLn : (if (1 : Int) == 2 || (1 : Int) == 3 then (1 : Int) else len) = lenN ⟨1, p, e, q, tx, rs⟩ := by unfold lenN Bat.marker; rw [show (⟨1, p, e, q, tx, rs⟩ : Bat).recs.length = len from hB.len_eq]
  have hz1 : 0 ≤ lenN ⟨1, p, e, q, tx, rs⟩ ∧ lenN ⟨1, p, e, q, tx, rs⟩ ≤ 64 := lenN_small HCk.out
  have hf1 := h.ok.start
  have hf2 := h.ok.fin
  have lL := h.lt
  obtain ⟨fn, hfn⟩ : ∃ fn, g.fin = fn := ⟨_, rfl⟩
  obtain ⟨z, hz0⟩ : ∃ z, opI p g.opn = z := ⟨_, rfl⟩
  obtain ⟨ln, hln⟩ : ∃ ln, lenN ⟨1, p, e, q, tx, rs⟩ = ln := ⟨_, rfl⟩
  rw [hfn] at hf1 hf2
  rw [hz0] at hz
  rw [hln] at hLn hz1
  have HLn := hid hLn
  have HS : Hid (∀ W, Below W0.heap.size W0 W → (W.cell? ⟨L, 0, none⟩ = some (.pointer (some ⟨t, 0, none⟩))) ∧ W.cell? ⟨L, 2, none⟩ = some (.int .i64 fn) ∧ W.cell? ⟨w.heap.size, 0, none⟩ = some (.int .i64 1) ∧ W.cell? ⟨w.heap.size, 1, none⟩ = some (.int .i64 p) ∧ W.cell? ⟨w.heap.size, 2, none⟩ = some (.int .i64 e) ∧ W.cell? ⟨w.heap.size, 3, none⟩ = some (.int .i64 q) ∧ W.cell? ⟨w.heap.size, 4, none⟩ = some (.bool tx) ∧ W.cell? ⟨w.heap.size, 5, none⟩ = some (.slice ad len cap)) := fun W hW => by
    have hx := X0.later hW
    have hp := (h.later b0).later hW
    exact ⟨hp.c0, by rw [← hfn]; exact hp.c2, hx.c0, hx.c1, hx.c2, hx.c3, hx.c4, hx.c5⟩
  have HB0 := hid b0
  have s0 : w.heap.size < W0.heap.size := X0.lt
  have HRs := hid hR
  have HFz := hid hfn
  have HZz := hid hz0
  have HLz := hid hln
  have hwr : IntKind.i64.wrap (fn + ln) = fn + ln := by rw [IntKind.wrap_i64]; omega
  clear h hB hd b0 X0 hR hfn hz0 hln hLn
  go_enter Tryz.func25, Tryz.ntmps25
  go_wp2_with fail
  refine wp_region_held_drew (S := fun W => (W.cell? ⟨L, 0, none⟩ = some (.pointer (some ⟨t, 0, none⟩))) ∧ W.cell? ⟨L, 2, none⟩ = some (.int .i64 fn) ∧ W.cell? ⟨w.heap.size, 0, none⟩ = some (.int .i64 1) ∧ W.cell? ⟨w.heap.size, 1, none⟩ = some (.int .i64 p) ∧ W.cell? ⟨w.heap.size, 2, none⟩ = some (.int .i64 e) ∧ W.cell? ⟨w.heap.size, 3, none⟩ = some (.int .i64 q) ∧ W.cell? ⟨w.heap.size, 4, none⟩ = some (.bool tx) ∧ W.cell? ⟨w.heap.size, 5, none⟩ = some (.slice ad len cap)) (by kernel_rfl) (HS.out _ (Below.refl _ W0).drew) (fun hHeld => ?_)
  refine tk 0 11 hHeld ?_
  try simp only [Act.put, p1, p2, p3]
  refine tk 1 12 hHeld ?_
  try simp only [Act.put, p1, p2, p3]
  refine tk 2 13 hHeld ?_
  try simp only [Act.put, p1, p2, p3]
  refine tk 3 14 hHeld ?_
  try simp only [Act.put, p1, p2, p3]
  refine tk 4 15 hHeld ?_
  try simp only [Act.put, p1, p2, p3]
  refine tk 5 16 hHeld ?_
  try simp only [Act.put, p1, p2, p3]
  refine wpAnyH_ready (rs := [6]) (by kernel_rfl) (by simp) ?_
  refine AllReadyH.cons rfl (fun K hK => ?_) (AllReadyH.nil)
  go_simp
  go_wp2_with (go_at_call 45; (with_reducible_and_instances (refine HD.out.mono ?_)); rintro x W1 ⟨rfl, hb1⟩; have HB1 := hid ((Below.refl _ W0).drew.trans hb1); clear hb1)
  refine hK.out _ _ (HS.out _ HB1.out) (fun hHeld => ?_)
  clear hK K
  try simp only [Act.put, p1, p2, p3]
  refine tk 7 10 hHeld ?_
  try simp only [Act.put, p1, p2, p3]
  refine tk 8 18 hHeld ?_
  try simp only [Act.put, p1, p2, p3]
  refine tk 9 19 hHeld ?_
  try simp only [Act.put, p1, p2, p3]
  refine tk 10 20 hHeld ?_
  try simp only [Act.put, p1, p2, p3]
  refine tk 11 4 hHeld ?_
  try simp only [Act.put, p1, p2, p3]
  refine tk 12 7 hHeld ?_
  try simp only [Act.put, p1, p2, p3]
  refine tk 13 6 hHeld ?_
  try simp only [Act.put, p1, p2, p3]
  refine wpAnyH_done (by kernel_rfl) ?_ _
  clear hHeld
  have HF1 := hid (findOpen_any (HP.out.later HB1.out).toLPic0 p)
  rw [HZz.out] at HF1
  obtain ⟨q0, q2, r0, r1, r2, r3, r4, r5⟩ := HS.out _ HB1.out
  go_wp2_with (go_at_call 46; (with_reducible_and_instances (refine HF1.out.mono ?_)); rintro x W2 ⟨rfl, hb2⟩; have HB2 := hid (HB1.out.trans (hb2.mono HB1.out.size)); clear hb2 q0 q2 r0 r1 r2 r3 r4 r5)
  refine wp_region_held_drew (S := fun W => (W.cell? ⟨L, 0, none⟩ = some (.pointer (some ⟨t, 0, none⟩))) ∧ W.cell? ⟨L, 2, none⟩ = some (.int .i64 fn) ∧ W.cell? ⟨w.heap.size, 0, none⟩ = some (.int .i64 1) ∧ W.cell? ⟨w.heap.size, 1, none⟩ = some (.int .i64 p) ∧ W.cell? ⟨w.heap.size, 2, none⟩ = some (.int .i64 e) ∧ W.cell? ⟨w.heap.size, 3, none⟩ = some (.int .i64 q) ∧ W.cell? ⟨w.heap.size, 4, none⟩ = some (.bool tx) ∧ W.cell? ⟨w.heap.size, 5, none⟩ = some (.slice ad len cap)) (by kernel_rfl) (HS.out _ HB2.out.drew) (fun hHeld => ?_)
  refine tk 0 37 hHeld ?_
  try simp only [Act.put, p1, p2, p3]
  refine wpAnyH_ready (rs := [1]) (by kernel_rfl) (by simp) ?_
  refine AllReadyH.cons rfl (fun K hK => ?_) (AllReadyH.nil)
  go_simp
  go_wp2_with (go_at_call 47; (with_reducible_and_instances (refine (mark13_any 1 p e q tx ad len cap _).mono ?_)); rintro x W3 ⟨rfl, hw3⟩; have HB3 : Hid (Below W0.heap.size W0 W3) := (by rw [hw3]; exact (HB2.out).drew.alloc (HB2.out).size _); clear hw3)
  refine hK.out _ _ (HS.out _ HB3.out) (fun hHeld => ?_)
  clear hK K
  try simp only [Act.put, p1, p2, p3]
  refine tk 2 39 hHeld ?_
  try simp only [Act.put, p1, p2, p3]
  refine sk 3 40 hHeld ?_
  try simp only [Act.put, p1, p2, p3]
  refine sk 4 41 hHeld ?_
  try simp only [Act.put, p1, p2, p3]
  refine tk 5 42 hHeld ?_
  try simp only [Act.put, p1, p2, p3]
  refine tk 6 43 hHeld ?_
  try simp only [Act.put, p1, p2, p3]
  refine sk 7 44 hHeld ?_
  try simp only [Act.put, p1, p2, p3]
  refine sk 8 45 hHeld ?_
  try simp only [Act.put, p1, p2, p3]
  refine sk 9 46 hHeld ?_
  try simp only [Act.put, p1, p2, p3]
  refine sk 10 47 hHeld ?_
  try simp only [Act.put, p1, p2, p3]
  refine sk 11 48 hHeld ?_
  try simp only [Act.put, p1, p2, p3]
  refine sk 12 49 hHeld ?_
  try simp only [Act.put, p1, p2, p3]
  refine sk 13 50 hHeld ?_
  try simp only [Act.put, p1, p2, p3]
  refine sk 14 51 hHeld ?_
  try simp only [Act.put, p1, p2, p3]
  refine sk 15 52 hHeld ?_
  try simp only [Act.put, p1, p2, p3]
  refine tk 16 53 hHeld ?_
  try simp only [Act.put, p1, p2, p3]
  refine tk 17 36 hHeld ?_
  try simp only [Act.put, p1, p2, p3]
  refine wpAnyH_done (by kernel_rfl) ?_ _
  clear hHeld
  obtain ⟨q0, q2, r0, r1, r2, r3, r4, r5⟩ := HS.out _ HB3.out
  go_wp2_with (go_at_call 47; (with_reducible_and_instances (refine (mark13_any 1 p e q tx ad len cap _).mono ?_)); rintro x W6 ⟨rfl, hw6⟩; have HB6 : Hid (Below W0.heap.size W0 W6) := (by rw [hw6]; exact (HB3.out).alloc (HB3.out).size _); clear hw6 q0 q2 r0 r1 r2 r3 r4 r5; obtain ⟨q0, q2, r0, r1, r2, r3, r4, r5⟩ := HS.out _ HB6.out)
  clear q0 q2 r0 r1 r2 r3 r4 r5
  refine wp_region_held_drew (S := fun W => (W.cell? ⟨L, 0, none⟩ = some (.pointer (some ⟨t, 0, none⟩))) ∧ W.cell? ⟨L, 2, none⟩ = some (.int .i64 fn) ∧ W.cell? ⟨w.heap.size, 0, none⟩ = some (.int .i64 1) ∧ W.cell? ⟨w.heap.size, 1, none⟩ = some (.int .i64 p) ∧ W.cell? ⟨w.heap.size, 2, none⟩ = some (.int .i64 e) ∧ W.cell? ⟨w.heap.size, 3, none⟩ = some (.int .i64 q) ∧ W.cell? ⟨w.heap.size, 4, none⟩ = some (.bool tx) ∧ W.cell? ⟨w.heap.size, 5, none⟩ = some (.slice ad len cap)) (by kernel_rfl) (HS.out _ HB6.out.drew) (fun hHeld => ?_)
  refine tk 0 67 hHeld ?_
  try simp only [Act.put, p1, p2, p3]
  refine tk 1 68 hHeld ?_
  try simp only [Act.put, p1, p2, p3]
  refine tk 2 69 hHeld ?_
  try simp only [Act.put, p1, p2, p3]
  refine tk 3 70 hHeld ?_
  try simp only [Act.put, p1, p2, p3]
  refine tk 4 71 hHeld ?_
  try simp only [Act.put, p1, p2, p3]
  refine wpAnyH_ready (rs := [5]) (by kernel_rfl) (by simp) ?_
  refine AllReadyH.cons rfl (fun K hK => ?_) (AllReadyH.nil)
  go_simp
  go_wp2_with (go_at_call 49; (with_reducible_and_instances (refine (len_any 1 p e q tx ad len cap _).mono ?_)); rintro x W8 ⟨rfl, hb8⟩; have HB8 := hid ((HB6.out).drew.trans (hb8.mono (HB6.out).size)); clear hb8; rw [HLn.out])
  refine hK.out _ _ (HS.out _ HB8.out) (fun hHeld => ?_)
  clear hK K
  try simp only [Act.put, p1, p2, p3]
  refine tk 6 73 hHeld ?_
  try simp only [Act.put, p1, p2, p3]
  refine tk 7 74 hHeld ?_
  try simp only [Act.put, p1, p2, p3]
  refine tk 8 66 hHeld ?_
  try simp only [Act.put, p1, p2, p3]
  refine wpAnyH_done (by kernel_rfl) ?_ _
  clear hHeld
  obtain ⟨q0, q2, r0, r1, r2, r3, r4, r5⟩ := HS.out _ HB8.out
  rcases Int.lt_or_le 281474976710656 (fn + ln) with hov | hov
  · have HRv : Hid (R = (0, false, 53)) := by rw [HRs.out, HFz.out, HLz.out, if_pos hov]; exact rfl
    go_wp2_with fail
    refine bodyPost_ret (results_tmp3 Tryz.results25 _ _ _) rfl ⟨by rw [HRv.out]; rfl, HB0.out.trans (HB8.out.mono HB0.out.size)⟩
  · have HRv : Hid (R = (fn, false, 0)) := by rw [HRs.out, HFz.out, HLz.out, if_neg (by omega)]; exact rfl
    go_wp2_with fail
    refine bodyPost_ret (results_tmp3 Tryz.results25 _ _ _) rfl ⟨by rw [HRv.out]; rfl, HB0.out.trans (HB8.out.mono HB0.out.size)⟩
end Go.Proofs.YtfgamkcnnijloaaGreat
namespace Go.Proofs.YtfgamkcnnijloaaGreat
open Go.RowKit Go.Shelf
variable {w w' : World} {L t M n N : Nat} {vr vo va : Value} {g : Lg}

set_option maxHeartbeats 2000000 in
theorem decB7 (h : LPic w L t M n N vr vo va g) (k p e q : Int) (tx : Bool) (rs : List Rec) (ad : Option Addr) (len cap : Nat) (hB : BArg w ⟨k, p, e, q, tx, rs⟩ ad len cap) (o : Int) (dup : Bool) (er : Int) (hd : decN g.tb ⟨k, p, e, q, tx, rs⟩ = (o, dup, er)) (her : er ≠ 0) :
    Calls Tryz.prog 25 #[.pointer (some ⟨L, 0, none⟩), .agg #[.int .i64 k, .int .i64 p, .int .i64 e, .int .i64 q, .bool tx, .slice ad len cap]] w fun x w' => x = .returned (decV (o, dup, er)) ∧ Below w.heap.size w w' := by
  obtain ⟨W0, hW0⟩ : ∃ W0, w.alloc (.cells #[.int .i64 k, .int .i64 p, .int .i64 e, .int .i64 q, .bool tx, .slice ad len cap] 30) = W0 := ⟨_, rfl⟩
  have b0 : Below w.heap.size w W0 := by rw [← hW0]; exact (Below.refl _ _).alloc (Nat.le_refl _) _
  have X0 : BBox W0 w.heap.size k p e q tx (.slice ad len cap) := by rw [← hW0]; exact BBox.new w k p e q tx _
  have HD := hid (Decide_any (h.later b0).tab.drew k p e q tx rs ad len cap ((hB.later b0).drew))
  rw [hd] at HD
  unfold decV at HD
  dsimp only at HD
  obtain ⟨fn, hfn⟩ : ∃ fn, g.fin = fn := ⟨_, rfl⟩
  have HS : Hid (∀ W, Below W0.heap.size W0 W → (W.cell? ⟨L, 0, none⟩ = some (.pointer (some ⟨t, 0, none⟩))) ∧ W.cell? ⟨L, 2, none⟩ = some (.int .i64 fn) ∧ W.cell? ⟨w.heap.size, 0, none⟩ = some (.int .i64 k) ∧ W.cell? ⟨w.heap.size, 1, none⟩ = some (.int .i64 p) ∧ W.cell? ⟨w.heap.size, 2, none⟩ = some (.int .i64 e) ∧ W.cell? ⟨w.heap.size, 3, none⟩ = some (.int .i64 q) ∧ W.cell? ⟨w.heap.size, 4, none⟩ = some (.bool tx) ∧ W.cell? ⟨w.heap.size, 5, none⟩ = some (.slice ad len cap)) := fun W hW => by
    have hx := X0.later hW
    have hp := (h.later b0).later hW
    exact ⟨hp.c0, by rw [← hfn]; exact hp.c2, hx.c0, hx.c1, hx.c2, hx.c3, hx.c4, hx.c5⟩
  have HB0 := hid b0
  have lL := h.lt
  have s0 : w.heap.size < W0.heap.size := X0.lt
  clear h hB hd b0 X0 hfn
  have her' : (er == 0) = false := by simpa using her
  go_enter Tryz.func25, Tryz.ntmps25
  go_wp2_with fail
  refine wp_region_held_drew (S := fun W => (W.cell? ⟨L, 0, none⟩ = some (.pointer (some ⟨t, 0, none⟩))) ∧ W.cell? ⟨L, 2, none⟩ = some (.int .i64 fn) ∧ W.cell? ⟨w.heap.size, 0, none⟩ = some (.int .i64 k) ∧ W.cell? ⟨w.heap.size, 1, none⟩ = some (.int .i64 p) ∧ W.cell? ⟨w.heap.size, 2, none⟩ = some (.int .i64 e) ∧ W.cell? ⟨w.heap.size, 3, none⟩ = some (.int .i64 q) ∧ W.cell? ⟨w.heap.size, 4, none⟩ = some (.bool tx) ∧ W.cell? ⟨w.heap.size, 5, none⟩ = some (.slice ad len cap)) (by kernel_rfl) (HS.out _ (Below.refl _ W0).drew) (fun hHeld => ?_)
  refine tk 0 11 hHeld ?_
  try simp only [Act.put, p1, p2, p3]
  refine tk 1 12 hHeld ?_
  try simp only [Act.put, p1, p2, p3]
  refine tk 2 13 hHeld ?_
  try simp only [Act.put, p1, p2, p3]
  refine tk 3 14 hHeld ?_
  try simp only [Act.put, p1, p2, p3]
  refine tk 4 15 hHeld ?_
  try simp only [Act.put, p1, p2, p3]
  refine tk 5 16 hHeld ?_
  try simp only [Act.put, p1, p2, p3]
  refine wpAnyH_ready (rs := [6]) (by kernel_rfl) (by simp) ?_
  refine AllReadyH.cons rfl (fun K hK => ?_) (AllReadyH.nil)
  go_simp
  go_wp2_with (go_at_call 45; (with_reducible_and_instances (refine HD.out.mono ?_)); rintro x W1 ⟨rfl, hb1⟩; have HB1 := hid ((Below.refl _ W0).drew.trans hb1); clear hb1)
  refine hK.out _ _ (HS.out _ HB1.out) (fun hHeld => ?_)
  clear hK K
  try simp only [Act.put, p1, p2, p3]
  refine tk 7 10 hHeld ?_
  try simp only [Act.put, p1, p2, p3]
  refine tk 8 18 hHeld ?_
  try simp only [Act.put, p1, p2, p3]
  refine tk 9 19 hHeld ?_
  try simp only [Act.put, p1, p2, p3]
  refine tk 10 20 hHeld ?_
  try simp only [Act.put, p1, p2, p3]
  refine tk 11 4 hHeld ?_
  try simp only [Act.put, p1, p2, p3]
  refine tk 12 7 hHeld ?_
  try simp only [Act.put, p1, p2, p3]
  refine tk 13 6 hHeld ?_
  try simp only [Act.put, p1, p2, p3]
  refine wpAnyH_done (by kernel_rfl) ?_ _
  clear hHeld
  go_wp2_with fail
  refine bodyPost_ret (results_tmp3 Tryz.results25 _ _ _) rfl ⟨rfl, HB0.out.trans (HB1.out.mono HB0.out.size)⟩
set_option maxHeartbeats 2000000 in
theorem decB8 (h : LPic w L t M n N vr vo va g) (k p e q : Int) (tx : Bool) (rs : List Rec) (ad : Option Addr) (len cap : Nat) (hB : BArg w ⟨k, p, e, q, tx, rs⟩ ad len cap) (o : Int) (hd : decN g.tb ⟨k, p, e, q, tx, rs⟩ = (o, true, 0)) :
    Calls Tryz.prog 25 #[.pointer (some ⟨L, 0, none⟩), .agg #[.int .i64 k, .int .i64 p, .int .i64 e, .int .i64 q, .bool tx, .slice ad len cap]] w fun x w' => x = .returned (decV (o, true, 0)) ∧ Below w.heap.size w w' := by
  obtain ⟨W0, hW0⟩ : ∃ W0, w.alloc (.cells #[.int .i64 k, .int .i64 p, .int .i64 e, .int .i64 q, .bool tx, .slice ad len cap] 30) = W0 := ⟨_, rfl⟩
  have b0 : Below w.heap.size w W0 := by rw [← hW0]; exact (Below.refl _ _).alloc (Nat.le_refl _) _
  have X0 : BBox W0 w.heap.size k p e q tx (.slice ad len cap) := by rw [← hW0]; exact BBox.new w k p e q tx _
  have HD := hid (Decide_any (h.later b0).tab.drew k p e q tx rs ad len cap ((hB.later b0).drew))
  rw [hd] at HD
  unfold decV at HD
  dsimp only at HD
  obtain ⟨fn, hfn⟩ : ∃ fn, g.fin = fn := ⟨_, rfl⟩
  have HS : Hid (∀ W, Below W0.heap.size W0 W → (W.cell? ⟨L, 0, none⟩ = some (.pointer (some ⟨t, 0, none⟩))) ∧ W.cell? ⟨L, 2, none⟩ = some (.int .i64 fn) ∧ W.cell? ⟨w.heap.size, 0, none⟩ = some (.int .i64 k) ∧ W.cell? ⟨w.heap.size, 1, none⟩ = some (.int .i64 p) ∧ W.cell? ⟨w.heap.size, 2, none⟩ = some (.int .i64 e) ∧ W.cell? ⟨w.heap.size, 3, none⟩ = some (.int .i64 q) ∧ W.cell? ⟨w.heap.size, 4, none⟩ = some (.bool tx) ∧ W.cell? ⟨w.heap.size, 5, none⟩ = some (.slice ad len cap)) := fun W hW => by
    have hx := X0.later hW
    have hp := (h.later b0).later hW
    exact ⟨hp.c0, by rw [← hfn]; exact hp.c2, hx.c0, hx.c1, hx.c2, hx.c3, hx.c4, hx.c5⟩
  have HB0 := hid b0
  have lL := h.lt
  have s0 : w.heap.size < W0.heap.size := X0.lt
  clear h hB hd b0 X0 hfn
  go_enter Tryz.func25, Tryz.ntmps25
  go_wp2_with fail
  refine wp_region_held_drew (S := fun W => (W.cell? ⟨L, 0, none⟩ = some (.pointer (some ⟨t, 0, none⟩))) ∧ W.cell? ⟨L, 2, none⟩ = some (.int .i64 fn) ∧ W.cell? ⟨w.heap.size, 0, none⟩ = some (.int .i64 k) ∧ W.cell? ⟨w.heap.size, 1, none⟩ = some (.int .i64 p) ∧ W.cell? ⟨w.heap.size, 2, none⟩ = some (.int .i64 e) ∧ W.cell? ⟨w.heap.size, 3, none⟩ = some (.int .i64 q) ∧ W.cell? ⟨w.heap.size, 4, none⟩ = some (.bool tx) ∧ W.cell? ⟨w.heap.size, 5, none⟩ = some (.slice ad len cap)) (by kernel_rfl) (HS.out _ (Below.refl _ W0).drew) (fun hHeld => ?_)
  refine tk 0 11 hHeld ?_
  try simp only [Act.put, p1, p2, p3]
  refine tk 1 12 hHeld ?_
  try simp only [Act.put, p1, p2, p3]
  refine tk 2 13 hHeld ?_
  try simp only [Act.put, p1, p2, p3]
  refine tk 3 14 hHeld ?_
  try simp only [Act.put, p1, p2, p3]
  refine tk 4 15 hHeld ?_
  try simp only [Act.put, p1, p2, p3]
  refine tk 5 16 hHeld ?_
  try simp only [Act.put, p1, p2, p3]
  refine wpAnyH_ready (rs := [6]) (by kernel_rfl) (by simp) ?_
  refine AllReadyH.cons rfl (fun K hK => ?_) (AllReadyH.nil)
  go_simp
  go_wp2_with (go_at_call 45; (with_reducible_and_instances (refine HD.out.mono ?_)); rintro x W1 ⟨rfl, hb1⟩; have HB1 := hid ((Below.refl _ W0).drew.trans hb1); clear hb1)
  refine hK.out _ _ (HS.out _ HB1.out) (fun hHeld => ?_)
  clear hK K
  try simp only [Act.put, p1, p2, p3]
  refine tk 7 10 hHeld ?_
  try simp only [Act.put, p1, p2, p3]
  refine tk 8 18 hHeld ?_
  try simp only [Act.put, p1, p2, p3]
  refine tk 9 19 hHeld ?_
  try simp only [Act.put, p1, p2, p3]
  refine tk 10 20 hHeld ?_
  try simp only [Act.put, p1, p2, p3]
  refine tk 11 4 hHeld ?_
  try simp only [Act.put, p1, p2, p3]
  refine tk 12 7 hHeld ?_
  try simp only [Act.put, p1, p2, p3]
  refine tk 13 6 hHeld ?_
  try simp only [Act.put, p1, p2, p3]
  refine wpAnyH_done (by kernel_rfl) ?_ _
  clear hHeld
  go_wp2_with fail
  refine bodyPost_ret (results_tmp3 Tryz.results25 _ _ _) rfl ⟨rfl, HB0.out.trans (HB1.out.mono HB0.out.size)⟩
end Go.Proofs.YtfgamkcnnijloaaGreat
