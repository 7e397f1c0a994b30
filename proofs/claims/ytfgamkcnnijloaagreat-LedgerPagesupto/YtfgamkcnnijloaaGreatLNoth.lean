/- changesNothing, Decide of any entry, Apply of any entry (regs.py SEAT LNoth.src LNoth.lean.t). -/
import Derived.Test.YtfgamkcnnijloaaGreatTk
import Derived.Test.YtfgamkcnnijloaaGreatLStay
import Derived.Test.YtfgamkcnnijloaaGreatPZAp
import Derived.Deep.RegionHeld3
import Derived.BigQuiet
namespace Go.Proofs.YtfgamkcnnijloaaGreat
open Go.RowKit Go.Shelf
variable {w w' : World} {L t M n N : Nat} {vr vo va : Value} {g : Lg}

/-- staying of a Retain or a Compact. -/
theorem staying_any (h : LPic0 w L t M n N vr vo va g) (hks : LKeys g) (kd nn k p e q : Int) (tx : Bool) (ad : Option Addr) (len cap : Nat) (hkd : kd = 2 ∨ kd = 3) : Calls Tryz.prog 31 #[.pointer (some ⟨L, 0, none⟩), .agg #[.int .i64 kd, .int .i64 nn, .int .i64 k, .int .i64 p, .int .i64 e, .int .i64 q, .bool tx, .slice ad len cap]] w fun x w' => ∃ fv, x = .returned fv ∧ ChS w' fv (stayB g kd nn) ∧ Below w.heap.size w w' := by
  rcases hkd with rfl | rfl
  · have es : stayB g 2 nn = fun r => decide (nn ≤ r.off) := by funext r; exact if_pos rfl
    rw [es]
    exact staying_ret nn k p e q tx ad len cap w L
  · have es : stayB g 3 nn = fun r => g.stays nn r := by funext r; exact if_neg (by decide)
    rw [es]
    exact staying_keep h hks nn k p e q tx ad len cap
/-- What a Retain or a Compact of N would leave is all there is. -/
def nothB (g : Lg) (kd nn : Int) : Bool := if kd = 2 then decide (nn ≤ g.start) else (g.rows.filter (stayB g kd nn)).length == g.rows.length
theorem slice_own {l : List Rw} {W : World} {v : Value} {base : Nat} (h : OwnK kRw W base v l) : ∃ a c, v = .slice a l.length c := by
  obtain ⟨a, c, e, -⟩ := h.form kRw_ok.tofit
  exact ⟨a, c, e⟩
set_option maxRecDepth 100000 in
set_option maxHeartbeats 4000000 in
theorem noth_ret (h : LPic0 w L t M n N vr vo va g) (nn k p e q : Int) (tx : Bool) (ad : Option Addr) (len cap : Nat) : Calls Tryz.prog 26 #[.pointer (some ⟨L, 0, none⟩), .agg #[.int .i64 2, .int .i64 nn, .int .i64 k, .int .i64 p, .int .i64 e, .int .i64 q, .bool tx, .slice ad len cap]] w fun x w' => x = .returned (.bool (decide (nn ≤ g.start))) ∧ Below w.heap.size w w' := by
  obtain ⟨W0, hW0⟩ : ∃ W0, w.alloc (.cells #[.int .i64 2, .int .i64 nn, .int .i64 k, .int .i64 p, .int .i64 e, .int .i64 q, .bool tx, .slice ad len cap] TEt) = W0 := ⟨_, rfl⟩
  have b0 : Below w.heap.size w W0 := by rw [← hW0]; exact (Below.refl _ _).alloc (Nat.le_refl _) _
  have X0 : EBox W0 w.heap.size 2 nn k p e q tx ad len cap := by rw [← hW0]; exact heap_alloc_new w _
  have HB := hid b0
  have c0 := Blk.cell X0 0
  have c1 := Blk.cell X0 1
  have lx := Blk.lt X0
  have q1 := (h.later b0).c1
  have lq := (h.later b0).lt
  simp only [List.getElem?_toArray, List.getElem?_cons_zero, List.getElem?_cons_succ] at c0 c1
  clear b0 X0 h
  cases hd : decide (nn ≤ g.start) with
  | true =>
    go_enter Tryz.func26, Tryz.ntmps26
    go_wp2_with fail
    go_quiet (fail)
    go_wp2_with fail
    go_ret
    exact ⟨rfl, below_drewN' HB.out _⟩
  | false =>
    go_enter Tryz.func26, Tryz.ntmps26
    go_wp2_with fail
    go_quiet (fail)
    go_wp2_with fail
    go_ret
    exact ⟨rfl, below_drewN' HB.out _⟩
set_option maxRecDepth 100000 in
set_option maxHeartbeats 4000000 in
theorem noth_keep (h : LPic0 w L t M n N vr vo va g) (hks : LKeys g) (hby : g.rows.length * 64 ≤ 140737488355328) (nn k p e q : Int) (tx : Bool) (ad : Option Addr) (len cap : Nat) : Calls Tryz.prog 26 #[.pointer (some ⟨L, 0, none⟩), .agg #[.int .i64 3, .int .i64 nn, .int .i64 k, .int .i64 p, .int .i64 e, .int .i64 q, .bool tx, .slice ad len cap]] w fun x w' => x = .returned (.bool ((g.rows.filter (stayB g 3 nn)).length == g.rows.length)) ∧ Below w.heap.size w w' := by
  obtain ⟨W0, hW0⟩ : ∃ W0, w.alloc (.cells #[.int .i64 3, .int .i64 nn, .int .i64 k, .int .i64 p, .int .i64 e, .int .i64 q, .bool tx, .slice ad len cap] TEt) = W0 := ⟨_, rfl⟩
  have b0 : Below w.heap.size w W0 := by rw [← hW0]; exact (Below.refl _ _).alloc (Nat.le_refl _) _
  have X0 : EBox W0 w.heap.size 3 nn k p e q tx ad len cap := by rw [← hW0]; exact heap_alloc_new w _
  obtain ⟨ar, cr, hvr, hAr⟩ := h.rows.form kRw_ok.tofit
  subst hvr
  have HB := hid b0
  have HA := hid hAr
  have HKy : Hid (∀ r ∈ g.rows, r.rc.key.size ≤ 65536) := hid hks
  have HSt := hid (fun W (hW : Below W0.heap.size W0 W) => staying_any (w := W) (h.later (b0.trans (hW.mono b0.size))) hks 3 nn k p e q tx ad len cap (Or.inr rfl))
  have HS : Hid (∀ W, Below W0.heap.size W0 W → W.cell? ⟨L, 3, none⟩ = some (.slice ar g.rows.length cr) ∧ W.cell? ⟨w.heap.size, 0, none⟩ = some (.int .i64 3) ∧ W.cell? ⟨w.heap.size, 1, none⟩ = some (.int .i64 nn) ∧ W.cell? ⟨w.heap.size, 2, none⟩ = some (.int .i64 k) ∧ W.cell? ⟨w.heap.size, 3, none⟩ = some (.int .i64 p) ∧ W.cell? ⟨w.heap.size, 4, none⟩ = some (.int .i64 e) ∧ W.cell? ⟨w.heap.size, 5, none⟩ = some (.int .i64 q) ∧ W.cell? ⟨w.heap.size, 6, none⟩ = some (.bool tx) ∧ W.cell? ⟨w.heap.size, 7, none⟩ = some (.slice ad len cap)) := hid (fun W hW => by
    have hx := Blk.later X0 hW
    exact ⟨(h.later (b0.trans (hW.mono b0.size))).c3, Blk.cell hx 0, Blk.cell hx 1, Blk.cell hx 2, Blk.cell hx 3, Blk.cell hx 4, Blk.cell hx 5, Blk.cell hx 6, Blk.cell hx 7⟩)
  have c0 := Blk.cell X0 0
  have lx := Blk.lt X0
  simp only [List.getElem?_toArray, List.getElem?_cons_zero] at c0
  obtain ⟨F, hF⟩ : ∃ F, g.rows.filter (stayB g 3 nn) = F := ⟨_, rfl⟩
  have HF : Hid (chooseN (stayB g 3 nn) g.rows.length g.rows = F) := hid (by rw [choose_all _ _ _ (Nat.le_refl _)]; exact hF)
  rw [hF]
  obtain ⟨m, hm⟩ : ∃ m, g.rows.length = m := ⟨_, rfl⟩
  obtain ⟨f, hf⟩ : ∃ f, F.length = f := ⟨_, rfl⟩
  rw [hm] at HS HF hby HA
  have HM := hid hm
  have HFl := hid hf
  rw [hm, hf]
  have hml : m ≤ 9223372036854775807 := by have := HA.out.cap; have := HA.out.room; unfold maxLen at this; omega
  have he : ((f : Int) == (m : Int)) = (f == m) := by
    by_cases h : f = m
    · subst h; simp
    · have h1 : ((f : Int) == (m : Int)) = false := by simp; omega
      have h2 : (f == m) = false := by simpa using h
      rw [h1, h2]
  clear b0 X0 h hAr hks hF hm hf
  go_enter Tryz.func26, Tryz.ntmps26
  go_wp2_with fail
  refine wp_region_held_drew (S := fun W => W.cell? ⟨L, 3, none⟩ = some (.slice ar m cr) ∧ W.cell? ⟨w.heap.size, 0, none⟩ = some (.int .i64 3) ∧ W.cell? ⟨w.heap.size, 1, none⟩ = some (.int .i64 nn) ∧ W.cell? ⟨w.heap.size, 2, none⟩ = some (.int .i64 k) ∧ W.cell? ⟨w.heap.size, 3, none⟩ = some (.int .i64 p) ∧ W.cell? ⟨w.heap.size, 4, none⟩ = some (.int .i64 e) ∧ W.cell? ⟨w.heap.size, 5, none⟩ = some (.int .i64 q) ∧ W.cell? ⟨w.heap.size, 6, none⟩ = some (.bool tx) ∧ W.cell? ⟨w.heap.size, 7, none⟩ = some (.slice ad len cap)) (by kernel_rfl) (HS.out _ (Below.refl _ _).drew) (fun hHeld => ?_)
  refine tk 0 15 hHeld ?_
  try simp only [Act.put, p1, p2, p3]
  refine tk 1 16 hHeld ?_
  try simp only [Act.put, p1, p2, p3]
  refine tk 2 17 hHeld ?_
  try simp only [Act.put, p1, p2, p3]
  refine tk 3 18 hHeld ?_
  try simp only [Act.put, p1, p2, p3]
  refine tk 4 19 hHeld ?_
  try simp only [Act.put, p1, p2, p3]
  refine tk 5 20 hHeld ?_
  try simp only [Act.put, p1, p2, p3]
  refine tk 6 21 hHeld ?_
  try simp only [Act.put, p1, p2, p3]
  refine tk 7 22 hHeld ?_
  try simp only [Act.put, p1, p2, p3]
  refine tk 8 23 hHeld ?_
  try simp only [Act.put, p1, p2, p3]
  refine tk 9 24 hHeld ?_
  try simp only [Act.put, p1, p2, p3]
  refine tk 10 25 hHeld ?_
  try simp only [Act.put, p1, p2, p3]
  refine tk 14 29 hHeld ?_
  try simp only [Act.put, p1, p2, p3]
  refine tk 15 30 hHeld ?_
  try simp only [Act.put, p1, p2, p3]
  refine tk 16 31 hHeld ?_
  try simp only [Act.put, p1, p2, p3]
  refine tk 17 32 hHeld ?_
  try simp only [Act.put, p1, p2, p3]
  refine tk 18 33 hHeld ?_
  try simp only [Act.put, p1, p2, p3]
  refine wpAnyH_ready (rs := [11]) (by kernel_rfl) (by simp) ?_
  refine AllReadyH.cons rfl (fun K hK => ?_) (AllReadyH.nil)
  go_simp
  go_wp2_with (go_at_call 31; refine (HSt.out _ (Below.refl _ _).drew).mono ?_; rintro r W2 ⟨fv, rfl, hch, hb2⟩; have HCh := hid hch; have HB2 := hid (((Below.refl _ W0).drew).trans hb2); clear hch hb2)
  refine hK.out _ _ (HS.out _ HB2.out) (fun hHeld => ?_)
  clear hK K
  try simp only [Act.put, p1, p2, p3]
  refine wpAnyH_ready (rs := [12]) (by kernel_rfl) (by simp) ?_
  refine AllReadyH.cons rfl (fun K hK => ?_) (AllReadyH.nil)
  go_simp
  go_wp2_with (go_at_call 30; refine (HCh.out W2 (Below.refl _ _) _ ar m cr m (HA.out.later (HB.out.trans (HB2.out.mono HB.out.size))) HKy.out hml hby).mono ?_; rintro r W3 ⟨v3, rfl, ho3, hb3⟩; rw [HF.out] at ho3; obtain ⟨a3, c3, hv3⟩ := slice_own ho3; rw [HFl.out] at hv3; subst hv3; have HB3 := hid (HB2.out.trans (hb3.mono HB2.out.size)); clear ho3 hb3)
  refine hK.out _ _ (HS.out _ HB3.out) (fun hHeld => ?_)
  clear hK K
  try simp only [Act.put, p1, p2, p3]
  refine tk 13 28 hHeld ?_
  try simp only [Act.put, p1, p2, p3]
  refine tk 19 34 hHeld ?_
  try simp only [Act.put, p1, p2, p3]
  refine tk 20 4 hHeld ?_
  try simp only [Act.put, p1, p2, p3]
  refine wpAnyH_done (by kernel_rfl) ?_ _
  clear hHeld
  go_wp2_with fail
  go_ret
  exact ⟨by rw [← he]; rfl, HB.out.trans (HB3.out.mono HB.out.size)⟩
theorem noth_any (h : LPic0 w L t M n N vr vo va g) (hks : LKeys g) (hby : g.rows.length * 64 ≤ 140737488355328) (kd nn k p e q : Int) (tx : Bool) (ad : Option Addr) (len cap : Nat) (hkd : kd = 2 ∨ kd = 3) : Calls Tryz.prog 26 #[.pointer (some ⟨L, 0, none⟩), .agg #[.int .i64 kd, .int .i64 nn, .int .i64 k, .int .i64 p, .int .i64 e, .int .i64 q, .bool tx, .slice ad len cap]] w fun x w' => x = .returned (.bool (nothB g kd nn)) ∧ Below w.heap.size w w' := by
  rcases hkd with rfl | rfl
  · exact noth_ret h nn k p e q tx ad len cap
  · exact noth_keep h hks hby nn k p e q tx ad len cap
end Go.Proofs.YtfgamkcnnijloaaGreat
