/- The reader of package txn: pass, number, yes, text, event. (regs.py SEAT TByR.src TByR.lean.t) -/
import Derived.Test.YteogogmmnijagaaTByM
import Derived.Test.YteogogmmnijagaaFoot
import Derived.Test.YteogogmmnijagaaPYRead
import Derived.Test.YteogogmmnijagaaTEvS
import Derived.Deep.RegionHeld3
namespace Go.Proofs.Yteogogmmnijagaa
open Go.RowKit
variable {w w' : World} {b n c : Nat} {a : Option Addr} {s : Int × Bool} {l : List Nat}

abbrev TRd : TypeId := 64
/-- In w the block b is a reader of the slice a, n, c in the state s. -/
def RdB (w : World) (b : Nat) (a : Option Addr) (n c : Nat) (s : Int × Bool) : Prop := Blk w b #[.slice a n c, .int .i64 s.1, .bool s.2] TRd
theorem RdB.cells (h : RdB w b a n c s) : w.cell? ⟨b, 0, none⟩ = some (.slice a n c) ∧ w.cell? ⟨b, 1, none⟩ = some (.int .i64 s.1) ∧ w.cell? ⟨b, 2, none⟩ = some (.bool s.2) := ⟨h.cell 0, h.cell 1, h.cell 2⟩
theorem RdB.later (h : RdB w b a n c s) (hb : Below w.heap.size w w') : RdB w' b a n c s := Blk.later h hb
/-- What pass leaves. -/
def pasS (s : Int × Bool) (to : Int) (ok : Bool) : Int × Bool := if ok then (to, s.2) else (s.1, true)
theorem stp_pas (l : List Nat) (s : Int × Bool) (n : Int) : stpR l s n = pasS s (getN l s.1 n).2.1 ((getN l s.1 n).2.2 == 0) := by
  unfold stpR pasS
  simp
theorem ys_pas (l : List Nat) (s : Int × Bool) : ysR l s = pasS (stpR l s 1) (stpR l s 1).1 (decide (valR l s 1 ≤ 1)) := by
  unfold ysR pasS
  simp
theorem tx_pas (l : List Nat) (s : Int × Bool) : txR l s = pasS s (getTextN l s.1).2.1 ((getTextN l s.1).2.2 == 0) := by
  unfold txR pasS
  simp
set_option maxRecDepth 20000 in
theorem pass_any (h : RdB w b a n c s) (to : Int) (ok : Bool) : Calls Try.prog 61 #[.pointer (some ⟨b, 0, none⟩), .int .i64 to, .bool ok] w fun e w' => e = .returned (.tuple #[]) ∧ RdB w' b a n c (pasS s to ok) ∧ Chg [b] w w' := by
  obtain ⟨c0, c1, c2⟩ := h.cells
  have f1 := Blk.free h 1
  have f2 := Blk.free h 2
  have H := hid h
  clear h
  cases ok with
  | true =>
    have h1 := Blk.set H.out 1 (.int .i64 to)
    have HN : Hid (RdB (w.setCell ⟨b, 1, none⟩ (.int .i64 to)) b a n c (pasS s to true)) := h1
    have HC : Hid (Chg [b] w (w.setCell ⟨b, 1, none⟩ (.int .i64 to))) := (Chg.refl _ _).set (Or.inl (by simp)) 1 _
    clear h1
    go_enter Try.func61, Try.ntmps61
    go_wp2_with fail
    exact bodyPost_end (results_none rfl _ _ _) rfl ⟨rfl, HN.out, HC.out⟩
  | false =>
    have h1 := Blk.set H.out 2 (.bool true)
    have HN : Hid (RdB (w.setCell ⟨b, 2, none⟩ (.bool true)) b a n c (pasS s to false)) := h1
    have HC : Hid (Chg [b] w (w.setCell ⟨b, 2, none⟩ (.bool true))) := (Chg.refl _ _).set (Or.inl (by simp)) 2 _
    clear h1
    go_enter Try.func61, Try.ntmps61
    go_wp2_with fail
    exact bodyPost_ret (results_none rfl _ _ _) rfl ⟨rfl, HN.out, HC.out⟩
/-- What a reader's call leaves of the bytes that it reads. -/
theorem part_chg (hp : Part.ok w ⟨a, n, c, l⟩) (hne : ∀ k off, a = some ⟨k, off, none⟩ → k ≠ b) (hc : Chg [b] w w') : Part.ok w' ⟨a, n, c, l⟩ := hp.chg hc (fun k off e _ hm => by simp at hm; exact hne k off e hm)
set_option maxRecDepth 20000 in
theorem number_any (h : RdB w b a n c s) (hp : Part.ok w ⟨a, n, c, l⟩) (hlc : n ≤ c) (hm : n ≤ 1000000000000000) (hs : s.1 ≤ 9223372036854775807) (sz : Int) : Calls Try.prog 42 #[.pointer (some ⟨b, 0, none⟩), .int .i64 sz] w fun e w' => e = .returned (.int .i64 (valR l s sz)) ∧ RdB w' b a n c (stpR l s sz) ∧ Chg [b] w w' := by
  obtain ⟨c0, c1, -⟩ := h.cells
  have HG : Hid (∀ W, Below w.heap.size w W → Calls Try.prog 60 #[.slice a n c, .int .i64 s.1, .int .i64 sz] W fun e w' => e = .returned (.tuple #[.int .i64 (getN l s.1 sz).1, .int .i64 (getN l s.1 sz).2.1, .int .i64 (getN l s.1 sz).2.2]) ∧ Below W.heap.size W w') := fun W hW => get_any a n c l s.1 sz W (hp.later hW) hlc hm hs
  have H := hid h
  have HPs := hid (stp_pas l s sz)
  have hv : valR l s sz = (getN l s.1 sz).1 := rfl
  obtain ⟨gv, gt, ge, hg⟩ : ∃ gv gt ge, getN l s.1 sz = (gv, gt, ge) := ⟨_, _, _, rfl⟩
  rw [hg] at HG HPs hv
  dsimp only at HG HPs hv
  obtain ⟨ok, hok⟩ : ∃ ok, (ge == 0) = ok := ⟨_, rfl⟩
  rw [hok] at HPs
  have HV := hid hv
  have HPa : Hid (∀ W, Below w.heap.size w W → Calls Try.prog 61 #[.pointer (some ⟨b, 0, none⟩), .int .i64 gt, .bool ok] W fun e w' => e = .returned (.tuple #[]) ∧ RdB w' b a n c (pasS s gt ok) ∧ Chg [b] W w') := fun W hW => pass_any (H.out.later hW) gt ok
  have HK : Hid (∀ W, Below w.heap.size w W → W.cell? ⟨b, 0, none⟩ = some (.slice a n c) ∧ W.cell? ⟨b, 1, none⟩ = some (.int .i64 s.1)) := fun W hW => ⟨(H.out.later hW).cells.1, (H.out.later hW).cells.2.1⟩
  clear h hp hg hv
  obtain ⟨s1, s2⟩ := s
  dsimp only at *
  go_enter Try.func42, Try.ntmps42
  go_wp2_with fail
  refine wp_region_held_drew (S := fun W => W.cell? ⟨b, 0, none⟩ = some (.slice a n c) ∧ W.cell? ⟨b, 1, none⟩ = some (.int .i64 s1)) (by kernel_rfl) (⟨c0, c1⟩) (fun hHeld => ?_)
  refine wpAnyH_take (i := 0) (oi := { dst := some 9, op := Op.move (Operand.tmp 0), type := 85, pos := "event.go:139", after := #[], guard := none }) (v := ?_) rfl (by kernel_rfl) (by kernel_rfl) (by kernel_rfl) (fun _ _ _ h => h) (Or.inl ⟨by rfl, ?_⟩) hHeld ?_
  rotate_left
  · intro w hSw; (try dsimp only at hSw); go_simp; try with_reducible rfl
  try simp only [Act.put, List.setIfInBounds_toArray, List.set_cons_zero, List.set_cons_succ]
  refine wpAnyH_take (i := 1) (oi := { dst := some 10, op := Op.nilCheck (Operand.tmp 9), type := 0, pos := "event.go:139", after := #[{ on := 0, ground := Ground.data }], guard := none }) (v := ?_) rfl (by kernel_rfl) (by kernel_rfl) (by kernel_rfl) (fun _ _ _ h => h) (Or.inl ⟨by rfl, ?_⟩) hHeld ?_
  rotate_left
  · intro w hSw; (try dsimp only at hSw); go_simp; try with_reducible rfl
  try simp only [Act.put, List.setIfInBounds_toArray, List.set_cons_zero, List.set_cons_succ]
  refine wpAnyH_take (i := 2) (oi := { dst := some 11, op := Op.fieldAddr 64 (Operand.tmp 10) 0, type := 0, pos := "event.go:139", after := #[{ on := 1, ground := Ground.data }], guard := none }) (v := ?_) rfl (by kernel_rfl) (by kernel_rfl) (by kernel_rfl) (fun _ _ _ h => h) (Or.inl ⟨by rfl, ?_⟩) hHeld ?_
  rotate_left
  · intro w hSw; (try dsimp only at hSw); go_simp; try with_reducible rfl
  try simp only [Act.put, List.setIfInBounds_toArray, List.set_cons_zero, List.set_cons_succ]
  refine wpAnyH_take (i := 3) (oi := { dst := some 12, op := Op.load 35 (Operand.tmp 11), type := 35, pos := "event.go:139", after := #[{ on := 2, ground := Ground.data }], guard := none }) (v := ?_) rfl (by kernel_rfl) (by kernel_rfl) (by kernel_rfl) (fun _ _ _ h => h) (Or.inl ⟨by rfl, ?_⟩) hHeld ?_
  rotate_left
  · intro w hSw; (try dsimp only at hSw); go_simp; try with_reducible rfl
  try simp only [Act.put, List.setIfInBounds_toArray, List.set_cons_zero, List.set_cons_succ]
  refine wpAnyH_take (i := 4) (oi := { dst := some 13, op := Op.move (Operand.tmp 0), type := 85, pos := "event.go:139", after := #[], guard := none }) (v := ?_) rfl (by kernel_rfl) (by kernel_rfl) (by kernel_rfl) (fun _ _ _ h => h) (Or.inl ⟨by rfl, ?_⟩) hHeld ?_
  rotate_left
  · intro w hSw; (try dsimp only at hSw); go_simp; try with_reducible rfl
  try simp only [Act.put, List.setIfInBounds_toArray, List.set_cons_zero, List.set_cons_succ]
  refine wpAnyH_take (i := 5) (oi := { dst := some 14, op := Op.nilCheck (Operand.tmp 13), type := 0, pos := "event.go:139", after := #[{ on := 4, ground := Ground.data }], guard := none }) (v := ?_) rfl (by kernel_rfl) (by kernel_rfl) (by kernel_rfl) (fun _ _ _ h => h) (Or.inl ⟨by rfl, ?_⟩) hHeld ?_
  rotate_left
  · intro w hSw; (try dsimp only at hSw); go_simp; try with_reducible rfl
  try simp only [Act.put, List.setIfInBounds_toArray, List.set_cons_zero, List.set_cons_succ]
  refine wpAnyH_take (i := 6) (oi := { dst := some 15, op := Op.fieldAddr 64 (Operand.tmp 14) 1, type := 0, pos := "event.go:139", after := #[{ on := 5, ground := Ground.data }], guard := none }) (v := ?_) rfl (by kernel_rfl) (by kernel_rfl) (by kernel_rfl) (fun _ _ _ h => h) (Or.inl ⟨by rfl, ?_⟩) hHeld ?_
  rotate_left
  · intro w hSw; (try dsimp only at hSw); go_simp; try with_reducible rfl
  try simp only [Act.put, List.setIfInBounds_toArray, List.set_cons_zero, List.set_cons_succ]
  refine wpAnyH_take (i := 7) (oi := { dst := some 16, op := Op.load 3 (Operand.tmp 15), type := 3, pos := "event.go:139", after := #[{ on := 6, ground := Ground.data }], guard := none }) (v := ?_) rfl (by kernel_rfl) (by kernel_rfl) (by kernel_rfl) (fun _ _ _ h => h) (Or.inl ⟨by rfl, ?_⟩) hHeld ?_
  rotate_left
  · intro w hSw; (try dsimp only at hSw); go_simp; try with_reducible rfl
  try simp only [Act.put, List.setIfInBounds_toArray, List.set_cons_zero, List.set_cons_succ]
  refine wpAnyH_take (i := 8) (oi := { dst := some 17, op := Op.move (Operand.tmp 1), type := 3, pos := "event.go:139", after := #[], guard := none }) (v := ?_) rfl (by kernel_rfl) (by kernel_rfl) (by kernel_rfl) (fun _ _ _ h => h) (Or.inl ⟨by rfl, ?_⟩) hHeld ?_
  rotate_left
  · intro w hSw; (try dsimp only at hSw); go_simp; try with_reducible rfl
  try simp only [Act.put, List.setIfInBounds_toArray, List.set_cons_zero, List.set_cons_succ]
  refine wpAnyH_ready (rs := [9]) (by kernel_rfl) (by simp) ?_
  refine AllReadyH.cons rfl (fun K hK => ?_) (AllReadyH.nil)
  go_simp
  go_wp2_with (go_at_call 60; (with_reducible_and_instances (refine (HG.out _ (Below.refl _ _).drew).mono ?_)); rintro e w3 ⟨rfl, hb3⟩; have HB3 : Hid (Below w.heap.size w w3) := (Below.refl _ _).drew.trans hb3; clear hb3)
  refine hK.out _ _ (HK.out _ HB3.out) (fun hHeld => ?_)
  clear hK K
  try simp only [Act.put, List.setIfInBounds_toArray, List.set_cons_zero, List.set_cons_succ]
  refine wpAnyH_take (i := 10) (oi := { dst := some 8, op := Op.move (Operand.tmp 18), type := 104, pos := "event.go:139", after := #[{ on := 9, ground := Ground.data }], guard := none }) (v := ?_) rfl (by kernel_rfl) (by kernel_rfl) (by kernel_rfl) (fun _ _ _ h => h) (Or.inl ⟨by rfl, ?_⟩) hHeld ?_
  rotate_left
  · intro w hSw; (try dsimp only at hSw); go_simp; try with_reducible rfl
  try simp only [Act.put, List.setIfInBounds_toArray, List.set_cons_zero, List.set_cons_succ]
  refine wpAnyH_take (i := 11) (oi := { dst := some 19, op := Op.extract (Operand.tmp 8) 0, type := 3, pos := "event.go:139", after := #[{ on := 10, ground := Ground.data }], guard := none }) (v := ?_) rfl (by kernel_rfl) (by kernel_rfl) (by kernel_rfl) (fun _ _ _ h => h) (Or.inl ⟨by rfl, ?_⟩) hHeld ?_
  rotate_left
  · intro w hSw; (try dsimp only at hSw); go_simp; try with_reducible rfl
  try simp only [Act.put, List.setIfInBounds_toArray, List.set_cons_zero, List.set_cons_succ]
  refine wpAnyH_take (i := 12) (oi := { dst := some 20, op := Op.extract (Operand.tmp 8) 1, type := 3, pos := "event.go:139", after := #[{ on := 10, ground := Ground.data }, { on := 14, ground := Ground.gcOnly Departure.lateStores }], guard := none }) (v := ?_) rfl (by kernel_rfl) (by kernel_rfl) (by kernel_rfl) (fun _ _ _ h => h) (Or.inl ⟨by rfl, ?_⟩) hHeld ?_
  rotate_left
  · intro w hSw; (try dsimp only at hSw); go_simp; try with_reducible rfl
  try simp only [Act.put, List.setIfInBounds_toArray, List.set_cons_zero, List.set_cons_succ]
  refine wpAnyH_take (i := 13) (oi := { dst := some 21, op := Op.extract (Operand.tmp 8) 2, type := 26, pos := "event.go:139", after := #[{ on := 10, ground := Ground.data }, { on := 15, ground := Ground.gcOnly Departure.lateStores }], guard := none }) (v := ?_) rfl (by kernel_rfl) (by kernel_rfl) (by kernel_rfl) (fun _ _ _ h => h) (Or.inl ⟨by rfl, ?_⟩) hHeld ?_
  rotate_left
  · intro w hSw; (try dsimp only at hSw); go_simp; try with_reducible rfl
  try simp only [Act.put, List.setIfInBounds_toArray, List.set_cons_zero, List.set_cons_succ]
  refine wpAnyH_take (i := 14) (oi := { dst := some 5, op := Op.assign (Operand.tmp 19), type := 3, pos := "event.go:139", after := #[{ on := 11, ground := Ground.data }, { on := 9, ground := Ground.chain }, { on := 0, ground := Ground.phase }, { on := 1, ground := Ground.phase }, { on := 2, ground := Ground.phase }, { on := 3, ground := Ground.phase }, { on := 4, ground := Ground.phase }, { on := 5, ground := Ground.phase }, { on := 6, ground := Ground.phase }, { on := 7, ground := Ground.phase }, { on := 8, ground := Ground.phase }, { on := 9, ground := Ground.phase }, { on := 10, ground := Ground.phase }, { on := 11, ground := Ground.phase }, { on := 12, ground := Ground.textOnly Departure.lateStores }, { on := 13, ground := Ground.textOnly Departure.lateStores }], guard := none }) (v := ?_) rfl (by kernel_rfl) (by kernel_rfl) (by kernel_rfl) (fun _ _ _ h => h) (Or.inl ⟨by rfl, ?_⟩) hHeld ?_
  rotate_left
  · intro w hSw; (try dsimp only at hSw); go_simp; try with_reducible rfl
  try simp only [Act.put, List.setIfInBounds_toArray, List.set_cons_zero, List.set_cons_succ]
  refine wpAnyH_take (i := 15) (oi := { dst := some 6, op := Op.assign (Operand.tmp 20), type := 3, pos := "event.go:139", after := #[{ on := 12, ground := Ground.data }, { on := 14, ground := Ground.chain }, { on := 0, ground := Ground.phase }, { on := 1, ground := Ground.phase }, { on := 2, ground := Ground.phase }, { on := 3, ground := Ground.phase }, { on := 4, ground := Ground.phase }, { on := 5, ground := Ground.phase }, { on := 6, ground := Ground.phase }, { on := 7, ground := Ground.phase }, { on := 8, ground := Ground.phase }, { on := 9, ground := Ground.phase }, { on := 10, ground := Ground.phase }, { on := 11, ground := Ground.phase }, { on := 12, ground := Ground.phase }, { on := 13, ground := Ground.textOnly Departure.lateStores }, { on := 14, ground := Ground.phase }], guard := none }) (v := ?_) rfl (by kernel_rfl) (by kernel_rfl) (by kernel_rfl) (fun _ _ _ h => h) (Or.inl ⟨by rfl, ?_⟩) hHeld ?_
  rotate_left
  · intro w hSw; (try dsimp only at hSw); go_simp; try with_reducible rfl
  try simp only [Act.put, List.setIfInBounds_toArray, List.set_cons_zero, List.set_cons_succ]
  refine wpAnyH_take (i := 16) (oi := { dst := some 7, op := Op.assign (Operand.tmp 21), type := 26, pos := "event.go:139", after := #[{ on := 13, ground := Ground.data }, { on := 15, ground := Ground.chain }, { on := 0, ground := Ground.phase }, { on := 1, ground := Ground.phase }, { on := 2, ground := Ground.phase }, { on := 3, ground := Ground.phase }, { on := 4, ground := Ground.phase }, { on := 5, ground := Ground.phase }, { on := 6, ground := Ground.phase }, { on := 7, ground := Ground.phase }, { on := 8, ground := Ground.phase }, { on := 9, ground := Ground.phase }, { on := 10, ground := Ground.phase }, { on := 11, ground := Ground.phase }, { on := 12, ground := Ground.phase }, { on := 13, ground := Ground.phase }, { on := 14, ground := Ground.phase }, { on := 15, ground := Ground.phase }], guard := none }) (v := ?_) rfl (by kernel_rfl) (by kernel_rfl) (by kernel_rfl) (fun _ _ _ h => h) (Or.inl ⟨by rfl, ?_⟩) hHeld ?_
  rotate_left
  · intro w hSw; (try dsimp only at hSw); go_simp; try with_reducible rfl
  try simp only [Act.put, List.setIfInBounds_toArray, List.set_cons_zero, List.set_cons_succ]
  refine wpAnyH_done (by kernel_rfl) ?_ _
  clear hHeld
  have HP3 := hid (HPa.out _ HB3.out)
  go_wp2_with (go_at_call 61; (with_reducible_and_instances (refine HP3.out.mono ?_)); rintro e w4 ⟨rfl, h4, hc4⟩; have H4 := hid h4; have HC4 := hid hc4; clear h4 hc4)
  refine bodyPost_ret (v := .int .i64 gv) (by simp [results, Try.results42, go_sem]) rfl ⟨by rw [HV.out], by rw [HPs.out]; exact H4.out, (Chg.of HB3.out).trans HC4.out (fun k hk => Or.inl hk)⟩
set_option maxRecDepth 20000 in
theorem text_rd (h : RdB w b a n c s) (hp : Part.ok w ⟨a, n, c, l⟩) (hlc : n ≤ c) (hm : n ≤ 1000000000000000) (hs : s.1 ≤ 9223372036854775807) : Calls Try.prog 44 #[.pointer (some ⟨b, 0, none⟩)] w fun e w' => e = .returned (.string (getTextN l s.1).1) ∧ RdB w' b a n c (txR l s) ∧ Chg [b] w w' := by
  obtain ⟨c0, c1, -⟩ := h.cells
  have HG : Hid (∀ W, Below w.heap.size w W → Calls Try.prog 62 #[.slice a n c, .int .i64 s.1] W fun e w' => e = .returned (.tuple #[.string (getTextN l s.1).1, .int .i64 (getTextN l s.1).2.1, .int .i64 (getTextN l s.1).2.2]) ∧ Below W.heap.size W w') := fun W hW => getText_any a n c l s.1 W (hp.later hW) hlc hm hs
  have H := hid h
  have HPs := hid (tx_pas l s)
  obtain ⟨gv, gt, ge, hg⟩ : ∃ gv gt ge, getTextN l s.1 = (gv, gt, ge) := ⟨_, _, _, rfl⟩
  rw [hg] at HG HPs
  dsimp only at HG HPs
  obtain ⟨ok, hok⟩ : ∃ ok, (ge == 0) = ok := ⟨_, rfl⟩
  rw [hok] at HPs
  have HV : Hid ((getTextN l s.1).1 = gv) := by rw [hg]; exact hid rfl
  have HPa : Hid (∀ W, Below w.heap.size w W → Calls Try.prog 61 #[.pointer (some ⟨b, 0, none⟩), .int .i64 gt, .bool ok] W fun e w' => e = .returned (.tuple #[]) ∧ RdB w' b a n c (pasS s gt ok) ∧ Chg [b] W w') := fun W hW => pass_any (H.out.later hW) gt ok
  have HK : Hid (∀ W, Below w.heap.size w W → W.cell? ⟨b, 0, none⟩ = some (.slice a n c) ∧ W.cell? ⟨b, 1, none⟩ = some (.int .i64 s.1)) := fun W hW => ⟨(H.out.later hW).cells.1, (H.out.later hW).cells.2.1⟩
  clear h hp hg
  obtain ⟨s1, s2⟩ := s
  dsimp only at *
  go_enter Try.func44, Try.ntmps44
  go_wp2_with fail
  refine wp_region_held_drew (S := fun W => W.cell? ⟨b, 0, none⟩ = some (.slice a n c) ∧ W.cell? ⟨b, 1, none⟩ = some (.int .i64 s1)) (by kernel_rfl) (⟨c0, c1⟩) (fun hHeld => ?_)
  refine wpAnyH_take (i := 0) (oi := { dst := some 7, op := Op.move (Operand.tmp 0), type := 85, pos := "event.go:151", after := #[], guard := none }) (v := ?_) rfl (by kernel_rfl) (by kernel_rfl) (by kernel_rfl) (fun _ _ _ h => h) (Or.inl ⟨by rfl, ?_⟩) hHeld ?_
  rotate_left
  · intro w hSw; (try dsimp only at hSw); go_simp; try with_reducible rfl
  try simp only [Act.put, List.setIfInBounds_toArray, List.set_cons_zero, List.set_cons_succ]
  refine wpAnyH_take (i := 1) (oi := { dst := some 8, op := Op.nilCheck (Operand.tmp 7), type := 0, pos := "event.go:151", after := #[{ on := 0, ground := Ground.data }], guard := none }) (v := ?_) rfl (by kernel_rfl) (by kernel_rfl) (by kernel_rfl) (fun _ _ _ h => h) (Or.inl ⟨by rfl, ?_⟩) hHeld ?_
  rotate_left
  · intro w hSw; (try dsimp only at hSw); go_simp; try with_reducible rfl
  try simp only [Act.put, List.setIfInBounds_toArray, List.set_cons_zero, List.set_cons_succ]
  refine wpAnyH_take (i := 2) (oi := { dst := some 9, op := Op.fieldAddr 64 (Operand.tmp 8) 0, type := 0, pos := "event.go:151", after := #[{ on := 1, ground := Ground.data }], guard := none }) (v := ?_) rfl (by kernel_rfl) (by kernel_rfl) (by kernel_rfl) (fun _ _ _ h => h) (Or.inl ⟨by rfl, ?_⟩) hHeld ?_
  rotate_left
  · intro w hSw; (try dsimp only at hSw); go_simp; try with_reducible rfl
  try simp only [Act.put, List.setIfInBounds_toArray, List.set_cons_zero, List.set_cons_succ]
  refine wpAnyH_take (i := 3) (oi := { dst := some 10, op := Op.load 35 (Operand.tmp 9), type := 35, pos := "event.go:151", after := #[{ on := 2, ground := Ground.data }], guard := none }) (v := ?_) rfl (by kernel_rfl) (by kernel_rfl) (by kernel_rfl) (fun _ _ _ h => h) (Or.inl ⟨by rfl, ?_⟩) hHeld ?_
  rotate_left
  · intro w hSw; (try dsimp only at hSw); go_simp; try with_reducible rfl
  try simp only [Act.put, List.setIfInBounds_toArray, List.set_cons_zero, List.set_cons_succ]
  refine wpAnyH_take (i := 4) (oi := { dst := some 11, op := Op.move (Operand.tmp 0), type := 85, pos := "event.go:151", after := #[], guard := none }) (v := ?_) rfl (by kernel_rfl) (by kernel_rfl) (by kernel_rfl) (fun _ _ _ h => h) (Or.inl ⟨by rfl, ?_⟩) hHeld ?_
  rotate_left
  · intro w hSw; (try dsimp only at hSw); go_simp; try with_reducible rfl
  try simp only [Act.put, List.setIfInBounds_toArray, List.set_cons_zero, List.set_cons_succ]
  refine wpAnyH_take (i := 5) (oi := { dst := some 12, op := Op.nilCheck (Operand.tmp 11), type := 0, pos := "event.go:151", after := #[{ on := 4, ground := Ground.data }], guard := none }) (v := ?_) rfl (by kernel_rfl) (by kernel_rfl) (by kernel_rfl) (fun _ _ _ h => h) (Or.inl ⟨by rfl, ?_⟩) hHeld ?_
  rotate_left
  · intro w hSw; (try dsimp only at hSw); go_simp; try with_reducible rfl
  try simp only [Act.put, List.setIfInBounds_toArray, List.set_cons_zero, List.set_cons_succ]
  refine wpAnyH_take (i := 6) (oi := { dst := some 13, op := Op.fieldAddr 64 (Operand.tmp 12) 1, type := 0, pos := "event.go:151", after := #[{ on := 5, ground := Ground.data }], guard := none }) (v := ?_) rfl (by kernel_rfl) (by kernel_rfl) (by kernel_rfl) (fun _ _ _ h => h) (Or.inl ⟨by rfl, ?_⟩) hHeld ?_
  rotate_left
  · intro w hSw; (try dsimp only at hSw); go_simp; try with_reducible rfl
  try simp only [Act.put, List.setIfInBounds_toArray, List.set_cons_zero, List.set_cons_succ]
  refine wpAnyH_take (i := 7) (oi := { dst := some 14, op := Op.load 3 (Operand.tmp 13), type := 3, pos := "event.go:151", after := #[{ on := 6, ground := Ground.data }], guard := none }) (v := ?_) rfl (by kernel_rfl) (by kernel_rfl) (by kernel_rfl) (fun _ _ _ h => h) (Or.inl ⟨by rfl, ?_⟩) hHeld ?_
  rotate_left
  · intro w hSw; (try dsimp only at hSw); go_simp; try with_reducible rfl
  try simp only [Act.put, List.setIfInBounds_toArray, List.set_cons_zero, List.set_cons_succ]
  refine wpAnyH_ready (rs := [8]) (by kernel_rfl) (by simp) ?_
  refine AllReadyH.cons rfl (fun K hK => ?_) (AllReadyH.nil)
  go_simp
  go_wp2_with (go_at_call 62; (with_reducible_and_instances (refine (HG.out _ (Below.refl _ _).drew).mono ?_)); rintro e w3 ⟨rfl, hb3⟩; have HB3 : Hid (Below w.heap.size w w3) := (Below.refl _ _).drew.trans hb3; clear hb3)
  refine hK.out _ _ (HK.out _ HB3.out) (fun hHeld => ?_)
  clear hK K
  try simp only [Act.put, List.setIfInBounds_toArray, List.set_cons_zero, List.set_cons_succ]
  refine wpAnyH_take (i := 9) (oi := { dst := some 6, op := Op.move (Operand.tmp 15), type := 111, pos := "event.go:151", after := #[{ on := 8, ground := Ground.data }], guard := none }) (v := ?_) rfl (by kernel_rfl) (by kernel_rfl) (by kernel_rfl) (fun _ _ _ h => h) (Or.inl ⟨by rfl, ?_⟩) hHeld ?_
  rotate_left
  · intro w hSw; (try dsimp only at hSw); go_simp; try with_reducible rfl
  try simp only [Act.put, List.setIfInBounds_toArray, List.set_cons_zero, List.set_cons_succ]
  refine wpAnyH_take (i := 10) (oi := { dst := some 16, op := Op.extract (Operand.tmp 6) 0, type := 9, pos := "event.go:151", after := #[{ on := 9, ground := Ground.data }], guard := none }) (v := ?_) rfl (by kernel_rfl) (by kernel_rfl) (by kernel_rfl) (fun _ _ _ h => h) (Or.inl ⟨by rfl, ?_⟩) hHeld ?_
  rotate_left
  · intro w hSw; (try dsimp only at hSw); go_simp; try with_reducible rfl
  try simp only [Act.put, List.setIfInBounds_toArray, List.set_cons_zero, List.set_cons_succ]
  refine wpAnyH_take (i := 11) (oi := { dst := some 17, op := Op.extract (Operand.tmp 6) 1, type := 3, pos := "event.go:151", after := #[{ on := 9, ground := Ground.data }, { on := 13, ground := Ground.gcOnly Departure.lateStores }], guard := none }) (v := ?_) rfl (by kernel_rfl) (by kernel_rfl) (by kernel_rfl) (fun _ _ _ h => h) (Or.inl ⟨by rfl, ?_⟩) hHeld ?_
  rotate_left
  · intro w hSw; (try dsimp only at hSw); go_simp; try with_reducible rfl
  try simp only [Act.put, List.setIfInBounds_toArray, List.set_cons_zero, List.set_cons_succ]
  refine wpAnyH_take (i := 12) (oi := { dst := some 18, op := Op.extract (Operand.tmp 6) 2, type := 26, pos := "event.go:151", after := #[{ on := 9, ground := Ground.data }, { on := 14, ground := Ground.gcOnly Departure.lateStores }], guard := none }) (v := ?_) rfl (by kernel_rfl) (by kernel_rfl) (by kernel_rfl) (fun _ _ _ h => h) (Or.inl ⟨by rfl, ?_⟩) hHeld ?_
  rotate_left
  · intro w hSw; (try dsimp only at hSw); go_simp; try with_reducible rfl
  try simp only [Act.put, List.setIfInBounds_toArray, List.set_cons_zero, List.set_cons_succ]
  refine wpAnyH_take (i := 13) (oi := { dst := some 3, op := Op.assign (Operand.tmp 16), type := 9, pos := "event.go:151", after := #[{ on := 10, ground := Ground.data }, { on := 8, ground := Ground.chain }, { on := 0, ground := Ground.phase }, { on := 1, ground := Ground.phase }, { on := 2, ground := Ground.phase }, { on := 3, ground := Ground.phase }, { on := 4, ground := Ground.phase }, { on := 5, ground := Ground.phase }, { on := 6, ground := Ground.phase }, { on := 7, ground := Ground.phase }, { on := 8, ground := Ground.phase }, { on := 9, ground := Ground.phase }, { on := 10, ground := Ground.phase }, { on := 11, ground := Ground.textOnly Departure.lateStores }, { on := 12, ground := Ground.textOnly Departure.lateStores }], guard := none }) (v := ?_) rfl (by kernel_rfl) (by kernel_rfl) (by kernel_rfl) (fun _ _ _ h => h) (Or.inl ⟨by rfl, ?_⟩) hHeld ?_
  rotate_left
  · intro w hSw; (try dsimp only at hSw); go_simp; try with_reducible rfl
  try simp only [Act.put, List.setIfInBounds_toArray, List.set_cons_zero, List.set_cons_succ]
  refine wpAnyH_take (i := 14) (oi := { dst := some 4, op := Op.assign (Operand.tmp 17), type := 3, pos := "event.go:151", after := #[{ on := 11, ground := Ground.data }, { on := 13, ground := Ground.chain }, { on := 0, ground := Ground.phase }, { on := 1, ground := Ground.phase }, { on := 2, ground := Ground.phase }, { on := 3, ground := Ground.phase }, { on := 4, ground := Ground.phase }, { on := 5, ground := Ground.phase }, { on := 6, ground := Ground.phase }, { on := 7, ground := Ground.phase }, { on := 8, ground := Ground.phase }, { on := 9, ground := Ground.phase }, { on := 10, ground := Ground.phase }, { on := 11, ground := Ground.phase }, { on := 12, ground := Ground.textOnly Departure.lateStores }, { on := 13, ground := Ground.phase }], guard := none }) (v := ?_) rfl (by kernel_rfl) (by kernel_rfl) (by kernel_rfl) (fun _ _ _ h => h) (Or.inl ⟨by rfl, ?_⟩) hHeld ?_
  rotate_left
  · intro w hSw; (try dsimp only at hSw); go_simp; try with_reducible rfl
  try simp only [Act.put, List.setIfInBounds_toArray, List.set_cons_zero, List.set_cons_succ]
  refine wpAnyH_take (i := 15) (oi := { dst := some 5, op := Op.assign (Operand.tmp 18), type := 26, pos := "event.go:151", after := #[{ on := 12, ground := Ground.data }, { on := 14, ground := Ground.chain }, { on := 0, ground := Ground.phase }, { on := 1, ground := Ground.phase }, { on := 2, ground := Ground.phase }, { on := 3, ground := Ground.phase }, { on := 4, ground := Ground.phase }, { on := 5, ground := Ground.phase }, { on := 6, ground := Ground.phase }, { on := 7, ground := Ground.phase }, { on := 8, ground := Ground.phase }, { on := 9, ground := Ground.phase }, { on := 10, ground := Ground.phase }, { on := 11, ground := Ground.phase }, { on := 12, ground := Ground.phase }, { on := 13, ground := Ground.phase }, { on := 14, ground := Ground.phase }], guard := none }) (v := ?_) rfl (by kernel_rfl) (by kernel_rfl) (by kernel_rfl) (fun _ _ _ h => h) (Or.inl ⟨by rfl, ?_⟩) hHeld ?_
  rotate_left
  · intro w hSw; (try dsimp only at hSw); go_simp; try with_reducible rfl
  try simp only [Act.put, List.setIfInBounds_toArray, List.set_cons_zero, List.set_cons_succ]
  refine wpAnyH_done (by kernel_rfl) ?_ _
  clear hHeld
  have HP3 := hid (HPa.out _ HB3.out)
  go_wp2_with (go_at_call 61; (with_reducible_and_instances (refine HP3.out.mono ?_)); rintro e w4 ⟨rfl, h4, hc4⟩; have H4 := hid h4; have HC4 := hid hc4; clear h4 hc4)
  refine bodyPost_ret (v := .string gv) (by simp [results, Try.results44, go_sem]) rfl ⟨by rw [HV.out], by rw [HPs.out]; exact H4.out, (Chg.of HB3.out).trans HC4.out (fun k hk => Or.inl hk)⟩
set_option maxRecDepth 20000 in
theorem yes_any (h : RdB w b a n c s) (hp : Part.ok w ⟨a, n, c, l⟩) (hlc : n ≤ c) (hm : n ≤ 1000000000000000) (hs : s.1 ≤ 9223372036854775807) : Calls Try.prog 43 #[.pointer (some ⟨b, 0, none⟩)] w fun e w' => e = .returned (.bool (valR l s 1 == 1)) ∧ RdB w' b a n c (ysR l s) ∧ Chg [b] w w' := by
  have HN := hid (number_any h hp hlc hm hs 1)
  have HPs := hid (ys_pas l s)
  obtain ⟨v, hv⟩ : ∃ v, valR l s 1 = v := ⟨_, rfl⟩
  have HV := hid hv
  obtain ⟨s', hs'⟩ : ∃ s', stpR l s 1 = s' := ⟨_, rfl⟩
  rw [hv, hs'] at HN HPs
  clear hv hs' h hp
  obtain ⟨t1, t2⟩ := s'
  dsimp only at *
  go_enter Try.func43, Try.ntmps43
  go_wp2_with (first
    | (go_at_call 42; (with_reducible_and_instances (refine HN.out.mono ?_)); rintro e w3 ⟨rfl, h3, hc3⟩; have HC3 := hid hc3; have HP3 := hid (pass_any h3 t1 (decide (v ≤ 1))); have q1 := h3.cells.2.1; clear h3 hc3)
    | (go_at_call 61; (with_reducible_and_instances (refine HP3.out.mono ?_)); rintro e w4 ⟨rfl, h4, hc4⟩; have H4 := hid h4; have HC4 := hid hc4; clear h4 hc4))
  refine bodyPost_ret (v := .bool (v == 1)) (by simp [results, Try.results43, go_sem]) rfl ⟨by rw [HV.out], by rw [HPs.out]; exact H4.out, HC3.out.trans HC4.out (fun k hk => Or.inl hk)⟩
end Go.Proofs.Yteogogmmnijagaa
