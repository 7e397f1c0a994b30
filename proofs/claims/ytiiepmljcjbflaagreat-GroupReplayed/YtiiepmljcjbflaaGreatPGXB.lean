/- The reader of package group: number, yes, text: each goes on, or gives up. (regs.py SEAT GByR.src GByR.lean.t) event of package group's reader; attempt at events (by genbye15.py). -/
import Derived.Test.YtiiepmljcjbflaaGreatGByM
import Derived.Test.YtiiepmljcjbflaaGreatPGOwn
import Derived.Test.YtiiepmljcjbflaaGreatPGXRead
import Derived.Test.YtiiepmljcjbflaaGreatPGEv
import Derived.Deep.RegionHeld3
import Derived.Test.YtiiepmljcjbflaaGreatGAttB
import Derived.Test.YtiiepmljcjbflaaGreatPWide
namespace Go.Proofs.YtiiepmljcjbflaaGreat
open Go.RowKit
variable {w w' : World} {b n c : Nat} {a : Option Addr} {s : Int × Bool} {l : List Nat}

abbrev TRd : TypeId := 71
/-- In w the block b is a reader of the slice a, n, c in the state s: it has not given up. -/
def RdB (w : World) (b : Nat) (a : Option Addr) (n c : Nat) (s : Int × Bool) : Prop := Blk w b #[.slice a n c, .int .i64 s.1] TRd ∧ s.2 = false
theorem RdB.cells (h : RdB w b a n c s) : w.cell? ⟨b, 0, none⟩ = some (.slice a n c) ∧ w.cell? ⟨b, 1, none⟩ = some (.int .i64 s.1) := ⟨h.1.cell 0, h.1.cell 1⟩
theorem RdB.later (h : RdB w b a n c s) (hb : Below w.heap.size w w') : RdB w' b a n c s := ⟨Blk.later h.1 hb, h.2⟩
theorem RdB.to (h : RdB w b a n c s) (t : Int) : RdB (w.setCell ⟨b, 1, none⟩ (.int .i64 t)) b a n c (t, false) := ⟨Blk.set h.1 1 (.int .i64 t), rfl⟩
/-- How a reader's call ends. -/
def RdC (w : World) (b : Nat) (a : Option Addr) (n c : Nat) (v : Value) (s : Int × Bool) (e : Ending) (w' : World) : Prop := ((e = .returned v ∧ RdB w' b a n c s) ∨ (e = .panicked (refusal 22) ∧ s.2 = true)) ∧ Chg [b] w w'
/-- What a reader's call leaves of the bytes that it reads. -/
theorem part_chg (hp : Part.ok w ⟨a, n, c, l⟩) (hne : ∀ k off, a = some ⟨k, off, none⟩ → k ≠ b) (hc : Chg [b] w w') : Part.ok w' ⟨a, n, c, l⟩ := hp.chg hc (fun k off e _ hm => by simp at hm; exact hne k off e hm)
set_option maxRecDepth 20000 in
theorem number_rd (h : RdB w b a n c s) (hp : Part.ok w ⟨a, n, c, l⟩) (hlc : n ≤ c) (hm : n ≤ 1000000000000000) (hs : s.1 ≤ 9223372036854775807) (sz : Int) : Calls Tryz.prog 64 #[.pointer (some ⟨b, 0, none⟩), .int .i64 sz] w (RdC w b a n c (.int .i64 (valR l s sz)) (stpR l s sz)) := by
  obtain ⟨c0, c1⟩ := h.cells
  have HG : Hid (∀ W, Below w.heap.size w W → Calls Tryz.prog 94 #[.slice a n c, .int .i64 s.1, .int .i64 sz] W fun e w' => e = .returned (.tuple #[.int .i64 (getN l s.1 sz).1, .int .i64 (getN l s.1 sz).2.1, .int .i64 (getN l s.1 sz).2.2]) ∧ Below W.heap.size W w') := fun W hW => get_any a n c l s.1 sz W (hp.later hW) hlc hm hs
  have H := hid h
  have hv : valR l s sz = (getN l s.1 sz).1 := rfl
  have hst : stpR l s sz = if (getN l s.1 sz).2.2 = 0 then ((getN l s.1 sz).2.1, s.2) else (s.1, true) := rfl
  rw [h.2] at hst
  obtain ⟨gv, gt, ge, hg⟩ : ∃ gv gt ge, getN l s.1 sz = (gv, gt, ge) := ⟨_, _, _, rfl⟩
  rw [hg] at HG hst hv
  dsimp only at HG hst hv
  rw [hv, hst]
  have HK : Hid (∀ W, Below w.heap.size w W → W.cell? ⟨b, 0, none⟩ = some (.slice a n c) ∧ W.cell? ⟨b, 1, none⟩ = some (.int .i64 s.1)) := fun W hW => (H.out.later hW).cells
  clear h hp hg hv hst
  obtain ⟨s1, s2⟩ := s
  dsimp only at *
  by_cases he : ge = 0
  · subst he
    rw [if_pos rfl]
    go_enter Tryz.func64, Tryz.ntmps64
    go_wp2_with fail
    refine wp_region_held_drew (S := fun W => W.cell? ⟨b, 0, none⟩ = some (.slice a n c) ∧ W.cell? ⟨b, 1, none⟩ = some (.int .i64 s1)) (by kernel_rfl) (⟨c0, c1⟩) (fun hHeld => ?_)
    refine wpAnyH_take (i := 0) (oi := { dst := some 9, op := Op.move (Operand.tmp 0), type := 119, pos := "event.go:143", after := #[], guard := none }) (v := ?_) rfl (by kernel_rfl) (by kernel_rfl) (by kernel_rfl) (fun _ _ _ h => h) (Or.inl ⟨by rfl, ?_⟩) hHeld ?_
    rotate_left
    · intro w hSw; (try dsimp only at hSw); go_simp; try with_reducible rfl
    try simp only [Act.put, List.setIfInBounds_toArray, List.set_cons_zero, List.set_cons_succ]
    refine wpAnyH_take (i := 1) (oi := { dst := some 10, op := Op.nilCheck (Operand.tmp 9), type := 0, pos := "event.go:143", after := #[{ on := 0, ground := Ground.data }], guard := none }) (v := ?_) rfl (by kernel_rfl) (by kernel_rfl) (by kernel_rfl) (fun _ _ _ h => h) (Or.inl ⟨by rfl, ?_⟩) hHeld ?_
    rotate_left
    · intro w hSw; (try dsimp only at hSw); go_simp; try with_reducible rfl
    try simp only [Act.put, List.setIfInBounds_toArray, List.set_cons_zero, List.set_cons_succ]
    refine wpAnyH_take (i := 2) (oi := { dst := some 11, op := Op.fieldAddr 71 (Operand.tmp 10) 0, type := 0, pos := "event.go:143", after := #[{ on := 1, ground := Ground.data }], guard := none }) (v := ?_) rfl (by kernel_rfl) (by kernel_rfl) (by kernel_rfl) (fun _ _ _ h => h) (Or.inl ⟨by rfl, ?_⟩) hHeld ?_
    rotate_left
    · intro w hSw; (try dsimp only at hSw); go_simp; try with_reducible rfl
    try simp only [Act.put, List.setIfInBounds_toArray, List.set_cons_zero, List.set_cons_succ]
    refine wpAnyH_take (i := 3) (oi := { dst := some 12, op := Op.load 24 (Operand.tmp 11), type := 24, pos := "event.go:143", after := #[{ on := 2, ground := Ground.data }], guard := none }) (v := ?_) rfl (by kernel_rfl) (by kernel_rfl) (by kernel_rfl) (fun _ _ _ h => h) (Or.inl ⟨by rfl, ?_⟩) hHeld ?_
    rotate_left
    · intro w hSw; (try dsimp only at hSw); go_simp; try with_reducible rfl
    try simp only [Act.put, List.setIfInBounds_toArray, List.set_cons_zero, List.set_cons_succ]
    refine wpAnyH_take (i := 4) (oi := { dst := some 13, op := Op.move (Operand.tmp 0), type := 119, pos := "event.go:143", after := #[], guard := none }) (v := ?_) rfl (by kernel_rfl) (by kernel_rfl) (by kernel_rfl) (fun _ _ _ h => h) (Or.inl ⟨by rfl, ?_⟩) hHeld ?_
    rotate_left
    · intro w hSw; (try dsimp only at hSw); go_simp; try with_reducible rfl
    try simp only [Act.put, List.setIfInBounds_toArray, List.set_cons_zero, List.set_cons_succ]
    refine wpAnyH_take (i := 5) (oi := { dst := some 14, op := Op.nilCheck (Operand.tmp 13), type := 0, pos := "event.go:143", after := #[{ on := 4, ground := Ground.data }], guard := none }) (v := ?_) rfl (by kernel_rfl) (by kernel_rfl) (by kernel_rfl) (fun _ _ _ h => h) (Or.inl ⟨by rfl, ?_⟩) hHeld ?_
    rotate_left
    · intro w hSw; (try dsimp only at hSw); go_simp; try with_reducible rfl
    try simp only [Act.put, List.setIfInBounds_toArray, List.set_cons_zero, List.set_cons_succ]
    refine wpAnyH_take (i := 6) (oi := { dst := some 15, op := Op.fieldAddr 71 (Operand.tmp 14) 1, type := 0, pos := "event.go:143", after := #[{ on := 5, ground := Ground.data }], guard := none }) (v := ?_) rfl (by kernel_rfl) (by kernel_rfl) (by kernel_rfl) (fun _ _ _ h => h) (Or.inl ⟨by rfl, ?_⟩) hHeld ?_
    rotate_left
    · intro w hSw; (try dsimp only at hSw); go_simp; try with_reducible rfl
    try simp only [Act.put, List.setIfInBounds_toArray, List.set_cons_zero, List.set_cons_succ]
    refine wpAnyH_take (i := 7) (oi := { dst := some 16, op := Op.load 3 (Operand.tmp 15), type := 3, pos := "event.go:143", after := #[{ on := 6, ground := Ground.data }], guard := none }) (v := ?_) rfl (by kernel_rfl) (by kernel_rfl) (by kernel_rfl) (fun _ _ _ h => h) (Or.inl ⟨by rfl, ?_⟩) hHeld ?_
    rotate_left
    · intro w hSw; (try dsimp only at hSw); go_simp; try with_reducible rfl
    try simp only [Act.put, List.setIfInBounds_toArray, List.set_cons_zero, List.set_cons_succ]
    refine wpAnyH_take (i := 8) (oi := { dst := some 17, op := Op.move (Operand.tmp 1), type := 3, pos := "event.go:143", after := #[], guard := none }) (v := ?_) rfl (by kernel_rfl) (by kernel_rfl) (by kernel_rfl) (fun _ _ _ h => h) (Or.inl ⟨by rfl, ?_⟩) hHeld ?_
    rotate_left
    · intro w hSw; (try dsimp only at hSw); go_simp; try with_reducible rfl
    try simp only [Act.put, List.setIfInBounds_toArray, List.set_cons_zero, List.set_cons_succ]
    refine wpAnyH_ready (rs := [9]) (by kernel_rfl) (by simp) ?_
    refine AllReadyH.cons rfl (fun K hK => ?_) (AllReadyH.nil)
    go_simp
    go_wp2_with (go_at_call 94; (with_reducible_and_instances (refine (HG.out _ (Below.refl _ _).drew).mono ?_)); rintro e w3 ⟨rfl, hb3⟩; have HB3 : Hid (Below w.heap.size w w3) := (Below.refl _ _).drew.trans hb3; clear hb3)
    refine hK.out _ _ (HK.out _ HB3.out) (fun hHeld => ?_)
    clear hK K
    try simp only [Act.put, List.setIfInBounds_toArray, List.set_cons_zero, List.set_cons_succ]
    refine wpAnyH_take (i := 10) (oi := { dst := some 8, op := Op.move (Operand.tmp 18), type := 132, pos := "event.go:143", after := #[{ on := 9, ground := Ground.data }], guard := none }) (v := ?_) rfl (by kernel_rfl) (by kernel_rfl) (by kernel_rfl) (fun _ _ _ h => h) (Or.inl ⟨by rfl, ?_⟩) hHeld ?_
    rotate_left
    · intro w hSw; (try dsimp only at hSw); go_simp; try with_reducible rfl
    try simp only [Act.put, List.setIfInBounds_toArray, List.set_cons_zero, List.set_cons_succ]
    refine wpAnyH_take (i := 11) (oi := { dst := some 19, op := Op.extract (Operand.tmp 8) 0, type := 3, pos := "event.go:143", after := #[{ on := 10, ground := Ground.data }], guard := none }) (v := ?_) rfl (by kernel_rfl) (by kernel_rfl) (by kernel_rfl) (fun _ _ _ h => h) (Or.inl ⟨by rfl, ?_⟩) hHeld ?_
    rotate_left
    · intro w hSw; (try dsimp only at hSw); go_simp; try with_reducible rfl
    try simp only [Act.put, List.setIfInBounds_toArray, List.set_cons_zero, List.set_cons_succ]
    refine wpAnyH_take (i := 12) (oi := { dst := some 20, op := Op.extract (Operand.tmp 8) 1, type := 3, pos := "event.go:143", after := #[{ on := 10, ground := Ground.data }, { on := 14, ground := Ground.gcOnly Departure.lateStores }], guard := none }) (v := ?_) rfl (by kernel_rfl) (by kernel_rfl) (by kernel_rfl) (fun _ _ _ h => h) (Or.inl ⟨by rfl, ?_⟩) hHeld ?_
    rotate_left
    · intro w hSw; (try dsimp only at hSw); go_simp; try with_reducible rfl
    try simp only [Act.put, List.setIfInBounds_toArray, List.set_cons_zero, List.set_cons_succ]
    refine wpAnyH_take (i := 13) (oi := { dst := some 21, op := Op.extract (Operand.tmp 8) 2, type := 26, pos := "event.go:143", after := #[{ on := 10, ground := Ground.data }, { on := 15, ground := Ground.gcOnly Departure.lateStores }], guard := none }) (v := ?_) rfl (by kernel_rfl) (by kernel_rfl) (by kernel_rfl) (fun _ _ _ h => h) (Or.inl ⟨by rfl, ?_⟩) hHeld ?_
    rotate_left
    · intro w hSw; (try dsimp only at hSw); go_simp; try with_reducible rfl
    try simp only [Act.put, List.setIfInBounds_toArray, List.set_cons_zero, List.set_cons_succ]
    refine wpAnyH_take (i := 14) (oi := { dst := some 5, op := Op.assign (Operand.tmp 19), type := 3, pos := "event.go:143", after := #[{ on := 11, ground := Ground.data }, { on := 9, ground := Ground.chain }, { on := 0, ground := Ground.phase }, { on := 1, ground := Ground.phase }, { on := 2, ground := Ground.phase }, { on := 3, ground := Ground.phase }, { on := 4, ground := Ground.phase }, { on := 5, ground := Ground.phase }, { on := 6, ground := Ground.phase }, { on := 7, ground := Ground.phase }, { on := 8, ground := Ground.phase }, { on := 9, ground := Ground.phase }, { on := 10, ground := Ground.phase }, { on := 11, ground := Ground.phase }, { on := 12, ground := Ground.textOnly Departure.lateStores }, { on := 13, ground := Ground.textOnly Departure.lateStores }], guard := none }) (v := ?_) rfl (by kernel_rfl) (by kernel_rfl) (by kernel_rfl) (fun _ _ _ h => h) (Or.inl ⟨by rfl, ?_⟩) hHeld ?_
    rotate_left
    · intro w hSw; (try dsimp only at hSw); go_simp; try with_reducible rfl
    try simp only [Act.put, List.setIfInBounds_toArray, List.set_cons_zero, List.set_cons_succ]
    refine wpAnyH_take (i := 15) (oi := { dst := some 6, op := Op.assign (Operand.tmp 20), type := 3, pos := "event.go:143", after := #[{ on := 12, ground := Ground.data }, { on := 14, ground := Ground.chain }, { on := 0, ground := Ground.phase }, { on := 1, ground := Ground.phase }, { on := 2, ground := Ground.phase }, { on := 3, ground := Ground.phase }, { on := 4, ground := Ground.phase }, { on := 5, ground := Ground.phase }, { on := 6, ground := Ground.phase }, { on := 7, ground := Ground.phase }, { on := 8, ground := Ground.phase }, { on := 9, ground := Ground.phase }, { on := 10, ground := Ground.phase }, { on := 11, ground := Ground.phase }, { on := 12, ground := Ground.phase }, { on := 13, ground := Ground.textOnly Departure.lateStores }, { on := 14, ground := Ground.phase }], guard := none }) (v := ?_) rfl (by kernel_rfl) (by kernel_rfl) (by kernel_rfl) (fun _ _ _ h => h) (Or.inl ⟨by rfl, ?_⟩) hHeld ?_
    rotate_left
    · intro w hSw; (try dsimp only at hSw); go_simp; try with_reducible rfl
    try simp only [Act.put, List.setIfInBounds_toArray, List.set_cons_zero, List.set_cons_succ]
    refine wpAnyH_take (i := 16) (oi := { dst := some 7, op := Op.assign (Operand.tmp 21), type := 26, pos := "event.go:143", after := #[{ on := 13, ground := Ground.data }, { on := 15, ground := Ground.chain }, { on := 0, ground := Ground.phase }, { on := 1, ground := Ground.phase }, { on := 2, ground := Ground.phase }, { on := 3, ground := Ground.phase }, { on := 4, ground := Ground.phase }, { on := 5, ground := Ground.phase }, { on := 6, ground := Ground.phase }, { on := 7, ground := Ground.phase }, { on := 8, ground := Ground.phase }, { on := 9, ground := Ground.phase }, { on := 10, ground := Ground.phase }, { on := 11, ground := Ground.phase }, { on := 12, ground := Ground.phase }, { on := 13, ground := Ground.phase }, { on := 14, ground := Ground.phase }, { on := 15, ground := Ground.phase }], guard := none }) (v := ?_) rfl (by kernel_rfl) (by kernel_rfl) (by kernel_rfl) (fun _ _ _ h => h) (Or.inl ⟨by rfl, ?_⟩) hHeld ?_
    rotate_left
    · intro w hSw; (try dsimp only at hSw); go_simp; try with_reducible rfl
    try simp only [Act.put, List.setIfInBounds_toArray, List.set_cons_zero, List.set_cons_succ]
    refine wpAnyH_done (by kernel_rfl) ?_ _
    clear hHeld
    have H3 := hid (H.out.later HB3.out)
    have k1 : w3.cell? ⟨b, 1, none⟩ = some (.int .i64 s1) := H3.out.1.cell 1
    have f1 := Blk.free H3.out.1 1
    go_wp2_with (go_at_call 34; (with_reducible_and_instances (refine (insist_ok 22 _).mono ?_)); rintro e w4 ⟨rfl, hw4⟩; obtain rfl := hw4.symm)
    exact bodyPost_ret (v := .int .i64 gv) (by simp [results, Tryz.results64, go_sem]) rfl ⟨Or.inl ⟨rfl, H3.out.to gt⟩, (Chg.of HB3.out).trans ((Chg.refl _ _).set (Or.inl (by simp)) 1 _) (fun k hk => Or.inl hk)⟩
  · rw [if_neg he]
    have heb : (ge == 0) = false := by simpa using he
    go_enter Tryz.func64, Tryz.ntmps64
    go_wp2_with fail
    refine wp_region_held_drew (S := fun W => W.cell? ⟨b, 0, none⟩ = some (.slice a n c) ∧ W.cell? ⟨b, 1, none⟩ = some (.int .i64 s1)) (by kernel_rfl) (⟨c0, c1⟩) (fun hHeld => ?_)
    refine wpAnyH_take (i := 0) (oi := { dst := some 9, op := Op.move (Operand.tmp 0), type := 119, pos := "event.go:143", after := #[], guard := none }) (v := ?_) rfl (by kernel_rfl) (by kernel_rfl) (by kernel_rfl) (fun _ _ _ h => h) (Or.inl ⟨by rfl, ?_⟩) hHeld ?_
    rotate_left
    · intro w hSw; (try dsimp only at hSw); go_simp; try with_reducible rfl
    try simp only [Act.put, List.setIfInBounds_toArray, List.set_cons_zero, List.set_cons_succ]
    refine wpAnyH_take (i := 1) (oi := { dst := some 10, op := Op.nilCheck (Operand.tmp 9), type := 0, pos := "event.go:143", after := #[{ on := 0, ground := Ground.data }], guard := none }) (v := ?_) rfl (by kernel_rfl) (by kernel_rfl) (by kernel_rfl) (fun _ _ _ h => h) (Or.inl ⟨by rfl, ?_⟩) hHeld ?_
    rotate_left
    · intro w hSw; (try dsimp only at hSw); go_simp; try with_reducible rfl
    try simp only [Act.put, List.setIfInBounds_toArray, List.set_cons_zero, List.set_cons_succ]
    refine wpAnyH_take (i := 2) (oi := { dst := some 11, op := Op.fieldAddr 71 (Operand.tmp 10) 0, type := 0, pos := "event.go:143", after := #[{ on := 1, ground := Ground.data }], guard := none }) (v := ?_) rfl (by kernel_rfl) (by kernel_rfl) (by kernel_rfl) (fun _ _ _ h => h) (Or.inl ⟨by rfl, ?_⟩) hHeld ?_
    rotate_left
    · intro w hSw; (try dsimp only at hSw); go_simp; try with_reducible rfl
    try simp only [Act.put, List.setIfInBounds_toArray, List.set_cons_zero, List.set_cons_succ]
    refine wpAnyH_take (i := 3) (oi := { dst := some 12, op := Op.load 24 (Operand.tmp 11), type := 24, pos := "event.go:143", after := #[{ on := 2, ground := Ground.data }], guard := none }) (v := ?_) rfl (by kernel_rfl) (by kernel_rfl) (by kernel_rfl) (fun _ _ _ h => h) (Or.inl ⟨by rfl, ?_⟩) hHeld ?_
    rotate_left
    · intro w hSw; (try dsimp only at hSw); go_simp; try with_reducible rfl
    try simp only [Act.put, List.setIfInBounds_toArray, List.set_cons_zero, List.set_cons_succ]
    refine wpAnyH_take (i := 4) (oi := { dst := some 13, op := Op.move (Operand.tmp 0), type := 119, pos := "event.go:143", after := #[], guard := none }) (v := ?_) rfl (by kernel_rfl) (by kernel_rfl) (by kernel_rfl) (fun _ _ _ h => h) (Or.inl ⟨by rfl, ?_⟩) hHeld ?_
    rotate_left
    · intro w hSw; (try dsimp only at hSw); go_simp; try with_reducible rfl
    try simp only [Act.put, List.setIfInBounds_toArray, List.set_cons_zero, List.set_cons_succ]
    refine wpAnyH_take (i := 5) (oi := { dst := some 14, op := Op.nilCheck (Operand.tmp 13), type := 0, pos := "event.go:143", after := #[{ on := 4, ground := Ground.data }], guard := none }) (v := ?_) rfl (by kernel_rfl) (by kernel_rfl) (by kernel_rfl) (fun _ _ _ h => h) (Or.inl ⟨by rfl, ?_⟩) hHeld ?_
    rotate_left
    · intro w hSw; (try dsimp only at hSw); go_simp; try with_reducible rfl
    try simp only [Act.put, List.setIfInBounds_toArray, List.set_cons_zero, List.set_cons_succ]
    refine wpAnyH_take (i := 6) (oi := { dst := some 15, op := Op.fieldAddr 71 (Operand.tmp 14) 1, type := 0, pos := "event.go:143", after := #[{ on := 5, ground := Ground.data }], guard := none }) (v := ?_) rfl (by kernel_rfl) (by kernel_rfl) (by kernel_rfl) (fun _ _ _ h => h) (Or.inl ⟨by rfl, ?_⟩) hHeld ?_
    rotate_left
    · intro w hSw; (try dsimp only at hSw); go_simp; try with_reducible rfl
    try simp only [Act.put, List.setIfInBounds_toArray, List.set_cons_zero, List.set_cons_succ]
    refine wpAnyH_take (i := 7) (oi := { dst := some 16, op := Op.load 3 (Operand.tmp 15), type := 3, pos := "event.go:143", after := #[{ on := 6, ground := Ground.data }], guard := none }) (v := ?_) rfl (by kernel_rfl) (by kernel_rfl) (by kernel_rfl) (fun _ _ _ h => h) (Or.inl ⟨by rfl, ?_⟩) hHeld ?_
    rotate_left
    · intro w hSw; (try dsimp only at hSw); go_simp; try with_reducible rfl
    try simp only [Act.put, List.setIfInBounds_toArray, List.set_cons_zero, List.set_cons_succ]
    refine wpAnyH_take (i := 8) (oi := { dst := some 17, op := Op.move (Operand.tmp 1), type := 3, pos := "event.go:143", after := #[], guard := none }) (v := ?_) rfl (by kernel_rfl) (by kernel_rfl) (by kernel_rfl) (fun _ _ _ h => h) (Or.inl ⟨by rfl, ?_⟩) hHeld ?_
    rotate_left
    · intro w hSw; (try dsimp only at hSw); go_simp; try with_reducible rfl
    try simp only [Act.put, List.setIfInBounds_toArray, List.set_cons_zero, List.set_cons_succ]
    refine wpAnyH_ready (rs := [9]) (by kernel_rfl) (by simp) ?_
    refine AllReadyH.cons rfl (fun K hK => ?_) (AllReadyH.nil)
    go_simp
    go_wp2_with (go_at_call 94; (with_reducible_and_instances (refine (HG.out _ (Below.refl _ _).drew).mono ?_)); rintro e w3 ⟨rfl, hb3⟩; have HB3 : Hid (Below w.heap.size w w3) := (Below.refl _ _).drew.trans hb3; clear hb3)
    refine hK.out _ _ (HK.out _ HB3.out) (fun hHeld => ?_)
    clear hK K
    try simp only [Act.put, List.setIfInBounds_toArray, List.set_cons_zero, List.set_cons_succ]
    refine wpAnyH_take (i := 10) (oi := { dst := some 8, op := Op.move (Operand.tmp 18), type := 132, pos := "event.go:143", after := #[{ on := 9, ground := Ground.data }], guard := none }) (v := ?_) rfl (by kernel_rfl) (by kernel_rfl) (by kernel_rfl) (fun _ _ _ h => h) (Or.inl ⟨by rfl, ?_⟩) hHeld ?_
    rotate_left
    · intro w hSw; (try dsimp only at hSw); go_simp; try with_reducible rfl
    try simp only [Act.put, List.setIfInBounds_toArray, List.set_cons_zero, List.set_cons_succ]
    refine wpAnyH_take (i := 11) (oi := { dst := some 19, op := Op.extract (Operand.tmp 8) 0, type := 3, pos := "event.go:143", after := #[{ on := 10, ground := Ground.data }], guard := none }) (v := ?_) rfl (by kernel_rfl) (by kernel_rfl) (by kernel_rfl) (fun _ _ _ h => h) (Or.inl ⟨by rfl, ?_⟩) hHeld ?_
    rotate_left
    · intro w hSw; (try dsimp only at hSw); go_simp; try with_reducible rfl
    try simp only [Act.put, List.setIfInBounds_toArray, List.set_cons_zero, List.set_cons_succ]
    refine wpAnyH_take (i := 12) (oi := { dst := some 20, op := Op.extract (Operand.tmp 8) 1, type := 3, pos := "event.go:143", after := #[{ on := 10, ground := Ground.data }, { on := 14, ground := Ground.gcOnly Departure.lateStores }], guard := none }) (v := ?_) rfl (by kernel_rfl) (by kernel_rfl) (by kernel_rfl) (fun _ _ _ h => h) (Or.inl ⟨by rfl, ?_⟩) hHeld ?_
    rotate_left
    · intro w hSw; (try dsimp only at hSw); go_simp; try with_reducible rfl
    try simp only [Act.put, List.setIfInBounds_toArray, List.set_cons_zero, List.set_cons_succ]
    refine wpAnyH_take (i := 13) (oi := { dst := some 21, op := Op.extract (Operand.tmp 8) 2, type := 26, pos := "event.go:143", after := #[{ on := 10, ground := Ground.data }, { on := 15, ground := Ground.gcOnly Departure.lateStores }], guard := none }) (v := ?_) rfl (by kernel_rfl) (by kernel_rfl) (by kernel_rfl) (fun _ _ _ h => h) (Or.inl ⟨by rfl, ?_⟩) hHeld ?_
    rotate_left
    · intro w hSw; (try dsimp only at hSw); go_simp; try with_reducible rfl
    try simp only [Act.put, List.setIfInBounds_toArray, List.set_cons_zero, List.set_cons_succ]
    refine wpAnyH_take (i := 14) (oi := { dst := some 5, op := Op.assign (Operand.tmp 19), type := 3, pos := "event.go:143", after := #[{ on := 11, ground := Ground.data }, { on := 9, ground := Ground.chain }, { on := 0, ground := Ground.phase }, { on := 1, ground := Ground.phase }, { on := 2, ground := Ground.phase }, { on := 3, ground := Ground.phase }, { on := 4, ground := Ground.phase }, { on := 5, ground := Ground.phase }, { on := 6, ground := Ground.phase }, { on := 7, ground := Ground.phase }, { on := 8, ground := Ground.phase }, { on := 9, ground := Ground.phase }, { on := 10, ground := Ground.phase }, { on := 11, ground := Ground.phase }, { on := 12, ground := Ground.textOnly Departure.lateStores }, { on := 13, ground := Ground.textOnly Departure.lateStores }], guard := none }) (v := ?_) rfl (by kernel_rfl) (by kernel_rfl) (by kernel_rfl) (fun _ _ _ h => h) (Or.inl ⟨by rfl, ?_⟩) hHeld ?_
    rotate_left
    · intro w hSw; (try dsimp only at hSw); go_simp; try with_reducible rfl
    try simp only [Act.put, List.setIfInBounds_toArray, List.set_cons_zero, List.set_cons_succ]
    refine wpAnyH_take (i := 15) (oi := { dst := some 6, op := Op.assign (Operand.tmp 20), type := 3, pos := "event.go:143", after := #[{ on := 12, ground := Ground.data }, { on := 14, ground := Ground.chain }, { on := 0, ground := Ground.phase }, { on := 1, ground := Ground.phase }, { on := 2, ground := Ground.phase }, { on := 3, ground := Ground.phase }, { on := 4, ground := Ground.phase }, { on := 5, ground := Ground.phase }, { on := 6, ground := Ground.phase }, { on := 7, ground := Ground.phase }, { on := 8, ground := Ground.phase }, { on := 9, ground := Ground.phase }, { on := 10, ground := Ground.phase }, { on := 11, ground := Ground.phase }, { on := 12, ground := Ground.phase }, { on := 13, ground := Ground.textOnly Departure.lateStores }, { on := 14, ground := Ground.phase }], guard := none }) (v := ?_) rfl (by kernel_rfl) (by kernel_rfl) (by kernel_rfl) (fun _ _ _ h => h) (Or.inl ⟨by rfl, ?_⟩) hHeld ?_
    rotate_left
    · intro w hSw; (try dsimp only at hSw); go_simp; try with_reducible rfl
    try simp only [Act.put, List.setIfInBounds_toArray, List.set_cons_zero, List.set_cons_succ]
    refine wpAnyH_take (i := 16) (oi := { dst := some 7, op := Op.assign (Operand.tmp 21), type := 26, pos := "event.go:143", after := #[{ on := 13, ground := Ground.data }, { on := 15, ground := Ground.chain }, { on := 0, ground := Ground.phase }, { on := 1, ground := Ground.phase }, { on := 2, ground := Ground.phase }, { on := 3, ground := Ground.phase }, { on := 4, ground := Ground.phase }, { on := 5, ground := Ground.phase }, { on := 6, ground := Ground.phase }, { on := 7, ground := Ground.phase }, { on := 8, ground := Ground.phase }, { on := 9, ground := Ground.phase }, { on := 10, ground := Ground.phase }, { on := 11, ground := Ground.phase }, { on := 12, ground := Ground.phase }, { on := 13, ground := Ground.phase }, { on := 14, ground := Ground.phase }, { on := 15, ground := Ground.phase }], guard := none }) (v := ?_) rfl (by kernel_rfl) (by kernel_rfl) (by kernel_rfl) (fun _ _ _ h => h) (Or.inl ⟨by rfl, ?_⟩) hHeld ?_
    rotate_left
    · intro w hSw; (try dsimp only at hSw); go_simp; try with_reducible rfl
    try simp only [Act.put, List.setIfInBounds_toArray, List.set_cons_zero, List.set_cons_succ]
    refine wpAnyH_done (by kernel_rfl) ?_ _
    clear hHeld
    go_wp2_with (go_at_call 34; (with_reducible_and_instances (refine (insist_no 22 _).mono ?_)); rintro e w4 ⟨rfl, hw4⟩; obtain rfl := hw4.symm)
    exact ⟨rfl, Or.inr ⟨rfl, rfl⟩, Chg.of HB3.out⟩
set_option maxRecDepth 20000 in
theorem text_rd (h : RdB w b a n c s) (hp : Part.ok w ⟨a, n, c, l⟩) (hlc : n ≤ c) (hm : n ≤ 1000000000000000) (hs : s.1 ≤ 9223372036854775807) : Calls Tryz.prog 66 #[.pointer (some ⟨b, 0, none⟩)] w (RdC w b a n c (.string (getTextN l s.1).1) (txR l s)) := by
  obtain ⟨c0, c1⟩ := h.cells
  have HG : Hid (∀ W, Below w.heap.size w W → Calls Tryz.prog 95 #[.slice a n c, .int .i64 s.1] W fun e w' => e = .returned (.tuple #[.string (getTextN l s.1).1, .int .i64 (getTextN l s.1).2.1, .int .i64 (getTextN l s.1).2.2]) ∧ Below W.heap.size W w') := fun W hW => getText_any a n c l s.1 W (hp.later hW) hlc hm hs
  have H := hid h
  have hst : txR l s = if (getTextN l s.1).2.2 = 0 then ((getTextN l s.1).2.1, s.2) else (s.1, true) := rfl
  rw [h.2] at hst
  obtain ⟨gv, gt, ge, hg⟩ : ∃ gv gt ge, getTextN l s.1 = (gv, gt, ge) := ⟨_, _, _, rfl⟩
  rw [hg] at HG hst
  dsimp only at HG hst
  rw [hst, show (getTextN l s.1).1 = gv by rw [hg]]
  have HK : Hid (∀ W, Below w.heap.size w W → W.cell? ⟨b, 0, none⟩ = some (.slice a n c) ∧ W.cell? ⟨b, 1, none⟩ = some (.int .i64 s.1)) := fun W hW => (H.out.later hW).cells
  clear h hp hg hst
  obtain ⟨s1, s2⟩ := s
  dsimp only at *
  by_cases he : ge = 0
  · subst he
    rw [if_pos rfl]
    go_enter Tryz.func66, Tryz.ntmps66
    go_wp2_with fail
    refine wp_region_held_drew (S := fun W => W.cell? ⟨b, 0, none⟩ = some (.slice a n c) ∧ W.cell? ⟨b, 1, none⟩ = some (.int .i64 s1)) (by kernel_rfl) (⟨c0, c1⟩) (fun hHeld => ?_)
    refine wpAnyH_take (i := 0) (oi := { dst := some 7, op := Op.move (Operand.tmp 0), type := 119, pos := "event.go:156", after := #[], guard := none }) (v := ?_) rfl (by kernel_rfl) (by kernel_rfl) (by kernel_rfl) (fun _ _ _ h => h) (Or.inl ⟨by rfl, ?_⟩) hHeld ?_
    rotate_left
    · intro w hSw; (try dsimp only at hSw); go_simp; try with_reducible rfl
    try simp only [Act.put, List.setIfInBounds_toArray, List.set_cons_zero, List.set_cons_succ]
    refine wpAnyH_take (i := 1) (oi := { dst := some 8, op := Op.nilCheck (Operand.tmp 7), type := 0, pos := "event.go:156", after := #[{ on := 0, ground := Ground.data }], guard := none }) (v := ?_) rfl (by kernel_rfl) (by kernel_rfl) (by kernel_rfl) (fun _ _ _ h => h) (Or.inl ⟨by rfl, ?_⟩) hHeld ?_
    rotate_left
    · intro w hSw; (try dsimp only at hSw); go_simp; try with_reducible rfl
    try simp only [Act.put, List.setIfInBounds_toArray, List.set_cons_zero, List.set_cons_succ]
    refine wpAnyH_take (i := 2) (oi := { dst := some 9, op := Op.fieldAddr 71 (Operand.tmp 8) 0, type := 0, pos := "event.go:156", after := #[{ on := 1, ground := Ground.data }], guard := none }) (v := ?_) rfl (by kernel_rfl) (by kernel_rfl) (by kernel_rfl) (fun _ _ _ h => h) (Or.inl ⟨by rfl, ?_⟩) hHeld ?_
    rotate_left
    · intro w hSw; (try dsimp only at hSw); go_simp; try with_reducible rfl
    try simp only [Act.put, List.setIfInBounds_toArray, List.set_cons_zero, List.set_cons_succ]
    refine wpAnyH_take (i := 3) (oi := { dst := some 10, op := Op.load 24 (Operand.tmp 9), type := 24, pos := "event.go:156", after := #[{ on := 2, ground := Ground.data }], guard := none }) (v := ?_) rfl (by kernel_rfl) (by kernel_rfl) (by kernel_rfl) (fun _ _ _ h => h) (Or.inl ⟨by rfl, ?_⟩) hHeld ?_
    rotate_left
    · intro w hSw; (try dsimp only at hSw); go_simp; try with_reducible rfl
    try simp only [Act.put, List.setIfInBounds_toArray, List.set_cons_zero, List.set_cons_succ]
    refine wpAnyH_take (i := 4) (oi := { dst := some 11, op := Op.move (Operand.tmp 0), type := 119, pos := "event.go:156", after := #[], guard := none }) (v := ?_) rfl (by kernel_rfl) (by kernel_rfl) (by kernel_rfl) (fun _ _ _ h => h) (Or.inl ⟨by rfl, ?_⟩) hHeld ?_
    rotate_left
    · intro w hSw; (try dsimp only at hSw); go_simp; try with_reducible rfl
    try simp only [Act.put, List.setIfInBounds_toArray, List.set_cons_zero, List.set_cons_succ]
    refine wpAnyH_take (i := 5) (oi := { dst := some 12, op := Op.nilCheck (Operand.tmp 11), type := 0, pos := "event.go:156", after := #[{ on := 4, ground := Ground.data }], guard := none }) (v := ?_) rfl (by kernel_rfl) (by kernel_rfl) (by kernel_rfl) (fun _ _ _ h => h) (Or.inl ⟨by rfl, ?_⟩) hHeld ?_
    rotate_left
    · intro w hSw; (try dsimp only at hSw); go_simp; try with_reducible rfl
    try simp only [Act.put, List.setIfInBounds_toArray, List.set_cons_zero, List.set_cons_succ]
    refine wpAnyH_take (i := 6) (oi := { dst := some 13, op := Op.fieldAddr 71 (Operand.tmp 12) 1, type := 0, pos := "event.go:156", after := #[{ on := 5, ground := Ground.data }], guard := none }) (v := ?_) rfl (by kernel_rfl) (by kernel_rfl) (by kernel_rfl) (fun _ _ _ h => h) (Or.inl ⟨by rfl, ?_⟩) hHeld ?_
    rotate_left
    · intro w hSw; (try dsimp only at hSw); go_simp; try with_reducible rfl
    try simp only [Act.put, List.setIfInBounds_toArray, List.set_cons_zero, List.set_cons_succ]
    refine wpAnyH_take (i := 7) (oi := { dst := some 14, op := Op.load 3 (Operand.tmp 13), type := 3, pos := "event.go:156", after := #[{ on := 6, ground := Ground.data }], guard := none }) (v := ?_) rfl (by kernel_rfl) (by kernel_rfl) (by kernel_rfl) (fun _ _ _ h => h) (Or.inl ⟨by rfl, ?_⟩) hHeld ?_
    rotate_left
    · intro w hSw; (try dsimp only at hSw); go_simp; try with_reducible rfl
    try simp only [Act.put, List.setIfInBounds_toArray, List.set_cons_zero, List.set_cons_succ]
    refine wpAnyH_ready (rs := [8]) (by kernel_rfl) (by simp) ?_
    refine AllReadyH.cons rfl (fun K hK => ?_) (AllReadyH.nil)
    go_simp
    go_wp2_with (go_at_call 95; (with_reducible_and_instances (refine (HG.out _ (Below.refl _ _).drew).mono ?_)); rintro e w3 ⟨rfl, hb3⟩; have HB3 : Hid (Below w.heap.size w w3) := (Below.refl _ _).drew.trans hb3; clear hb3)
    refine hK.out _ _ (HK.out _ HB3.out) (fun hHeld => ?_)
    clear hK K
    try simp only [Act.put, List.setIfInBounds_toArray, List.set_cons_zero, List.set_cons_succ]
    refine wpAnyH_take (i := 9) (oi := { dst := some 6, op := Op.move (Operand.tmp 15), type := 138, pos := "event.go:156", after := #[{ on := 8, ground := Ground.data }], guard := none }) (v := ?_) rfl (by kernel_rfl) (by kernel_rfl) (by kernel_rfl) (fun _ _ _ h => h) (Or.inl ⟨by rfl, ?_⟩) hHeld ?_
    rotate_left
    · intro w hSw; (try dsimp only at hSw); go_simp; try with_reducible rfl
    try simp only [Act.put, List.setIfInBounds_toArray, List.set_cons_zero, List.set_cons_succ]
    refine wpAnyH_take (i := 10) (oi := { dst := some 16, op := Op.extract (Operand.tmp 6) 0, type := 9, pos := "event.go:156", after := #[{ on := 9, ground := Ground.data }], guard := none }) (v := ?_) rfl (by kernel_rfl) (by kernel_rfl) (by kernel_rfl) (fun _ _ _ h => h) (Or.inl ⟨by rfl, ?_⟩) hHeld ?_
    rotate_left
    · intro w hSw; (try dsimp only at hSw); go_simp; try with_reducible rfl
    try simp only [Act.put, List.setIfInBounds_toArray, List.set_cons_zero, List.set_cons_succ]
    refine wpAnyH_take (i := 11) (oi := { dst := some 17, op := Op.extract (Operand.tmp 6) 1, type := 3, pos := "event.go:156", after := #[{ on := 9, ground := Ground.data }, { on := 13, ground := Ground.gcOnly Departure.lateStores }], guard := none }) (v := ?_) rfl (by kernel_rfl) (by kernel_rfl) (by kernel_rfl) (fun _ _ _ h => h) (Or.inl ⟨by rfl, ?_⟩) hHeld ?_
    rotate_left
    · intro w hSw; (try dsimp only at hSw); go_simp; try with_reducible rfl
    try simp only [Act.put, List.setIfInBounds_toArray, List.set_cons_zero, List.set_cons_succ]
    refine wpAnyH_take (i := 12) (oi := { dst := some 18, op := Op.extract (Operand.tmp 6) 2, type := 26, pos := "event.go:156", after := #[{ on := 9, ground := Ground.data }, { on := 14, ground := Ground.gcOnly Departure.lateStores }], guard := none }) (v := ?_) rfl (by kernel_rfl) (by kernel_rfl) (by kernel_rfl) (fun _ _ _ h => h) (Or.inl ⟨by rfl, ?_⟩) hHeld ?_
    rotate_left
    · intro w hSw; (try dsimp only at hSw); go_simp; try with_reducible rfl
    try simp only [Act.put, List.setIfInBounds_toArray, List.set_cons_zero, List.set_cons_succ]
    refine wpAnyH_take (i := 13) (oi := { dst := some 3, op := Op.assign (Operand.tmp 16), type := 9, pos := "event.go:156", after := #[{ on := 10, ground := Ground.data }, { on := 8, ground := Ground.chain }, { on := 0, ground := Ground.phase }, { on := 1, ground := Ground.phase }, { on := 2, ground := Ground.phase }, { on := 3, ground := Ground.phase }, { on := 4, ground := Ground.phase }, { on := 5, ground := Ground.phase }, { on := 6, ground := Ground.phase }, { on := 7, ground := Ground.phase }, { on := 8, ground := Ground.phase }, { on := 9, ground := Ground.phase }, { on := 10, ground := Ground.phase }, { on := 11, ground := Ground.textOnly Departure.lateStores }, { on := 12, ground := Ground.textOnly Departure.lateStores }], guard := none }) (v := ?_) rfl (by kernel_rfl) (by kernel_rfl) (by kernel_rfl) (fun _ _ _ h => h) (Or.inl ⟨by rfl, ?_⟩) hHeld ?_
    rotate_left
    · intro w hSw; (try dsimp only at hSw); go_simp; try with_reducible rfl
    try simp only [Act.put, List.setIfInBounds_toArray, List.set_cons_zero, List.set_cons_succ]
    refine wpAnyH_take (i := 14) (oi := { dst := some 4, op := Op.assign (Operand.tmp 17), type := 3, pos := "event.go:156", after := #[{ on := 11, ground := Ground.data }, { on := 13, ground := Ground.chain }, { on := 0, ground := Ground.phase }, { on := 1, ground := Ground.phase }, { on := 2, ground := Ground.phase }, { on := 3, ground := Ground.phase }, { on := 4, ground := Ground.phase }, { on := 5, ground := Ground.phase }, { on := 6, ground := Ground.phase }, { on := 7, ground := Ground.phase }, { on := 8, ground := Ground.phase }, { on := 9, ground := Ground.phase }, { on := 10, ground := Ground.phase }, { on := 11, ground := Ground.phase }, { on := 12, ground := Ground.textOnly Departure.lateStores }, { on := 13, ground := Ground.phase }], guard := none }) (v := ?_) rfl (by kernel_rfl) (by kernel_rfl) (by kernel_rfl) (fun _ _ _ h => h) (Or.inl ⟨by rfl, ?_⟩) hHeld ?_
    rotate_left
    · intro w hSw; (try dsimp only at hSw); go_simp; try with_reducible rfl
    try simp only [Act.put, List.setIfInBounds_toArray, List.set_cons_zero, List.set_cons_succ]
    refine wpAnyH_take (i := 15) (oi := { dst := some 5, op := Op.assign (Operand.tmp 18), type := 26, pos := "event.go:156", after := #[{ on := 12, ground := Ground.data }, { on := 14, ground := Ground.chain }, { on := 0, ground := Ground.phase }, { on := 1, ground := Ground.phase }, { on := 2, ground := Ground.phase }, { on := 3, ground := Ground.phase }, { on := 4, ground := Ground.phase }, { on := 5, ground := Ground.phase }, { on := 6, ground := Ground.phase }, { on := 7, ground := Ground.phase }, { on := 8, ground := Ground.phase }, { on := 9, ground := Ground.phase }, { on := 10, ground := Ground.phase }, { on := 11, ground := Ground.phase }, { on := 12, ground := Ground.phase }, { on := 13, ground := Ground.phase }, { on := 14, ground := Ground.phase }], guard := none }) (v := ?_) rfl (by kernel_rfl) (by kernel_rfl) (by kernel_rfl) (fun _ _ _ h => h) (Or.inl ⟨by rfl, ?_⟩) hHeld ?_
    rotate_left
    · intro w hSw; (try dsimp only at hSw); go_simp; try with_reducible rfl
    try simp only [Act.put, List.setIfInBounds_toArray, List.set_cons_zero, List.set_cons_succ]
    refine wpAnyH_done (by kernel_rfl) ?_ _
    clear hHeld
    have H3 := hid (H.out.later HB3.out)
    have k1 : w3.cell? ⟨b, 1, none⟩ = some (.int .i64 s1) := H3.out.1.cell 1
    have f1 := Blk.free H3.out.1 1
    go_wp2_with (go_at_call 34; (with_reducible_and_instances (refine (insist_ok 22 _).mono ?_)); rintro e w4 ⟨rfl, hw4⟩; obtain rfl := hw4.symm)
    exact bodyPost_ret (v := .string gv) (by simp [results, Tryz.results66, go_sem]) rfl ⟨Or.inl ⟨rfl, H3.out.to gt⟩, (Chg.of HB3.out).trans ((Chg.refl _ _).set (Or.inl (by simp)) 1 _) (fun k hk => Or.inl hk)⟩
  · rw [if_neg he]
    have heb : (ge == 0) = false := by simpa using he
    go_enter Tryz.func66, Tryz.ntmps66
    go_wp2_with fail
    refine wp_region_held_drew (S := fun W => W.cell? ⟨b, 0, none⟩ = some (.slice a n c) ∧ W.cell? ⟨b, 1, none⟩ = some (.int .i64 s1)) (by kernel_rfl) (⟨c0, c1⟩) (fun hHeld => ?_)
    refine wpAnyH_take (i := 0) (oi := { dst := some 7, op := Op.move (Operand.tmp 0), type := 119, pos := "event.go:156", after := #[], guard := none }) (v := ?_) rfl (by kernel_rfl) (by kernel_rfl) (by kernel_rfl) (fun _ _ _ h => h) (Or.inl ⟨by rfl, ?_⟩) hHeld ?_
    rotate_left
    · intro w hSw; (try dsimp only at hSw); go_simp; try with_reducible rfl
    try simp only [Act.put, List.setIfInBounds_toArray, List.set_cons_zero, List.set_cons_succ]
    refine wpAnyH_take (i := 1) (oi := { dst := some 8, op := Op.nilCheck (Operand.tmp 7), type := 0, pos := "event.go:156", after := #[{ on := 0, ground := Ground.data }], guard := none }) (v := ?_) rfl (by kernel_rfl) (by kernel_rfl) (by kernel_rfl) (fun _ _ _ h => h) (Or.inl ⟨by rfl, ?_⟩) hHeld ?_
    rotate_left
    · intro w hSw; (try dsimp only at hSw); go_simp; try with_reducible rfl
    try simp only [Act.put, List.setIfInBounds_toArray, List.set_cons_zero, List.set_cons_succ]
    refine wpAnyH_take (i := 2) (oi := { dst := some 9, op := Op.fieldAddr 71 (Operand.tmp 8) 0, type := 0, pos := "event.go:156", after := #[{ on := 1, ground := Ground.data }], guard := none }) (v := ?_) rfl (by kernel_rfl) (by kernel_rfl) (by kernel_rfl) (fun _ _ _ h => h) (Or.inl ⟨by rfl, ?_⟩) hHeld ?_
    rotate_left
    · intro w hSw; (try dsimp only at hSw); go_simp; try with_reducible rfl
    try simp only [Act.put, List.setIfInBounds_toArray, List.set_cons_zero, List.set_cons_succ]
    refine wpAnyH_take (i := 3) (oi := { dst := some 10, op := Op.load 24 (Operand.tmp 9), type := 24, pos := "event.go:156", after := #[{ on := 2, ground := Ground.data }], guard := none }) (v := ?_) rfl (by kernel_rfl) (by kernel_rfl) (by kernel_rfl) (fun _ _ _ h => h) (Or.inl ⟨by rfl, ?_⟩) hHeld ?_
    rotate_left
    · intro w hSw; (try dsimp only at hSw); go_simp; try with_reducible rfl
    try simp only [Act.put, List.setIfInBounds_toArray, List.set_cons_zero, List.set_cons_succ]
    refine wpAnyH_take (i := 4) (oi := { dst := some 11, op := Op.move (Operand.tmp 0), type := 119, pos := "event.go:156", after := #[], guard := none }) (v := ?_) rfl (by kernel_rfl) (by kernel_rfl) (by kernel_rfl) (fun _ _ _ h => h) (Or.inl ⟨by rfl, ?_⟩) hHeld ?_
    rotate_left
    · intro w hSw; (try dsimp only at hSw); go_simp; try with_reducible rfl
    try simp only [Act.put, List.setIfInBounds_toArray, List.set_cons_zero, List.set_cons_succ]
    refine wpAnyH_take (i := 5) (oi := { dst := some 12, op := Op.nilCheck (Operand.tmp 11), type := 0, pos := "event.go:156", after := #[{ on := 4, ground := Ground.data }], guard := none }) (v := ?_) rfl (by kernel_rfl) (by kernel_rfl) (by kernel_rfl) (fun _ _ _ h => h) (Or.inl ⟨by rfl, ?_⟩) hHeld ?_
    rotate_left
    · intro w hSw; (try dsimp only at hSw); go_simp; try with_reducible rfl
    try simp only [Act.put, List.setIfInBounds_toArray, List.set_cons_zero, List.set_cons_succ]
    refine wpAnyH_take (i := 6) (oi := { dst := some 13, op := Op.fieldAddr 71 (Operand.tmp 12) 1, type := 0, pos := "event.go:156", after := #[{ on := 5, ground := Ground.data }], guard := none }) (v := ?_) rfl (by kernel_rfl) (by kernel_rfl) (by kernel_rfl) (fun _ _ _ h => h) (Or.inl ⟨by rfl, ?_⟩) hHeld ?_
    rotate_left
    · intro w hSw; (try dsimp only at hSw); go_simp; try with_reducible rfl
    try simp only [Act.put, List.setIfInBounds_toArray, List.set_cons_zero, List.set_cons_succ]
    refine wpAnyH_take (i := 7) (oi := { dst := some 14, op := Op.load 3 (Operand.tmp 13), type := 3, pos := "event.go:156", after := #[{ on := 6, ground := Ground.data }], guard := none }) (v := ?_) rfl (by kernel_rfl) (by kernel_rfl) (by kernel_rfl) (fun _ _ _ h => h) (Or.inl ⟨by rfl, ?_⟩) hHeld ?_
    rotate_left
    · intro w hSw; (try dsimp only at hSw); go_simp; try with_reducible rfl
    try simp only [Act.put, List.setIfInBounds_toArray, List.set_cons_zero, List.set_cons_succ]
    refine wpAnyH_ready (rs := [8]) (by kernel_rfl) (by simp) ?_
    refine AllReadyH.cons rfl (fun K hK => ?_) (AllReadyH.nil)
    go_simp
    go_wp2_with (go_at_call 95; (with_reducible_and_instances (refine (HG.out _ (Below.refl _ _).drew).mono ?_)); rintro e w3 ⟨rfl, hb3⟩; have HB3 : Hid (Below w.heap.size w w3) := (Below.refl _ _).drew.trans hb3; clear hb3)
    refine hK.out _ _ (HK.out _ HB3.out) (fun hHeld => ?_)
    clear hK K
    try simp only [Act.put, List.setIfInBounds_toArray, List.set_cons_zero, List.set_cons_succ]
    refine wpAnyH_take (i := 9) (oi := { dst := some 6, op := Op.move (Operand.tmp 15), type := 138, pos := "event.go:156", after := #[{ on := 8, ground := Ground.data }], guard := none }) (v := ?_) rfl (by kernel_rfl) (by kernel_rfl) (by kernel_rfl) (fun _ _ _ h => h) (Or.inl ⟨by rfl, ?_⟩) hHeld ?_
    rotate_left
    · intro w hSw; (try dsimp only at hSw); go_simp; try with_reducible rfl
    try simp only [Act.put, List.setIfInBounds_toArray, List.set_cons_zero, List.set_cons_succ]
    refine wpAnyH_take (i := 10) (oi := { dst := some 16, op := Op.extract (Operand.tmp 6) 0, type := 9, pos := "event.go:156", after := #[{ on := 9, ground := Ground.data }], guard := none }) (v := ?_) rfl (by kernel_rfl) (by kernel_rfl) (by kernel_rfl) (fun _ _ _ h => h) (Or.inl ⟨by rfl, ?_⟩) hHeld ?_
    rotate_left
    · intro w hSw; (try dsimp only at hSw); go_simp; try with_reducible rfl
    try simp only [Act.put, List.setIfInBounds_toArray, List.set_cons_zero, List.set_cons_succ]
    refine wpAnyH_take (i := 11) (oi := { dst := some 17, op := Op.extract (Operand.tmp 6) 1, type := 3, pos := "event.go:156", after := #[{ on := 9, ground := Ground.data }, { on := 13, ground := Ground.gcOnly Departure.lateStores }], guard := none }) (v := ?_) rfl (by kernel_rfl) (by kernel_rfl) (by kernel_rfl) (fun _ _ _ h => h) (Or.inl ⟨by rfl, ?_⟩) hHeld ?_
    rotate_left
    · intro w hSw; (try dsimp only at hSw); go_simp; try with_reducible rfl
    try simp only [Act.put, List.setIfInBounds_toArray, List.set_cons_zero, List.set_cons_succ]
    refine wpAnyH_take (i := 12) (oi := { dst := some 18, op := Op.extract (Operand.tmp 6) 2, type := 26, pos := "event.go:156", after := #[{ on := 9, ground := Ground.data }, { on := 14, ground := Ground.gcOnly Departure.lateStores }], guard := none }) (v := ?_) rfl (by kernel_rfl) (by kernel_rfl) (by kernel_rfl) (fun _ _ _ h => h) (Or.inl ⟨by rfl, ?_⟩) hHeld ?_
    rotate_left
    · intro w hSw; (try dsimp only at hSw); go_simp; try with_reducible rfl
    try simp only [Act.put, List.setIfInBounds_toArray, List.set_cons_zero, List.set_cons_succ]
    refine wpAnyH_take (i := 13) (oi := { dst := some 3, op := Op.assign (Operand.tmp 16), type := 9, pos := "event.go:156", after := #[{ on := 10, ground := Ground.data }, { on := 8, ground := Ground.chain }, { on := 0, ground := Ground.phase }, { on := 1, ground := Ground.phase }, { on := 2, ground := Ground.phase }, { on := 3, ground := Ground.phase }, { on := 4, ground := Ground.phase }, { on := 5, ground := Ground.phase }, { on := 6, ground := Ground.phase }, { on := 7, ground := Ground.phase }, { on := 8, ground := Ground.phase }, { on := 9, ground := Ground.phase }, { on := 10, ground := Ground.phase }, { on := 11, ground := Ground.textOnly Departure.lateStores }, { on := 12, ground := Ground.textOnly Departure.lateStores }], guard := none }) (v := ?_) rfl (by kernel_rfl) (by kernel_rfl) (by kernel_rfl) (fun _ _ _ h => h) (Or.inl ⟨by rfl, ?_⟩) hHeld ?_
    rotate_left
    · intro w hSw; (try dsimp only at hSw); go_simp; try with_reducible rfl
    try simp only [Act.put, List.setIfInBounds_toArray, List.set_cons_zero, List.set_cons_succ]
    refine wpAnyH_take (i := 14) (oi := { dst := some 4, op := Op.assign (Operand.tmp 17), type := 3, pos := "event.go:156", after := #[{ on := 11, ground := Ground.data }, { on := 13, ground := Ground.chain }, { on := 0, ground := Ground.phase }, { on := 1, ground := Ground.phase }, { on := 2, ground := Ground.phase }, { on := 3, ground := Ground.phase }, { on := 4, ground := Ground.phase }, { on := 5, ground := Ground.phase }, { on := 6, ground := Ground.phase }, { on := 7, ground := Ground.phase }, { on := 8, ground := Ground.phase }, { on := 9, ground := Ground.phase }, { on := 10, ground := Ground.phase }, { on := 11, ground := Ground.phase }, { on := 12, ground := Ground.textOnly Departure.lateStores }, { on := 13, ground := Ground.phase }], guard := none }) (v := ?_) rfl (by kernel_rfl) (by kernel_rfl) (by kernel_rfl) (fun _ _ _ h => h) (Or.inl ⟨by rfl, ?_⟩) hHeld ?_
    rotate_left
    · intro w hSw; (try dsimp only at hSw); go_simp; try with_reducible rfl
    try simp only [Act.put, List.setIfInBounds_toArray, List.set_cons_zero, List.set_cons_succ]
    refine wpAnyH_take (i := 15) (oi := { dst := some 5, op := Op.assign (Operand.tmp 18), type := 26, pos := "event.go:156", after := #[{ on := 12, ground := Ground.data }, { on := 14, ground := Ground.chain }, { on := 0, ground := Ground.phase }, { on := 1, ground := Ground.phase }, { on := 2, ground := Ground.phase }, { on := 3, ground := Ground.phase }, { on := 4, ground := Ground.phase }, { on := 5, ground := Ground.phase }, { on := 6, ground := Ground.phase }, { on := 7, ground := Ground.phase }, { on := 8, ground := Ground.phase }, { on := 9, ground := Ground.phase }, { on := 10, ground := Ground.phase }, { on := 11, ground := Ground.phase }, { on := 12, ground := Ground.phase }, { on := 13, ground := Ground.phase }, { on := 14, ground := Ground.phase }], guard := none }) (v := ?_) rfl (by kernel_rfl) (by kernel_rfl) (by kernel_rfl) (fun _ _ _ h => h) (Or.inl ⟨by rfl, ?_⟩) hHeld ?_
    rotate_left
    · intro w hSw; (try dsimp only at hSw); go_simp; try with_reducible rfl
    try simp only [Act.put, List.setIfInBounds_toArray, List.set_cons_zero, List.set_cons_succ]
    refine wpAnyH_done (by kernel_rfl) ?_ _
    clear hHeld
    go_wp2_with (go_at_call 34; (with_reducible_and_instances (refine (insist_no 22 _).mono ?_)); rintro e w4 ⟨rfl, hw4⟩; obtain rfl := hw4.symm)
    exact ⟨rfl, Or.inr ⟨rfl, rfl⟩, Chg.of HB3.out⟩
set_option maxRecDepth 20000 in
theorem yes_rd (h : RdB w b a n c s) (hp : Part.ok w ⟨a, n, c, l⟩) (hlc : n ≤ c) (hm : n ≤ 1000000000000000) (hs : s.1 ≤ 9223372036854775807) : Calls Tryz.prog 65 #[.pointer (some ⟨b, 0, none⟩)] w (RdC w b a n c (.bool (valR l s 1 == 1)) (ysR l s)) := by
  have HN := hid (number_rd h hp hlc hm hs 1)
  have hst : ysR l s = if valR l s 1 ≤ 1 then stpR l s 1 else ((stpR l s 1).1, true) := rfl
  rw [hst]
  obtain ⟨v, hv⟩ : ∃ v, valR l s 1 = v := ⟨_, rfl⟩
  obtain ⟨s', hs'⟩ : ∃ s', stpR l s 1 = s' := ⟨_, rfl⟩
  rw [hv, hs'] at HN ⊢
  clear hv hs' h hp hst
  by_cases hv : v ≤ 1
  · have hvb : decide (v ≤ 1) = true := by simpa using hv
    rw [if_pos hv]
    go_enter Tryz.func65, Tryz.ntmps65
    go_wp2_with (first
      | (go_at_call 64; (with_reducible_and_instances (refine HN.out.mono ?_)); rintro e w3 ⟨⟨rfl, h3⟩ | ⟨rfl, h3⟩, hc3⟩ <;> have HC3 := hid hc3 <;> have H3 := hid h3 <;> clear h3 hc3)
      | (go_at_call 34; (with_reducible_and_instances (refine (insist_ok 22 _).mono ?_)); rintro e w4 ⟨rfl, hw4⟩; obtain rfl := hw4.symm))
    · exact bodyPost_ret (v := .bool (v == 1)) (by simp [results, Tryz.results65, go_sem]) rfl ⟨Or.inl ⟨rfl, H3.out⟩, HC3.out⟩
    · exact ⟨rfl, Or.inr ⟨rfl, H3.out⟩, HC3.out⟩
  · have hvb : decide (v ≤ 1) = false := by simpa using hv
    rw [if_neg hv]
    go_enter Tryz.func65, Tryz.ntmps65
    go_wp2_with (first
      | (go_at_call 64; (with_reducible_and_instances (refine HN.out.mono ?_)); rintro e w3 ⟨⟨rfl, h3⟩ | ⟨rfl, h3⟩, hc3⟩ <;> have HC3 := hid hc3 <;> have H3 := hid h3 <;> clear h3 hc3)
      | (go_at_call 34; (with_reducible_and_instances (refine (insist_no 22 _).mono ?_)); rintro e w4 ⟨rfl, hw4⟩; obtain rfl := hw4.symm))
    · exact ⟨rfl, Or.inr ⟨rfl, rfl⟩, HC3.out⟩
    · exact ⟨rfl, Or.inr ⟨rfl, rfl⟩, HC3.out⟩
end Go.Proofs.YtiiepmljcjbflaaGreat
namespace Go.Proofs.YtiiepmljcjbflaaGreat
open Go.RowKit
variable {w w' : World} {b n c : Nat} {a : Option Addr} {s : Int × Bool} {l : List Nat}

abbrev evZA : Array Value := #[.int .i64 0, .string ⟨#[]⟩, .int .i64 0, .int .i64 0, .int .i64 0, .int .i64 0, .int .i64 0, .int .i64 0, .bool false]
theorem evZ_A : evA evZ = evZA := rfl
theorem evA_one (x : Ev) : ∀ v ∈ (evA x).toList, v.oneCell' = true := by
  intro v hv
  have : v = .int .i64 x.kind ∨ v = .string (nmS x.mem) ∨ v = .int .i64 x.gen ∨ v = .int .i64 x.part ∨ v = .int .i64 x.off ∨ v = .int .i64 x.prod ∨ v = .int .i64 x.ep ∨ v = .int .i64 x.now ∨ v = .bool x.yes := by simpa using hv
  rcases this with rfl | rfl | rfl | rfl | rfl | rfl | rfl | rfl | rfl <;> rfl
theorem evA_size (x : Ev) : (Tryz.prog.info? TEv).map (·.size) = some (evA x).toList.length := by
  show _ = some 9
  kernel_rfl
/-- An event stored whole into a box. -/
theorem store_ev {ops : Array Oper} {rest : List Oper} {o : Oper} {t : Act} {Q : Exit → Act → World → Prop} {g : Nat} {cur : Array Value} (x : Ev) (hgd : o.guard = none) (p y : Operand) (ho : o.op = .store TEv p y) (hx : t.eval p = .pointer (some ⟨g, 0, none⟩)) (hy : t.eval y = .agg (evA x))
    (hg : Blk w g cur TEv) (hfit : cur.size = 9) (h : ∀ w', Blk w' g (evA x) TEv → Chg [g] w w' → wpList Tryz.prog ops Q rest (t.put o.dst undef) w') : wpList Tryz.prog ops Q (o :: rest) t w := by
  have hy' : t.eval y = .agg (evA x).toList.toArray := hy
  refine store_wide hgd TEv p y ho (evA x).toList (evA_size x) g 0 hx hy' TEv cur hg (by show 0 + 9 ≤ _; omega) (evA_one x) ?_
  have e2 : (cur.toList.take 0 ++ (evA x).toList ++ cur.toList.drop (0 + (evA x).toList.length)) = (evA x).toList := by rw [List.drop_of_length_le (by show cur.toList.length ≤ 0 + 9; simp; omega)]; simp
  rw [e2]
  refine h _ (setRow_heap _ _ _ _ _ _ hg) ⟨rfl, rfl, rfl, by simp [World.setRow], fun k _ hn => setRow_other w g k _ (by intro e; exact hn (by simp [e]))⟩
theorem stp_le {N : Int} (h0 : (l.length : Int) ≤ N) (hN : 0 ≤ N) (hs : s.1 ≤ N) (k : Int) : (stpR l s k).1 ≤ N := by
  unfold stpR
  split
  · dsimp only
    unfold getN
    split
    · split
      · dsimp only; omega
      · exact hN
    · exact hN
  · exact hs
theorem ys_le {N : Int} (h0 : (l.length : Int) ≤ N) (hN : 0 ≤ N) (hs : s.1 ≤ N) : (ysR l s).1 ≤ N := by
  unfold ysR
  split
  · exact stp_le h0 hN hs 1
  · exact stp_le h0 hN hs 1
theorem stp_bad {k : Int} (h : s.2 = true) : (stpR l s k).2 = true := by
  cases e : (stpR l s k).2 with
  | true => rfl
  | false => rw [stp_st e] at h; cases h
theorem ys_bad (h : s.2 = true) : (ysR l s).2 = true := by
  unfold ysR
  split
  · exact stp_bad h
  · rfl
theorem tx_bad (h : s.2 = true) : (txR l s).2 = true := by
  cases e : (txR l s).2 with
  | true => rfl
  | false => rw [(text_st e).1] at h; cases h
theorem bad9 (l : List Nat) : ((rs1 l).2 = true → (rs9 l).2 = true) ∧ ((rs2 l).2 = true → (rs9 l).2 = true) ∧ ((rs3 l).2 = true → (rs9 l).2 = true) ∧ ((rs4 l).2 = true → (rs9 l).2 = true) ∧ ((rs5 l).2 = true → (rs9 l).2 = true) ∧ ((rs6 l).2 = true → (rs9 l).2 = true) ∧ ((rs7 l).2 = true → (rs9 l).2 = true) ∧ ((rs8 l).2 = true → (rs9 l).2 = true) := by
  have h8 : (rs8 l).2 = true → (rs9 l).2 = true := tx_bad
  have h7 : (rs7 l).2 = true → (rs9 l).2 = true := fun h => h8 (stp_bad h)
  have h6 : (rs6 l).2 = true → (rs9 l).2 = true := fun h => h7 (stp_bad h)
  have h5 : (rs5 l).2 = true → (rs9 l).2 = true := fun h => h6 (stp_bad h)
  have h4 : (rs4 l).2 = true → (rs9 l).2 = true := fun h => h5 (stp_bad h)
  have h3 : (rs3 l).2 = true → (rs9 l).2 = true := fun h => h4 (stp_bad h)
  have h2 : (rs2 l).2 = true → (rs9 l).2 = true := fun h => h3 (stp_bad h)
  exact ⟨fun h => h2 (ys_bad h), h2, h3, h4, h5, h6, h7, h8⟩
set_option maxRecDepth 40000 in
set_option maxHeartbeats 2000000 in
theorem event_rd (h : RdB w b a n c rs0) (hp : Part.ok w ⟨a, n, c, l⟩) (hlc : n ≤ c) (hm : n ≤ 1000000000000000) (hne : ∀ k off, a = some ⟨k, off, none⟩ → k ≠ b) : Calls Tryz.prog 35 #[.pointer (some ⟨b, 0, none⟩)] w (RdC w b a n c (.agg (evA (rdE l))) (rs9 l)) := by
  have hll : (l.length : Int) ≤ 1000000000000000 := by have : l.length = n := hp.1; omega
  have hbl : b < w.heap.size := Blk.lt h.1
  obtain ⟨W0, hW0⟩ : ∃ W0, w.alloc (.cells evZA TEv) = W0 := ⟨_, rfl⟩
  have b0 : Below w.heap.size w W0 := by rw [← hW0]; exact (Below.refl _ _).alloc (Nat.le_refl _) _
  have z0 : Blk W0 w.heap.size evZA TEv := by rw [← hW0]; exact heap_alloc_new w _
  have HP := hid hp
  have HB0 := hid b0
  have HZ := hid z0
  have HNe := hid hne
  have HPt : Hid (∀ W, Chg [b] W0 W → Part.ok W ⟨a, n, c, l⟩) := fun W hW => part_chg (HP.out.later HB0.out) HNe.out hW
  have HNum : Hid (∀ W s, RdB W b a n c s → Chg [b] W0 W → s.1 ≤ 1000000000000000 → ∀ sz, Calls Tryz.prog 64 #[.pointer (some ⟨b, 0, none⟩), .int .i64 sz] W (RdC W0 b a n c (.int .i64 (valR l s sz)) (stpR l s sz))) := fun W s hR hC hs sz => (number_rd hR (HPt.out W hC) hlc hm (by omega) sz).mono (fun e w' hh => ⟨hh.1, hC.trans hh.2 (fun k hk => Or.inl hk)⟩)
  have HYes : Hid (∀ W s, RdB W b a n c s → Chg [b] W0 W → s.1 ≤ 1000000000000000 → Calls Tryz.prog 65 #[.pointer (some ⟨b, 0, none⟩)] W (RdC W0 b a n c (.bool (valR l s 1 == 1)) (ysR l s))) := fun W s hR hC hs => (yes_rd hR (HPt.out W hC) hlc hm (by omega)).mono (fun e w' hh => ⟨hh.1, hC.trans hh.2 (fun k hk => Or.inl hk)⟩)
  have HTxt : Hid (∀ W s, RdB W b a n c s → Chg [b] W0 W → s.1 ≤ 1000000000000000 → Calls Tryz.prog 66 #[.pointer (some ⟨b, 0, none⟩)] W (RdC W0 b a n c (.string (getTextN l s.1).1) (txR l s))) := fun W s hR hC hs => (text_rd hR (HPt.out W hC) hlc hm (by omega)).mono (fun e w' hh => ⟨hh.1, hC.trans hh.2 (fun k hk => Or.inl hk)⟩)
  have l0 : rs0.1 ≤ 1000000000000000 := by show (0 : Int) ≤ _; omega
  have l1 : (rs1 l).1 ≤ 1000000000000000 := stp_le hll (by omega) l0 1
  have l2 : (rs2 l).1 ≤ 1000000000000000 := ys_le hll (by omega) l1
  have l3 : (rs3 l).1 ≤ 1000000000000000 := stp_le hll (by omega) l2 6
  have l4 : (rs4 l).1 ≤ 1000000000000000 := stp_le hll (by omega) l3 6
  have l5 : (rs5 l).1 ≤ 1000000000000000 := stp_le hll (by omega) l4 6
  have l6 : (rs6 l).1 ≤ 1000000000000000 := stp_le hll (by omega) l5 6
  have l7 : (rs7 l).1 ≤ 1000000000000000 := stp_le hll (by omega) l6 6
  have l8 : (rs8 l).1 ≤ 1000000000000000 := stp_le hll (by omega) l7 6
  obtain ⟨d1, d2, d3, d4, d5, d6, d7, d8⟩ := bad9 l
  have d9 : (rs9 l).2 = true → (rs9 l).2 = true := fun h => h
  have HV : Hid (∀ x, rdE l = x → x.kind = valR l rs0 1 ∧ x.yes = (valR l (rs1 l) 1 == 1) ∧ x.gen = valR l (rs2 l) 6 ∧ x.part = valR l (rs3 l) 6 ∧ x.off = valR l (rs4 l) 6 ∧ x.prod = valR l (rs5 l) 6 ∧ x.ep = valR l (rs6 l) 6 ∧ x.now = valR l (rs7 l) 6 ∧ (nmS x.mem) = (getTextN l (rs8 l).1).1) := fun x hx => by subst hx; exact ⟨rfl, rfl, rfl, rfl, rfl, rfl, rfl, rfl, rfl⟩
  obtain ⟨x, hx⟩ : ∃ x, rdE l = x := ⟨_, rfl⟩
  obtain ⟨v0, v1, v2, v3, v4, v5, v6, v7, v8⟩ := HV.out x hx
  have HX := hid hx
  have HA0 : Hid (∀ W, RdB W b a n c rs0 → Chg [b] W0 W → Calls Tryz.prog 64 #[.pointer (some ⟨b, 0, none⟩), .int .i64 1] W fun e w' => (e = .returned (.int .i64 x.kind) ∧ RdB w' b a n c (rs1 l) ∧ Chg [b] W0 w') ∨ (e = .panicked (refusal 22) ∧ (rs9 l).2 = true ∧ Chg [b] W0 w')) := fun W hR hC => by
    have h := HNum.out W rs0 hR hC l0 1
    rw [v0]
    refine h.mono ?_
    rintro e w' ⟨⟨he, hr⟩ | ⟨he, hr⟩, hc⟩
    · exact Or.inl ⟨he, hr, hc⟩
    · exact Or.inr ⟨he, d1 hr, hc⟩
  have HA1 : Hid (∀ W, RdB W b a n c (rs1 l) → Chg [b] W0 W → Calls Tryz.prog 65 #[.pointer (some ⟨b, 0, none⟩)] W fun e w' => (e = .returned (.bool x.yes) ∧ RdB w' b a n c (rs2 l) ∧ Chg [b] W0 w') ∨ (e = .panicked (refusal 22) ∧ (rs9 l).2 = true ∧ Chg [b] W0 w')) := fun W hR hC => by
    have h := HYes.out W (rs1 l) hR hC l1
    rw [v1]
    refine h.mono ?_
    rintro e w' ⟨⟨he, hr⟩ | ⟨he, hr⟩, hc⟩
    · exact Or.inl ⟨he, hr, hc⟩
    · exact Or.inr ⟨he, d2 hr, hc⟩
  have HA2 : Hid (∀ W, RdB W b a n c (rs2 l) → Chg [b] W0 W → Calls Tryz.prog 64 #[.pointer (some ⟨b, 0, none⟩), .int .i64 6] W fun e w' => (e = .returned (.int .i64 x.gen) ∧ RdB w' b a n c (rs3 l) ∧ Chg [b] W0 w') ∨ (e = .panicked (refusal 22) ∧ (rs9 l).2 = true ∧ Chg [b] W0 w')) := fun W hR hC => by
    have h := HNum.out W (rs2 l) hR hC l2 6
    rw [v2]
    refine h.mono ?_
    rintro e w' ⟨⟨he, hr⟩ | ⟨he, hr⟩, hc⟩
    · exact Or.inl ⟨he, hr, hc⟩
    · exact Or.inr ⟨he, d3 hr, hc⟩
  have HA3 : Hid (∀ W, RdB W b a n c (rs3 l) → Chg [b] W0 W → Calls Tryz.prog 64 #[.pointer (some ⟨b, 0, none⟩), .int .i64 6] W fun e w' => (e = .returned (.int .i64 x.part) ∧ RdB w' b a n c (rs4 l) ∧ Chg [b] W0 w') ∨ (e = .panicked (refusal 22) ∧ (rs9 l).2 = true ∧ Chg [b] W0 w')) := fun W hR hC => by
    have h := HNum.out W (rs3 l) hR hC l3 6
    rw [v3]
    refine h.mono ?_
    rintro e w' ⟨⟨he, hr⟩ | ⟨he, hr⟩, hc⟩
    · exact Or.inl ⟨he, hr, hc⟩
    · exact Or.inr ⟨he, d4 hr, hc⟩
  have HA4 : Hid (∀ W, RdB W b a n c (rs4 l) → Chg [b] W0 W → Calls Tryz.prog 64 #[.pointer (some ⟨b, 0, none⟩), .int .i64 6] W fun e w' => (e = .returned (.int .i64 x.off) ∧ RdB w' b a n c (rs5 l) ∧ Chg [b] W0 w') ∨ (e = .panicked (refusal 22) ∧ (rs9 l).2 = true ∧ Chg [b] W0 w')) := fun W hR hC => by
    have h := HNum.out W (rs4 l) hR hC l4 6
    rw [v4]
    refine h.mono ?_
    rintro e w' ⟨⟨he, hr⟩ | ⟨he, hr⟩, hc⟩
    · exact Or.inl ⟨he, hr, hc⟩
    · exact Or.inr ⟨he, d5 hr, hc⟩
  have HA5 : Hid (∀ W, RdB W b a n c (rs5 l) → Chg [b] W0 W → Calls Tryz.prog 64 #[.pointer (some ⟨b, 0, none⟩), .int .i64 6] W fun e w' => (e = .returned (.int .i64 x.prod) ∧ RdB w' b a n c (rs6 l) ∧ Chg [b] W0 w') ∨ (e = .panicked (refusal 22) ∧ (rs9 l).2 = true ∧ Chg [b] W0 w')) := fun W hR hC => by
    have h := HNum.out W (rs5 l) hR hC l5 6
    rw [v5]
    refine h.mono ?_
    rintro e w' ⟨⟨he, hr⟩ | ⟨he, hr⟩, hc⟩
    · exact Or.inl ⟨he, hr, hc⟩
    · exact Or.inr ⟨he, d6 hr, hc⟩
  have HA6 : Hid (∀ W, RdB W b a n c (rs6 l) → Chg [b] W0 W → Calls Tryz.prog 64 #[.pointer (some ⟨b, 0, none⟩), .int .i64 6] W fun e w' => (e = .returned (.int .i64 x.ep) ∧ RdB w' b a n c (rs7 l) ∧ Chg [b] W0 w') ∨ (e = .panicked (refusal 22) ∧ (rs9 l).2 = true ∧ Chg [b] W0 w')) := fun W hR hC => by
    have h := HNum.out W (rs6 l) hR hC l6 6
    rw [v6]
    refine h.mono ?_
    rintro e w' ⟨⟨he, hr⟩ | ⟨he, hr⟩, hc⟩
    · exact Or.inl ⟨he, hr, hc⟩
    · exact Or.inr ⟨he, d7 hr, hc⟩
  have HA7 : Hid (∀ W, RdB W b a n c (rs7 l) → Chg [b] W0 W → Calls Tryz.prog 64 #[.pointer (some ⟨b, 0, none⟩), .int .i64 6] W fun e w' => (e = .returned (.int .i64 x.now) ∧ RdB w' b a n c (rs8 l) ∧ Chg [b] W0 w') ∨ (e = .panicked (refusal 22) ∧ (rs9 l).2 = true ∧ Chg [b] W0 w')) := fun W hR hC => by
    have h := HNum.out W (rs7 l) hR hC l7 6
    rw [v7]
    refine h.mono ?_
    rintro e w' ⟨⟨he, hr⟩ | ⟨he, hr⟩, hc⟩
    · exact Or.inl ⟨he, hr, hc⟩
    · exact Or.inr ⟨he, d8 hr, hc⟩
  have HA8 : Hid (∀ W, RdB W b a n c (rs8 l) → Chg [b] W0 W → Calls Tryz.prog 66 #[.pointer (some ⟨b, 0, none⟩)] W fun e w' => (e = .returned (.string (nmS x.mem)) ∧ RdB w' b a n c (rs9 l) ∧ Chg [b] W0 w') ∨ (e = .panicked (refusal 22) ∧ (rs9 l).2 = true ∧ Chg [b] W0 w')) := fun W hR hC => by
    have h := HTxt.out W (rs8 l) hR hC l8
    rw [v8]
    refine h.mono ?_
    rintro e w' ⟨⟨he, hr⟩ | ⟨he, hr⟩, hc⟩
    · exact Or.inl ⟨he, hr, hc⟩
    · exact Or.inr ⟨he, d9 hr, hc⟩
  have HB0' := hid (HA0.out W0 (RdB.later h b0) (Chg.refl _ _))
  have HBl := hid hbl
  clear l0 l1 l2 l3 l4 l5 l6 l7 l8 d1 d2 d3 d4 d5 d6 d7 d8 d9 v0 v1 v2 v3 v4 v5 v6 v7 v8 hx h hp hne hll b0 z0 hbl HV HA0
  go_enter Tryz.func35, Tryz.ntmps35
  go_wp2_with (first
    | (go_at_call 64; (with_reducible_and_instances (refine HB0'.out.mono ?_)); rintro e w1 (⟨rfl, h1, hc1⟩ | ⟨rfl, h1, hc1⟩); rotate_left; (have HP9 := hid h1; have HQ9 := hid ((Chg.of (F := [b]) HB0.out).trans hc1 (fun k hk => Or.inl hk)); clear h1 hc1); rotate_left; (have HC1 := hid (HA1.out w1 h1 hc1); clear h1 hc1))
    | (go_at_call 65; (with_reducible_and_instances (refine HC1.out.mono ?_)); rintro e w2 (⟨rfl, h1, hc1⟩ | ⟨rfl, h1, hc1⟩); rotate_left; (have HP9 := hid h1; have HQ9 := hid ((Chg.of (F := [b]) HB0.out).trans hc1 (fun k hk => Or.inl hk)); clear h1 hc1); rotate_left; (have HC2 := hid (HA2.out w2 h1 hc1); clear h1 hc1))
    | (go_at_call 64; (with_reducible_and_instances (refine HC2.out.mono ?_)); rintro e w3 (⟨rfl, h1, hc1⟩ | ⟨rfl, h1, hc1⟩); rotate_left; (have HP9 := hid h1; have HQ9 := hid ((Chg.of (F := [b]) HB0.out).trans hc1 (fun k hk => Or.inl hk)); clear h1 hc1); rotate_left; (have HC3 := hid (HA3.out w3 h1 hc1); clear h1 hc1))
    | (go_at_call 64; (with_reducible_and_instances (refine HC3.out.mono ?_)); rintro e w4 (⟨rfl, h1, hc1⟩ | ⟨rfl, h1, hc1⟩); rotate_left; (have HP9 := hid h1; have HQ9 := hid ((Chg.of (F := [b]) HB0.out).trans hc1 (fun k hk => Or.inl hk)); clear h1 hc1); rotate_left; (have HC4 := hid (HA4.out w4 h1 hc1); clear h1 hc1))
    | (go_at_call 64; (with_reducible_and_instances (refine HC4.out.mono ?_)); rintro e w5 (⟨rfl, h1, hc1⟩ | ⟨rfl, h1, hc1⟩); rotate_left; (have HP9 := hid h1; have HQ9 := hid ((Chg.of (F := [b]) HB0.out).trans hc1 (fun k hk => Or.inl hk)); clear h1 hc1); rotate_left; (have HC5 := hid (HA5.out w5 h1 hc1); clear h1 hc1))
    | (go_at_call 64; (with_reducible_and_instances (refine HC5.out.mono ?_)); rintro e w6 (⟨rfl, h1, hc1⟩ | ⟨rfl, h1, hc1⟩); rotate_left; (have HP9 := hid h1; have HQ9 := hid ((Chg.of (F := [b]) HB0.out).trans hc1 (fun k hk => Or.inl hk)); clear h1 hc1); rotate_left; (have HC6 := hid (HA6.out w6 h1 hc1); clear h1 hc1))
    | (go_at_call 64; (with_reducible_and_instances (refine HC6.out.mono ?_)); rintro e w7 (⟨rfl, h1, hc1⟩ | ⟨rfl, h1, hc1⟩); rotate_left; (have HP9 := hid h1; have HQ9 := hid ((Chg.of (F := [b]) HB0.out).trans hc1 (fun k hk => Or.inl hk)); clear h1 hc1); rotate_left; (have HC7 := hid (HA7.out w7 h1 hc1); clear h1 hc1))
    | (go_at_call 64; (with_reducible_and_instances (refine HC7.out.mono ?_)); rintro e w8 (⟨rfl, h1, hc1⟩ | ⟨rfl, h1, hc1⟩); rotate_left; (have HP9 := hid h1; have HQ9 := hid ((Chg.of (F := [b]) HB0.out).trans hc1 (fun k hk => Or.inl hk)); clear h1 hc1); rotate_left; (have HC8 := hid (HA8.out w8 h1 hc1); clear h1 hc1))
    | (go_at_call 66; (with_reducible_and_instances (refine HC8.out.mono ?_)); rintro e w9 (⟨rfl, h1, hc1⟩ | ⟨rfl, h1, hc1⟩); rotate_left; (have HP9 := hid h1; have HQ9 := hid ((Chg.of (F := [b]) HB0.out).trans hc1 (fun k hk => Or.inl hk)); clear h1 hc1); rotate_left; (have HR9 := hid h1; have HC9 := hid hc1; have HZ9 := hid (HZ.out.chg hc1 (by have := HBl.out; simp; omega)); clear h1 hc1))
    | (refine store_ev x rfl (.tmp 2) (.tmp 21) rfl rfl rfl HZ9.out (by rfl) ?_; intro W9 hx9 hc9))
  all_goals (first | (exact ⟨rfl, Or.inr ⟨rfl, HP9.out⟩, HQ9.out⟩) | skip)
  refine bodyPost_ret (v := .agg (evA x)) (results_cell_row Tryz.results35 _ _ w.heap.size TEv _ (0, 0) _ rfl hx9 Tryz.underlying29 rfl (by kernel_rfl)) rfl ⟨Or.inl ⟨by rw [HX.out], ?_, HR9.out.2⟩, ?_⟩
  · exact Blk.chg HR9.out.1 hc9 (by have := HBl.out; simp; omega)
  · exact ((Chg.of (F := [b]) HB0.out).trans HC9.out (fun k hk => Or.inl hk)).trans hc9 (fun k hk => by simp at hk; exact Or.inr (by omega))
set_option maxRecDepth 100000 in
theorem catchE (g : Nat) (y0 y : Int) (w : World) (hb : Blk w g #[.int .i64 y0] 26) :
    CallsD Tryz.prog 62 #[.pointer (some ⟨g, 0, none⟩)] (.panicking (refusal y)) w fun e u' w' =>
      e = .returned (.tuple #[]) ∧ u' = .panicking [{ v := .iface 101 (.agg #[.int .i64 y]), recovered := true }] ∧ w' = (w.setCell ⟨g, 0, none⟩ (.int .i64 y)).alloc (.cells #[.int .i64 y] 101) := by
  have hc : w.cell? ⟨g, 0, none⟩ = some (.int .i64 y0) := hb.cell 0
  have hgl := hb.lt
  have hz := hb.free 0
  refine callsD_of_wpS Tryz.func62 rfl fun c₀ cs hu => ?_
  apply wpS_seq
  apply wpS_region
  simp [wpOpsS, go_sem, recoverD, hu, Tryz.ntmps62, Exit.thenS]
  simp only [Array.replicate_succ, Array.replicate_zero, List.push_toArray, List.append_toArray, List.nil_append, List.cons_append, List.setIfInBounds_toArray, List.set_cons_zero, List.set_cons_succ]
  refine wpS_of_wp ?_
  have hta : ∀ w : World, (Instr.typeAssert (.iface 101 (.agg #[.int .i64 y])) 20 101 true).run Tryz.prog w = .ok (.tuple #[.agg #[.int .i64 y], .bool true]) w := fun w => by kernel_rfl
  generalize hc1 : ({ c₀ with mode := FrameMode.panicking [{ v := .iface 101 (.agg #[.int .i64 y]), recovered := true }] } : Frame) = c1
  clear hu
  go_wp2
  exact ⟨rfl, _, by rw [← hc1], .tuple #[], by simp [results, Tryz.results62, go_sem], rfl, rfl, rfl⟩
set_option maxRecDepth 100000 in
theorem idleE (g : Nat) (w : World) :
    CallsD Tryz.prog 62 #[.pointer (some ⟨g, 0, none⟩)] .returning w fun e u' w' => e = .returned (.tuple #[]) ∧ u' = .returning ∧ w' = w := by
  refine callsD_of_wpS Tryz.func62 rfl fun c₀ cs hu => ?_
  apply wpS_seq
  apply wpS_region
  simp [wpOpsS, go_sem, recoverD, hu, Tryz.ntmps62, Exit.thenS]
  simp only [Array.replicate_succ, Array.replicate_zero, List.push_toArray, List.append_toArray, List.nil_append, List.cons_append, List.setIfInBounds_toArray, List.set_cons_zero, List.set_cons_succ]
  refine wpS_of_wp ?_
  have hc1 : c₀ = { c₀ with mode := FrameMode.returning } := by cases c₀; simp_all
  clear hu
  go_wp2
  exact ⟨rfl, _, by rw [← hc1], .tuple #[], by simp [results, Tryz.results62, go_sem], rfl, rfl, rfl⟩
theorem ret_ev_cells {fn : Func} {p q : Tmp} (h : fn.results = #[.cell p TEv, .cell q TEn]) (tmps : Array Value) (w : World) (g g2 : Nat) (x : Ev) (y : Int)
    (hp : tmps.getD p undef = .pointer (some ⟨g, 0, none⟩)) (hq : tmps.getD q undef = .pointer (some ⟨g2, 0, none⟩)) (hg : Blk w g (evA x) TEv) (hg2 : Blk w g2 #[.int .i64 y] TEn) :
    (results fn tmps).run Tryz.prog w = .ok (.tuple #[.agg (evA x), .int .i64 y]) w := by
  have hp' : tmps[p]?.getD undef = .pointer (some ⟨g, 0, none⟩) := by simpa using hp
  have hq' : tmps[q]?.getD undef = .pointer (some ⟨g2, 0, none⟩) := by simpa using hq
  have hl := run_loadVar_row (P := Tryz.prog) w g TEv TEv _ (0, 0) _ hg Tryz.underlying29 rfl (by kernel_rfl)
  have s3 : w.cell? ⟨g2, 0, none⟩ = some (.int .i64 y) := hg2.cell 0
  have s0 : w.cell? ⟨g, 0, none⟩ = some (.int .i64 x.kind) := hg.cell 0
  have s1 : w.cell? ⟨g, 1, none⟩ = some (.string (nmS x.mem)) := hg.cell 1
  have s2 : w.cell? ⟨g, 2, none⟩ = some (.int .i64 x.gen) := hg.cell 2
  have s4 : w.cell? ⟨g, 3, none⟩ = some (.int .i64 x.part) := hg.cell 3
  have s5 : w.cell? ⟨g, 4, none⟩ = some (.int .i64 x.off) := hg.cell 4
  have s6 : w.cell? ⟨g, 5, none⟩ = some (.int .i64 x.prod) := hg.cell 5
  have s7 : w.cell? ⟨g, 6, none⟩ = some (.int .i64 x.ep) := hg.cell 6
  have s8 : w.cell? ⟨g, 7, none⟩ = some (.int .i64 x.now) := hg.cell 7
  have s9 : w.cell? ⟨g, 8, none⟩ = some (.bool x.yes) := hg.cell 8
  clear hl
  simp [results, h, hp', hq', asAddr, go_sem, s0, s1, s2, s3, s4, s5, s6, s7, s8, s9]
/-- attempt: the event that work answers, or why it gave up. -/
theorem attemptE (f : Nat) (caps : Array Value) (w : World) (hf : ∀ args W, (callFunc f args).run Tryz.prog W = .ok (.enter f args) W) (R : Ev → Prop) (B : Int → Prop)
    (HC : Calls Tryz.prog f caps ((w.alloc (.cells evZA TEv)).alloc (.cells #[.int .i64 0] TEn)) fun e W => ((∃ x : Ev, e = .returned (.agg (evA x)) ∧ R x) ∨ (∃ y : Int, e = .panicked (refusal y) ∧ B y)) ∧ Below (w.heap.size + 2) ((w.alloc (.cells evZA TEv)).alloc (.cells #[.int .i64 0] TEn)) W) :
    Calls Tryz.prog 31 #[.func (.func f) #[] caps] w fun e w' => ((∃ x : Ev, e = .returned (.tuple #[.agg (evA x), .int .i64 0]) ∧ R x) ∨ (∃ y : Int, e = .returned (.tuple #[.agg (evA evZ), .int .i64 y]) ∧ B y)) ∧ Below w.heap.size w w' := by
  have hmf : ∀ (fn : Fn) (first cap : Array Value) (w : World), (Instr.makeFunc fn first cap).run Tryz.prog w = .ok (.func fn first cap) w := fun _ _ _ _ => rfl
  have HBX : Hid (∀ W, Below (w.heap.size + 2) ((w.alloc (.cells evZA TEv)).alloc (.cells #[.int .i64 0] TEn)) W → Blk W w.heap.size evZA TEv ∧ Blk W (w.heap.size + 1) #[.int .i64 0] TEn ∧ Below w.heap.size w W ∧ w.heap.size + 2 ≤ W.heap.size) := fun W hW => ⟨((show Blk _ w.heap.size _ _ from heap_alloc_new w (.cells evZA TEv)).later ((Below.refl _ _).alloc (Nat.le_refl _) _)).keep hW (by omega), (show Blk ((w.alloc (.cells evZA TEv)).alloc (.cells #[.int .i64 0] TEn)) (w.heap.size + 1) _ _ from by have := heap_alloc_new (w.alloc (.cells evZA TEv)) (.cells #[.int .i64 0] TEn); rwa [World.size_alloc] at this).keep hW (by omega), (((Below.refl _ w).alloc (Nat.le_refl _) _).alloc (by simp) _).trans (hW.mono (by omega)), by have := hW.size; simpa using this⟩
  have HC2 := HC.mono (fun e W hh => (show (((∃ x : Ev, e = .returned (.agg (evA x)) ∧ Hid (R x)) ∨ (∃ y : Int, e = .panicked (refusal y) ∧ Hid (B y))) ∧ Hid (Blk W w.heap.size evZA TEv ∧ Blk W (w.heap.size + 1) #[.int .i64 0] TEn ∧ Below w.heap.size w W ∧ w.heap.size + 2 ≤ W.heap.size)) from ⟨hh.1, HBX.out W hh.2⟩))
  clear HC HBX
  go_enter_defers Tryz.func31, Tryz.ntmps31
  go_wp2_with (first
    | (refine HC2.mono ?_; rintro e W ⟨⟨x, rfl, HG⟩ | ⟨y, rfl, HBy⟩, HK⟩)
    | (refine store_ev x rfl (.tmp 2) (.tmp 6) rfl rfl rfl HK.out.1 (by rfl) ?_; intro W9 hx9 hc9; have K9 := hid (HK.out.2.1.chg hc9 (by simp)); have q9 : W9.cell? ⟨w.heap.size + 1, 0, none⟩ = some (.int .i64 0) := K9.out.cell 0; have f9 := K9.out.free 0))
  · refine leaves_cons (f := 62) (args := #[.pointer (some ⟨w.heap.size + 1, 0, none⟩)]) (by simp) (by simp [go_sem]) ?_
    refine (idleE _ _).mono ?_
    rintro e u' w'' ⟨rfl, rfl, rfl⟩
    obtain ⟨k0, k1, hbl, hsz⟩ := HK.out
    have m0 := Blk.other (C := w.heap.size + 1) hx9 (by omega) 0 (.int .i64 0)
    have m1 := K9.out.set 0 (.int .i64 0)
    refine ⟨.tuple #[.agg (evA x), .int .i64 0], ret_ev_cells Tryz.results31 _ _ w.heap.size (w.heap.size + 1) x 0 rfl rfl m0 m1, Or.inl ⟨x, rfl, HG.out⟩, ?_⟩
    exact (hbl.trans (hc9.below (fun k hk => by simp at hk; omega) hbl.size)).setCell (p := ⟨w.heap.size + 1, 0, none⟩) (Nat.le_succ _) _
  · obtain ⟨k0, k1, hbl, hsz⟩ := HK.out
    refine leaves_cons (f := 62) (args := #[.pointer (some ⟨w.heap.size + 1, 0, none⟩)]) (by simp) (by simp [go_sem]) ?_
    refine (catchE (w.heap.size + 1) 0 y W k1).mono ?_
    rintro e u' w'' ⟨rfl, rfl, rfl⟩
    have m0 := (Blk.other (C := w.heap.size + 1) k0 (by omega) 0 (.int .i64 y)).later ((Below.refl _ _).alloc (Nat.le_refl _) (.cells #[.int .i64 y] 101))
    have m1 := (k1.set 0 (.int .i64 y)).later ((Below.refl _ _).alloc (Nat.le_refl _) (.cells #[.int .i64 y] 101))
    refine ⟨.tuple #[.agg (evA evZ), .int .i64 y], ret_ev_cells Tryz.results31 _ _ w.heap.size (w.heap.size + 1) evZ y rfl rfl m0 m1, Or.inr ⟨y, rfl, HBy.out⟩, ?_⟩
    exact (hbl.setCell (p := ⟨w.heap.size + 1, 0, none⟩) (Nat.le_succ _) _).alloc (by simp [World.setCell]; omega) _
end Go.Proofs.YtiiepmljcjbflaaGreat
