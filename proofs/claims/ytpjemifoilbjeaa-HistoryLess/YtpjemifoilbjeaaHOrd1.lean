/- Steps of an order, and how two of them compare: order's own function. -/
import Derived.Test.YtpjemifoilbjeaaHUnd
import Derived.Test.YtpjemifoilbjeaaHPut
namespace Go.Proofs.Ytpjemifoilbjeaa
open Go.RowKit Go.Sort Go.Lib Hy
variable {w w' W : World}

abbrev kSt : Kd Stp := ⟨75, 55, 3, 24, fun x => [.int .i64 x.1, .int .i64 x.2.1, .int .i64 x.2.2], (0, 0, 0), .agg #[.int .i64 0, .int .i64 0, .int .i64 0]⟩
theorem kSt_ok : kSt.ok := ⟨⟨fun _ => rfl, by decide⟩, fun a v hv => by (have : v = .int .i64 a.1 ∨ v = .int .i64 a.2.1 ∨ v = .int .i64 a.2.2 := by simpa using hv); rcases this with rfl | rfl | rfl <;> rfl, by kernel_rfl, rfl, Try.underlying55⟩
/-- The first that is not 0. -/
def orZ (x y : Int) : Int := if x = 0 then y else x
set_option maxRecDepth 20000 in
set_option maxHeartbeats 4000000 in
theorem or_any {g : Nat} {x y : Int} (h1 : w.cell? ⟨g, 0, none⟩ = some (.int .i64 x)) (h2 : w.cell? ⟨g, 1, none⟩ = some (.int .i64 y)) : Calls Try.prog 40 #[.slice (some ⟨g, 0, none⟩) 2 2] w fun e w' => e = .returned (.int .i64 (orZ x y)) ∧ w' = w := by
  by_cases hx : x = 0
  · have HO : Hid (orZ x y = y) := if_pos hx
    subst hx
    by_cases hy : y = 0
    · subst hy
      go_enter Try.func40, Try.ntmps40
      go_wp2_with fail
      go_loopw [8] (fun iv wr => ∃ i : Nat, i ≤ 2 ∧ iv = .int .i64 (i : Int) ∧ wr = w) (fun iv _ => 2 - (intOf iv).toNat)
      case atStart => exact ⟨0, by omega, rfl, rfl⟩
      case round =>
        obtain ⟨i, hi, rfl, rfl⟩ := hrel
        by_cases hlt : i < 2
        · have hc : wr.cell? ⟨g, i, none⟩ = some (.int .i64 0) := by
            rcases (show i = 0 ∨ i = 1 by omega) with rfl | rfl
            · exact h1
            · exact h2
          go_wp2_with fail
          exact ⟨⟨i + 1, by omega, by first | rfl | simp⟩, by simp [intOf]; try omega⟩
        · obtain rfl : i = 2 := by omega
          go_wp2_with fail
          go_ret
          exact ⟨by rw [HO.out]; try rfl, rfl⟩
    · have hyb : (y == 0) = false := by simp [hy]
      go_enter Try.func40, Try.ntmps40
      go_wp2_with fail
      go_loopw [8] (fun iv wr => ∃ i : Nat, i ≤ 1 ∧ iv = .int .i64 (i : Int) ∧ wr = w) (fun iv _ => 2 - (intOf iv).toNat)
      case atStart => exact ⟨0, by omega, rfl, rfl⟩
      case round =>
        obtain ⟨i, hi, rfl, rfl⟩ := hrel
        by_cases hlt : i < 1
        · obtain rfl : i = 0 := by omega
          go_wp2_with fail
          exact ⟨⟨1, by omega, by first | rfl | simp⟩, by simp [intOf]⟩
        · obtain rfl : i = 1 := by omega
          go_wp2_with fail
          go_ret
          exact ⟨by rw [HO.out]; try rfl, rfl⟩
  · have HO : Hid (orZ x y = x) := if_neg hx
    have hxb : (x == 0) = false := by simp [hx]
    go_enter Try.func40, Try.ntmps40
    go_wp2_with fail
    go_loopw [8] (fun iv wr => iv = .int .i64 0 ∧ wr = w) (fun iv _ => 2 - (intOf iv).toNat)
    case atStart => exact ⟨rfl, rfl⟩
    case round =>
      obtain ⟨rfl, rfl⟩ := hrel
      go_wp2_with fail
      go_ret
      exact ⟨by rw [HO.out]; try rfl, rfl⟩
/-- By level, and by beginning. -/
def cmpSt (x y : Stp) : Int := orZ (Lib.compareInt x.1 y.1) (Lib.compareInt x.2.1 y.2.1)
def ltSt (x y : Stp) : Prop := x.1 < y.1 ∨ (x.1 = y.1 ∧ x.2.1 < y.2.1)
theorem cmpSt_lt (x y : Stp) : ltOf cmpSt x y = true ↔ ltSt x y := by
  unfold ltOf cmpSt orZ ltSt Lib.compareInt
  rw [decide_eq_true_eq]
  by_cases h1 : x.1 < y.1
  · simp [h1]
  · by_cases h2 : y.1 < x.1
    · have : ¬ x.1 = y.1 := by omega
      simp [h1, h2, this]
    · have h3 : x.1 = y.1 := by omega
      by_cases h4 : x.2.1 < y.2.1
      · simp [h3, h4]
      · by_cases h5 : y.2.1 < x.2.1 <;> simp [h3, h4, h5]
theorem cmpSt_nlt (x y : Stp) : ltOf cmpSt x y = false ↔ ¬ ltSt x y := by
  rw [← cmpSt_lt]
  simp
theorem swoSt : SWO (ltOf cmpSt) where
  irrefl x := by rw [cmpSt_nlt]; unfold ltSt; omega
  trans x y z h1 h2 := by rw [cmpSt_lt] at *; unfold ltSt at *; omega
  ntrans x y z h1 h2 := by rw [cmpSt_nlt] at *; unfold ltSt at *; omega
set_option maxRecDepth 20000 in
set_option maxHeartbeats 4000000 in
theorem order1_any (x y : Stp) (U : World) : Calls Try.prog 39 #[.agg #[.int .i64 x.1, .int .i64 x.2.1, .int .i64 x.2.2], .agg #[.int .i64 y.1, .int .i64 y.2.1, .int .i64 y.2.2]] U fun e w' => e = .returned (.int .i64 (cmpSt x y)) ∧ ∃ q os', w' = grow (U.drewN q) os' := by
  obtain ⟨x1, x2, x3⟩ := x
  obtain ⟨y1, y2, y3⟩ := y
  have hcon := fun a b U' => AnyG.cmp_Compare_int Try.compareInts a b U'
  change ∀ a b U', Calls Try.prog 41 _ _ _ at hcon
  have HC1 := hid (hcon x1 y1)
  have HC2 := hid (hcon x2 y2)
  show Calls Try.prog 39 #[.agg #[.int .i64 x1, .int .i64 x2, .int .i64 x3], .agg #[.int .i64 y1, .int .i64 y2, .int .i64 y3]] U fun e w' => e = .returned (.int .i64 (orZ (Lib.compareInt x1 y1) (Lib.compareInt x2 y2))) ∧ ∃ q os', w' = grow (U.drewN q) os'
  clear hcon
  generalize Lib.compareInt x1 y1 = r1 at *
  generalize Lib.compareInt x2 y2 = r2 at *
  have hX : Blk ((U.alloc (.cells #[.int .i64 x1, .int .i64 x2, .int .i64 x3] 75)).alloc (.cells #[.int .i64 y1, .int .i64 y2, .int .i64 y3] 75)) U.heap.size #[.int .i64 x1, .int .i64 x2, .int .i64 x3] 75 := Blk.later (heap_alloc_new U _) ((Below.refl _ _).alloc (Nat.le_refl _) _)
  have hY : Blk ((U.alloc (.cells #[.int .i64 x1, .int .i64 x2, .int .i64 x3] 75)).alloc (.cells #[.int .i64 y1, .int .i64 y2, .int .i64 y3] 75)) (U.heap.size + 1) #[.int .i64 y1, .int .i64 y2, .int .i64 y3] 75 := by
    have h := heap_alloc_new (U.alloc (.cells #[.int .i64 x1, .int .i64 x2, .int .i64 x3] 75)) (.cells #[.int .i64 y1, .int .i64 y2, .int .i64 y3] 75)
    rw [World.size_alloc] at h
    exact h
  have k0 := hX.cell 0
  have k1 := hX.cell 1
  have k2 := hY.cell 0
  have k3 := hY.cell 1
  obtain ⟨Z, hZ⟩ : ∃ Z, ((U.alloc (.cells #[.int .i64 x1, .int .i64 x2, .int .i64 x3] 75)).alloc (.cells #[.int .i64 y1, .int .i64 y2, .int .i64 y3] 75)).drew = Z := ⟨_, rfl⟩
  have hzs : Z.heap.size = U.heap.size + 1 + 1 := by rw [← hZ]; simp [World.drew]
  have hX2 : Blk (Z.alloc (.cells #[.int .i64 r1, .int .i64 r2] 3)) U.heap.size #[.int .i64 x1, .int .i64 x2, .int .i64 x3] 75 := by
    rw [← hZ]
    exact Blk.later (w := ((U.alloc _).alloc _).drew) hX ((Below.refl _ _).alloc (Nat.le_refl _) _)
  have hY2 : Blk (Z.alloc (.cells #[.int .i64 r1, .int .i64 r2] 3)) (U.heap.size + 1) #[.int .i64 y1, .int .i64 y2, .int .i64 y3] 75 := by
    rw [← hZ]
    exact Blk.later (w := ((U.alloc _).alloc _).drew) hY ((Below.refl _ _).alloc (Nat.le_refl _) _)
  have hR : Blk (Z.alloc (.cells #[.int .i64 r1, .int .i64 r2] 3)) (U.heap.size + 1 + 1) #[.int .i64 r1, .int .i64 r2] 3 := by
    have h := heap_alloc_new Z (.cells #[.int .i64 r1, .int .i64 r2] 3)
    rw [hzs] at h
    exact h
  have j0 := hX2.cell 0
  have j1 := hX2.cell 1
  have j2 := hY2.cell 0
  have j3 := hY2.cell 1
  have HOr := hid (or_any (hR.cell 0) (hR.cell 1))
  rw [← hZ] at j0 j1 j2 j3 HOr
  have HW : Hid (((U.alloc (.cells #[.int .i64 x1, .int .i64 x2, .int .i64 x3] 75)).alloc (.cells #[.int .i64 y1, .int .i64 y2, .int .i64 y3] 75)).drew.alloc (.cells #[.int .i64 r1, .int .i64 r2] 3) = grow (U.drewN 1) #[.cells #[.int .i64 x1, .int .i64 x2, .int .i64 x3] 75, .cells #[.int .i64 y1, .int .i64 y2, .int .i64 y3] 75, .cells #[.int .i64 r1, .int .i64 r2] 3]) := by
    show _ = _
    simp only [alloc_eq_grow]
    rw [grow_grow, show ∀ (V : World) (os : Array Obj), (grow V os).drew = grow V.drew os from fun _ _ => rfl, grow_grow]
    rfl
  clear hX hY hX2 hY2 hR hZ hzs
  go_enter Try.func39, Try.ntmps39
  go_wp2_with fail
  refine wp_region_held_drew (S := fun W => W.cell? ⟨U.heap.size, 0, none⟩ = some (.int .i64 x1) ∧ W.cell? ⟨U.heap.size, 1, none⟩ = some (.int .i64 x2) ∧ W.cell? ⟨U.heap.size + 1, 0, none⟩ = some (.int .i64 y1) ∧ W.cell? ⟨U.heap.size + 1, 1, none⟩ = some (.int .i64 y2)) (by kernel_rfl) (⟨k0, k1, k2, k3⟩) (fun hHeld => ?_)
  refine wpAnyH_take (i := 0) (oi := { dst := some 5, op := Op.fieldAddr 75 (Operand.tmp 2) 0, type := 0, pos := "order.go:33", after := #[], guard := none }) (v := ?_) rfl (by kernel_rfl) (by kernel_rfl) (by kernel_rfl) (fun _ _ _ h => h) (Or.inl ⟨by rfl, ?_⟩) hHeld ?_
  rotate_left
  · intro w hSw; (try dsimp only at hSw); go_simp; try with_reducible rfl
  try simp only [Act.put, List.setIfInBounds_toArray, List.set_cons_zero, List.set_cons_succ]
  refine wpAnyH_take (i := 1) (oi := { dst := some 6, op := Op.load 3 (Operand.tmp 5), type := 3, pos := "order.go:33", after := #[{ on := 0, ground := Ground.data }], guard := none }) (v := ?_) rfl (by kernel_rfl) (by kernel_rfl) (by kernel_rfl) (fun _ _ _ h => h) (Or.inl ⟨by rfl, ?_⟩) hHeld ?_
  rotate_left
  · intro w hSw; (try dsimp only at hSw); go_simp; try with_reducible rfl
  try simp only [Act.put, List.setIfInBounds_toArray, List.set_cons_zero, List.set_cons_succ]
  refine wpAnyH_take (i := 2) (oi := { dst := some 7, op := Op.fieldAddr 75 (Operand.tmp 3) 0, type := 0, pos := "order.go:33", after := #[], guard := none }) (v := ?_) rfl (by kernel_rfl) (by kernel_rfl) (by kernel_rfl) (fun _ _ _ h => h) (Or.inl ⟨by rfl, ?_⟩) hHeld ?_
  rotate_left
  · intro w hSw; (try dsimp only at hSw); go_simp; try with_reducible rfl
  try simp only [Act.put, List.setIfInBounds_toArray, List.set_cons_zero, List.set_cons_succ]
  refine wpAnyH_take (i := 3) (oi := { dst := some 8, op := Op.load 3 (Operand.tmp 7), type := 3, pos := "order.go:33", after := #[{ on := 2, ground := Ground.data }], guard := none }) (v := ?_) rfl (by kernel_rfl) (by kernel_rfl) (by kernel_rfl) (fun _ _ _ h => h) (Or.inl ⟨by rfl, ?_⟩) hHeld ?_
  rotate_left
  · intro w hSw; (try dsimp only at hSw); go_simp; try with_reducible rfl
  try simp only [Act.put, List.setIfInBounds_toArray, List.set_cons_zero, List.set_cons_succ]
  refine wpAnyH_take (i := 5) (oi := { dst := some 10, op := Op.fieldAddr 75 (Operand.tmp 2) 1, type := 0, pos := "order.go:33", after := #[], guard := none }) (v := ?_) rfl (by kernel_rfl) (by kernel_rfl) (by kernel_rfl) (fun _ _ _ h => h) (Or.inl ⟨by rfl, ?_⟩) hHeld ?_
  rotate_left
  · intro w hSw; (try dsimp only at hSw); go_simp; try with_reducible rfl
  try simp only [Act.put, List.setIfInBounds_toArray, List.set_cons_zero, List.set_cons_succ]
  refine wpAnyH_take (i := 6) (oi := { dst := some 11, op := Op.load 3 (Operand.tmp 10), type := 3, pos := "order.go:33", after := #[{ on := 5, ground := Ground.data }], guard := none }) (v := ?_) rfl (by kernel_rfl) (by kernel_rfl) (by kernel_rfl) (fun _ _ _ h => h) (Or.inl ⟨by rfl, ?_⟩) hHeld ?_
  rotate_left
  · intro w hSw; (try dsimp only at hSw); go_simp; try with_reducible rfl
  try simp only [Act.put, List.setIfInBounds_toArray, List.set_cons_zero, List.set_cons_succ]
  refine wpAnyH_take (i := 7) (oi := { dst := some 12, op := Op.fieldAddr 75 (Operand.tmp 3) 1, type := 0, pos := "order.go:33", after := #[], guard := none }) (v := ?_) rfl (by kernel_rfl) (by kernel_rfl) (by kernel_rfl) (fun _ _ _ h => h) (Or.inl ⟨by rfl, ?_⟩) hHeld ?_
  rotate_left
  · intro w hSw; (try dsimp only at hSw); go_simp; try with_reducible rfl
  try simp only [Act.put, List.setIfInBounds_toArray, List.set_cons_zero, List.set_cons_succ]
  refine wpAnyH_take (i := 8) (oi := { dst := some 13, op := Op.load 3 (Operand.tmp 12), type := 3, pos := "order.go:33", after := #[{ on := 7, ground := Ground.data }], guard := none }) (v := ?_) rfl (by kernel_rfl) (by kernel_rfl) (by kernel_rfl) (fun _ _ _ h => h) (Or.inl ⟨by rfl, ?_⟩) hHeld ?_
  rotate_left
  · intro w hSw; (try dsimp only at hSw); go_simp; try with_reducible rfl
  try simp only [Act.put, List.setIfInBounds_toArray, List.set_cons_zero, List.set_cons_succ]
  refine wpAnyH_ready (rs := [4]) (by kernel_rfl) (by simp) ?_
  refine AllReadyH.cons rfl (fun K hK => ?_) (AllReadyH.nil)
  go_simp
  go_wp2_with (go_at_call 41; refine (HC1.out _).mono ?_; rintro e w5 ⟨rfl, hw5⟩; obtain rfl := hw5.symm)
  refine hK.out _ _ (⟨k0, k1, k2, k3⟩) (fun hHeld => ?_)
  clear hK K
  try simp only [Act.put, List.setIfInBounds_toArray, List.set_cons_zero, List.set_cons_succ]
  refine wpAnyH_ready (rs := [9]) (by kernel_rfl) (by simp) ?_
  refine AllReadyH.cons rfl (fun K hK => ?_) (AllReadyH.nil)
  go_simp
  go_wp2_with (go_at_call 41; refine (HC2.out _).mono ?_; rintro e w5 ⟨rfl, hw5⟩; obtain rfl := hw5.symm)
  refine hK.out _ _ (⟨k0, k1, k2, k3⟩) (fun hHeld => ?_)
  clear hK K
  try simp only [Act.put, List.setIfInBounds_toArray, List.set_cons_zero, List.set_cons_succ]
  refine wpAnyH_ready (rs := [10]) (by kernel_rfl) (by simp) ?_
  refine AllReadyH.cons rfl (fun K hK => ?_) (AllReadyH.nil)
  go_simp
  refine hK.out _ _ (⟨j0, j1, j2, j3⟩) (fun hHeld => ?_)
  clear hK K
  try simp only [Act.put, List.setIfInBounds_toArray, List.set_cons_zero, List.set_cons_succ]
  refine wpAnyH_ready (rs := [11]) (by kernel_rfl) (by simp) ?_
  refine AllReadyH.cons rfl (fun K hK => ?_) (AllReadyH.nil)
  go_simp
  go_wp2_with (go_at_call 40; refine HOr.out.mono ?_; rintro e w5 ⟨rfl, hw5⟩; obtain rfl := hw5.symm)
  refine hK.out _ _ (⟨j0, j1, j2, j3⟩) (fun hHeld => ?_)
  clear hK K
  try simp only [Act.put, List.setIfInBounds_toArray, List.set_cons_zero, List.set_cons_succ]
  refine wpAnyH_take (i := 12) (oi := { dst := some 4, op := Op.assign (Operand.tmp 16), type := 3, pos := "order.go:33", after := #[{ on := 11, ground := Ground.data }, { on := 11, ground := Ground.chain }, { on := 0, ground := Ground.phase }, { on := 1, ground := Ground.phase }, { on := 2, ground := Ground.phase }, { on := 3, ground := Ground.phase }, { on := 4, ground := Ground.phase }, { on := 5, ground := Ground.phase }, { on := 6, ground := Ground.phase }, { on := 7, ground := Ground.phase }, { on := 8, ground := Ground.phase }, { on := 9, ground := Ground.phase }, { on := 10, ground := Ground.phase }, { on := 11, ground := Ground.phase }], guard := none }) (v := ?_) rfl (by kernel_rfl) (by kernel_rfl) (by kernel_rfl) (fun _ _ _ h => h) (Or.inl ⟨by rfl, ?_⟩) hHeld ?_
  rotate_left
  · intro w hSw; (try dsimp only at hSw); go_simp; try with_reducible rfl
  try simp only [Act.put, List.setIfInBounds_toArray, List.set_cons_zero, List.set_cons_succ]
  refine wpAnyH_done (by kernel_rfl) ?_ _
  clear hHeld
  go_wp2_with fail
  go_ret
  exact ⟨rfl, 1, _, HW.out⟩
end Go.Proofs.Ytpjemifoilbjeaa
