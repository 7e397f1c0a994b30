/- The looks of package store: made, powerless, look, Tail, Free; fall. -/
import Derived.Test.YtoopnafdpenofaaGreatSPic
import Derived.Test.YtoopnafdpenofaaGreatDTake
namespace Go.Proofs.YtoopnafdpenofaaGreat
open Go.RowKit
variable {w w' : World} {FD G : List Nat} {S D X Y : Nat} {fx fy : Lit → Option Value} {A : Nat → Nat → Value} {s : SSt}

set_option maxRecDepth 100000 in
theorem SPic.lookY (h : SPic w FD G S D X Y fx fy A s) (i : Int) (h1 : -9223372036854775808 ≤ i) (h2 : i ≤ 9223372036854775807) : (Instr.lookup 53 (.map (some Y)) (.int .i64 i) false).run Tryz.prog w = .ok (logV (s.look i)) w := by
  have hk : keyOf Tryz.prog 3 (.int .i64 i) = some (.int .i64 i) := Maps.keyOf_int_mk Tryz.underlying3 (by have e1 : IntKind.i64.min = -9223372036854775808 := rfl; have e2 : IntKind.i64.max = 9223372036854775807 := rfl; simp [Lit.wf, e1, e2]; omega)
  rw [h.hY.look keyI Tryz.underlying53 (Tryz.zeroValue96 w) hk]
  congr 1
  unfold SSt.look
  by_cases h0 : 0 ≤ i
  · rw [if_pos h0]
    obtain ⟨n, rfl⟩ : ∃ n : Nat, i = n := ⟨i.toNat, by omega⟩
    have := h.getY n
    unfold kI at this
    rw [this]
    unfold SSt.log
    simp only [Int.toNat_natCast]
    cases s.logs n <;> rfl
  · rw [if_neg h0]
    cases hf : fy (.int .i64 i) with
    | none => rfl
    | some v =>
      obtain ⟨n, _, e⟩ := h.supY _ _ hf
      unfold kI at e
      injection e with _ e
      omega
set_option maxRecDepth 100000 in
set_option maxHeartbeats 1000000 in
theorem smade_pic (h : SPic w FD G S D X Y fx fy A s) : Calls Tryz.prog 47 #[.pointer (some ⟨S, 0, none⟩)] w fun e w' => e = .returned (.bool true) ∧ w' = w := by
  obtain ⟨c0, -⟩ := h.cells
  clear h
  go_enter Tryz.func47, Tryz.ntmps47
  go_wp2
  all_goals go_ret
  all_goals simp
set_option maxRecDepth 100000 in
set_option maxHeartbeats 1000000 in
theorem powerless_pic (h : SPic w FD G S D X Y fx fy A s) : Calls Tryz.prog 51 #[.pointer (some ⟨S, 0, none⟩)] w fun e w' => e = .returned (.bool s.down) ∧ w' = w := by
  obtain ⟨c0, -, -, -, -, c5⟩ := h.cells
  obtain ⟨B, M, Dm, V, C, hd⟩ := h.disk
  have hdn := down_pic hd
  unfold SSt.down
  generalize s.d.off = off at *
  generalize s.fallen = fallen at *
  clear h hd
  cases fallen
  · go_enter Tryz.func51, Tryz.ntmps51
    go_wp2_with (go_at_call 40; refine hdn.mono ?_; rintro e w' ⟨rfl, hw'⟩; obtain rfl := hw'.symm)
    all_goals go_ret
    all_goals simp
  · go_enter Tryz.func51, Tryz.ntmps51
    go_wp2
    all_goals go_ret
    all_goals simp
set_option maxRecDepth 100000 in
set_option maxHeartbeats 1000000 in
theorem look_pic (h : SPic w FD G S D X Y fx fy A s) (i : Int) (h1 : -9223372036854775808 ≤ i) (h2 : i ≤ 9223372036854775807) : Calls Tryz.prog 55 #[.pointer (some ⟨S, 0, none⟩), .int .i64 i] w fun e w' => e = .returned (logV (s.look i)) ∧ Below w.heap.size w w' := by
  obtain ⟨-, -, c2, -⟩ := h.cells
  have b1 : Below w.heap.size w (w.alloc (.cells #[.int .i64 0, .int .i64 0, .bool false] 96)) := (Below.refl _ w).alloc (Nat.le_refl _) _
  have h3 := h.below b1
  obtain ⟨-, -, c2', -⟩ := h3.cells
  have hm := smade_pic h3
  have hl := h3.lookY i h1 h2
  have hS := h.ltS
  unfold logV at *
  generalize s.look i = x at *
  clear h h3 b1
  go_enter Tryz.func55, Tryz.ntmps55
  go_wp2_with (go_at_call 47; refine hm.mono ?_; rintro e w' ⟨rfl, hw'⟩; obtain rfl := hw'.symm)
  refine bodyPost_ret (v := .agg #[.int .i64 (x.tail : Int), .int .i64 (x.trim : Int), .bool x.sealed]) (by simp [results, Tryz.results55, go_sem]) rfl ⟨rfl, ?_⟩
  exact (Below.refl _ w).alloc (Nat.le_refl _) _
set_option maxRecDepth 100000 in
set_option maxHeartbeats 1000000 in
theorem fld52 (a b c : Value) (W : World) : (Instr.field 96 (.agg #[a, b, c]) 0).run Tryz.prog W = .ok a W ∧ (Instr.field 96 (.agg #[a, b, c]) 1).run Tryz.prog W = .ok b W ∧ (Instr.field 96 (.agg #[a, b, c]) 2).run Tryz.prog W = .ok c W := by
  refine ⟨?_, ?_, ?_⟩ <;> simp [Instr.field, go_sem, asAgg]
set_option maxRecDepth 100000 in
set_option maxHeartbeats 1000000 in
theorem tail_pic (h : SPic w FD G S D X Y fx fy A s) (i : Int) (h1 : -9223372036854775808 ≤ i) (h2 : i ≤ 9223372036854775807) : Calls Tryz.prog 18 #[.pointer (some ⟨S, 0, none⟩), .int .i64 i] w fun e w' => e = .returned (.int .i64 ((s.look i).tail : Nat)) ∧ Below w.heap.size w w' := by
  have hl := look_pic h i h1 h2
  unfold logV at hl
  have hf := fun W => (fld52 (.int .i64 ((s.look i).tail : Int)) (.int .i64 ((s.look i).trim : Int)) (.bool (s.look i).sealed) W).1
  clear h
  go_enter Tryz.func18, Tryz.ntmps18
  go_wp2_with (go_at_call 55; refine hl.mono ?_; rintro e w' ⟨rfl, hb⟩)
  go_ret
  exact ⟨rfl, hb⟩
set_option maxRecDepth 100000 in
set_option maxHeartbeats 1000000 in
theorem fall_pic (h : SPic w FD G S D X Y fx fy A s) : Calls Tryz.prog 81 #[.pointer (some ⟨S, 0, none⟩)] w fun e w' => e = .returned (.int .i64 8) ∧ SPic w' FD G S D X Y fx fy A { s with fallen := true } ∧ Chg [S] w w' := by
  obtain ⟨-, -, -, -, -, c5⟩ := h.cells
  have f5 := h.free 5
  have hc : Chg [S] w (w.setCell ⟨S, 5, none⟩ (.bool true)) := (Chg.refl [S] w).set (Or.inl (by simp)) _ _
  have HP : Hid (SPic w FD G S D X Y fx fy A s) := h
  clear h
  go_enter Tryz.func81, Tryz.ntmps81
  go_wp2
  go_ret
  exact ⟨rfl, HP.out.setS hc (heap_setCell_same w S 5 _ TS _ HP.out.hS) rfl rfl ⟨HP.out.ok.slots, HP.out.ok.logs, HP.out.ok.num, HP.out.ok.fin⟩, hc⟩
end Go.Proofs.YtoopnafdpenofaaGreat

/- The calls on no store, and on one that nobody made; Open of no disk. -/
namespace Go.Proofs.YtoopnafdpenofaaGreat
open Go.RowKit
variable {w : World} {v : Value}

def zeroStore : Array Value := #[.pointer none, .map none, .map none, .int .i64 0, .int .i64 0, .bool false]
/-- No store, or one that nobody made. -/
def NoStore (w : World) (v : Value) : Prop := v = .pointer none ∨ ∃ S, v = .pointer (some ⟨S, 0, none⟩) ∧ w.heap[S]? = some (.cells zeroStore TS (0, 0))
theorem NoStore.later {w' : World} (h : NoStore w v) (hb : Below w.heap.size w w') : NoStore w' v := by
  rcases h with h | ⟨D, h1, h2⟩
  · exact Or.inl h
  · exact Or.inr ⟨D, h1, (hb.block D (Array.getElem?_eq_some_iff.1 h2).1).trans h2⟩
set_option maxRecDepth 100000 in
theorem smade_no (h : NoStore w v) : Calls Tryz.prog 47 #[v] w fun e w' => e = .returned (.bool false) ∧ w' = w := by
  rcases h with rfl | ⟨D, rfl, hD⟩
  · go_enter Tryz.func47, Tryz.ntmps47
    go_wp2
    all_goals go_ret
    all_goals simp
  · have c0 : w.cell? ⟨D, 0, none⟩ = some (.pointer none) := by rw [cell_of_row _ _ _ _ _ _ hD]; rfl
    clear hD
    go_enter Tryz.func47, Tryz.ntmps47
    go_wp2
    all_goals go_ret
    all_goals simp
set_option maxRecDepth 100000 in
set_option maxHeartbeats 1000000 in
theorem sput_no (h : NoStore w v) (l p : Int) (ad : Option Addr) (len cap : Nat) (r : Bool) : Calls Tryz.prog 15 #[v, .int .i64 l, .int .i64 p, .slice ad len cap, .bool r] w fun e w' => e = .returned (.int .i64 1) ∧ w' = w := by
  have hm := smade_no h
  clear h
  go_enter Tryz.func15, Tryz.ntmps15
  go_wp2_with (go_at_call 47; refine hm.mono ?_; rintro e w' ⟨rfl, hw'⟩; obtain rfl := hw'.symm)
  go_ret
  exact ⟨rfl, rfl⟩
set_option maxRecDepth 100000 in
set_option maxHeartbeats 1000000 in
theorem sseal_no (h : NoStore w v) (l : Int) : Calls Tryz.prog 16 #[v, .int .i64 l] w fun e w' => e = .returned (.int .i64 1) ∧ w' = w := by
  have hm := smade_no h
  clear h
  go_enter Tryz.func16, Tryz.ntmps16
  go_wp2_with (go_at_call 47; refine hm.mono ?_; rintro e w' ⟨rfl, hw'⟩; obtain rfl := hw'.symm)
  go_ret
  exact ⟨rfl, rfl⟩
set_option maxRecDepth 100000 in
set_option maxHeartbeats 1000000 in
theorem strim_no (h : NoStore w v) (l p : Int) : Calls Tryz.prog 17 #[v, .int .i64 l, .int .i64 p] w fun e w' => e = .returned (.int .i64 1) ∧ w' = w := by
  have hm := smade_no h
  clear h
  go_enter Tryz.func17, Tryz.ntmps17
  go_wp2_with (go_at_call 47; refine hm.mono ?_; rintro e w' ⟨rfl, hw'⟩; obtain rfl := hw'.symm)
  go_ret
  exact ⟨rfl, rfl⟩
set_option maxRecDepth 100000 in
set_option maxHeartbeats 1000000 in
theorem sget_no (h : NoStore w v) (l p : Int) : Calls Tryz.prog 14 #[v, .int .i64 l, .int .i64 p] w fun e w' => e = .returned (.tuple #[.slice none 0 0, .int .i64 1]) ∧ w' = w := by
  have hm := smade_no h
  clear h
  go_enter Tryz.func14, Tryz.ntmps14
  go_wp2_with (go_at_call 47; refine hm.mono ?_; rintro e w' ⟨rfl, hw'⟩; obtain rfl := hw'.symm)
  go_ret2
  exact ⟨rfl, rfl⟩
set_option maxRecDepth 100000 in
set_option maxHeartbeats 1000000 in
theorem slook_no (h : NoStore w v) (l : Int) : Calls Tryz.prog 55 #[v, .int .i64 l] w fun e w' => e = .returned (.agg #[.int .i64 0, .int .i64 0, .bool false]) ∧ Below w.heap.size w w' := by
  have b1 : Below w.heap.size w (w.alloc (.cells #[.int .i64 0, .int .i64 0, .bool false] 96)) := (Below.refl _ w).alloc (Nat.le_refl _) _
  have hm := smade_no (h.later b1)
  clear h
  go_enter Tryz.func55, Tryz.ntmps55
  go_wp2_with (go_at_call 47; refine hm.mono ?_; rintro e w' ⟨rfl, hw'⟩; obtain rfl := hw'.symm)
  exact bodyPost_ret (v := .agg #[.int .i64 0, .int .i64 0, .bool false]) (by simp [results, Tryz.results55, go_sem]) rfl ⟨rfl, b1⟩
set_option maxRecDepth 100000 in
set_option maxHeartbeats 1000000 in
theorem stail_no (h : NoStore w v) (l : Int) : Calls Tryz.prog 18 #[v, .int .i64 l] w fun e w' => e = .returned (.int .i64 0) ∧ Below w.heap.size w w' := by
  have hl := slook_no h l
  have hf := fun W => (fld52 (.int .i64 0) (.int .i64 0) (.bool false) W).1
  clear h
  go_enter Tryz.func18, Tryz.ntmps18
  go_wp2_with (go_at_call 55; refine hl.mono ?_; rintro e w' ⟨rfl, hb⟩)
  go_ret
  exact ⟨rfl, hb⟩
set_option maxRecDepth 100000 in
set_option maxHeartbeats 1000000 in
theorem strimmed_no (h : NoStore w v) (l : Int) : Calls Tryz.prog 19 #[v, .int .i64 l] w fun e w' => e = .returned (.int .i64 0) ∧ Below w.heap.size w w' := by
  have hl := slook_no h l
  have hf := fun W => (fld52 (.int .i64 0) (.int .i64 0) (.bool false) W).2.1
  clear h
  go_enter Tryz.func19, Tryz.ntmps19
  go_wp2_with (go_at_call 55; refine hl.mono ?_; rintro e w' ⟨rfl, hb⟩)
  go_ret
  exact ⟨rfl, hb⟩
set_option maxRecDepth 100000 in
set_option maxHeartbeats 1000000 in
theorem ssealed_no (h : NoStore w v) (l : Int) : Calls Tryz.prog 22 #[v, .int .i64 l] w fun e w' => e = .returned (.bool false) ∧ Below w.heap.size w w' := by
  have hl := slook_no h l
  have hf := fun W => (fld52 (.int .i64 0) (.int .i64 0) (.bool false) W).2.2
  clear h
  go_enter Tryz.func22, Tryz.ntmps22
  go_wp2_with (go_at_call 55; refine hl.mono ?_; rintro e w' ⟨rfl, hb⟩)
  go_ret
  exact ⟨rfl, hb⟩
set_option maxRecDepth 100000 in
set_option maxHeartbeats 1000000 in
theorem sfree_no (h : NoStore w v) : Calls Tryz.prog 21 #[v] w fun e w' => e = .returned (.int .i64 0) ∧ w' = w := by
  have hm := smade_no h
  clear h
  go_enter Tryz.func21, Tryz.ntmps21
  go_wp2_with (go_at_call 47; refine hm.mono ?_; rintro e w' ⟨rfl, hw'⟩; obtain rfl := hw'.symm)
  go_ret
  exact ⟨rfl, rfl⟩
set_option maxRecDepth 100000 in
set_option maxHeartbeats 1000000 in
theorem sloglets_no (h : NoStore w v) : Calls Tryz.prog 20 #[v] w fun e w' => e = .returned (.slice none 0 0) ∧ w' = w := by
  have hm := smade_no h
  clear h
  go_enter Tryz.func20, Tryz.ntmps20
  go_wp2_with (go_at_call 47; refine hm.mono ?_; rintro e w' ⟨rfl, hw'⟩; obtain rfl := hw'.symm)
  go_ret
  exact ⟨rfl, rfl⟩
/-- No disk, or one that nobody made. -/
def NoDk (w : World) (v : Value) : Prop := v = .pointer none ∨ ∃ D, v = .pointer (some ⟨D, 0, none⟩) ∧ w.heap[D]? = some (.cells #[.slice none 0 0, .map none, .bool false, .int .i64 0] 41 (0, 0))
set_option maxRecDepth 100000 in
theorem dmade_no (h : NoDk w v) : Calls Tryz.prog 58 #[v] w fun e w' => e = .returned (.bool false) ∧ w' = w := by
  rcases h with rfl | ⟨D, rfl, hD⟩
  · go_enter Tryz.func58, Tryz.ntmps58
    go_wp2
    all_goals go_ret
    all_goals simp
  · have c0 : w.cell? ⟨D, 0, none⟩ = some (.slice none 0 0) := by rw [cell_of_row _ _ _ _ _ _ hD]; rfl
    clear hD
    go_enter Tryz.func58, Tryz.ntmps58
    go_wp2
    all_goals go_ret
    all_goals simp
set_option maxRecDepth 100000 in
theorem dblocks_no (h : NoDk w v) : Calls Tryz.prog 43 #[v] w fun e w' => e = .returned (.int .i64 0) ∧ w' = w := by
  have hm := dmade_no h
  clear h
  go_enter Tryz.func43, Tryz.ntmps43
  go_wp2_with (go_at_call 58; refine hm.mono ?_; rintro e w' ⟨rfl, hw'⟩; obtain rfl := hw'.symm)
  go_ret
  exact ⟨rfl, rfl⟩
set_option maxRecDepth 100000 in
set_option maxHeartbeats 1000000 in
theorem open_no (h : NoDk w v) : Calls Tryz.prog 12 #[v] w fun e w' => e = .returned (.tuple #[.pointer none, .int .i64 1]) ∧ w' = w := by
  have hb := dblocks_no h
  clear h
  go_enter Tryz.func12, Tryz.ntmps12
  go_wp2_with (go_at_call 43; refine hb.mono ?_; rintro e w' ⟨rfl, hw'⟩; obtain rfl := hw'.symm)
  go_ret2
  exact ⟨rfl, rfl⟩
end Go.Proofs.YtoopnafdpenofaaGreat
