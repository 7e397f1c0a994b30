/- The calls on no disk, and on one that nobody made. -/
import Derived.Test.YtofpojfkooigiaaWide
namespace Go.Proofs.Ytofpojfkooigiaa
open Go.RowKit
variable {w : World} {v : Value}

def zeroDisk : Array Value := #[.slice none 0 0, .map none, .bool false, .int .i64 0]
/-- No disk, or one that nobody made. -/
def NoDisk (w : World) (v : Value) : Prop := v = .pointer none ∨ ∃ D, v = .pointer (some ⟨D, 0, none⟩) ∧ w.heap[D]? = some (.cells zeroDisk 47 (0, 0))
theorem NoDisk.later {w' : World} (h : NoDisk w v) (hb : Below w.heap.size w w') : NoDisk w' v := by
  rcases h with h | ⟨D, h1, h2⟩
  · exact Or.inl h
  · exact Or.inr ⟨D, h1, (hb.block D (Array.getElem?_eq_some_iff.1 h2).1).trans h2⟩
set_option maxRecDepth 100000 in
theorem made_no (h : NoDisk w v) : Calls Try.prog 32 #[v] w fun e w' => e = .returned (.bool false) ∧ w' = w := by
  rcases h with rfl | ⟨D, rfl, hD⟩
  · go_enter Try.func32, Try.ntmps32
    go_wp2
    all_goals go_ret
    all_goals simp
  · have c0 : w.cell? ⟨D, 0, none⟩ = some (.slice none 0 0) := by rw [cell_of_row _ _ _ _ _ _ hD]; rfl
    clear hD
    go_enter Try.func32, Try.ntmps32
    go_wp2
    all_goals go_ret
    all_goals simp
set_option maxRecDepth 100000 in
theorem has_no (h : NoDisk w v) (i : Int) : Calls Try.prog 35 #[v, .int .i64 i] w fun e w' => e = .returned (.bool false) ∧ w' = w := by
  have hm := made_no h
  clear h
  go_enter Try.func35, Try.ntmps35
  go_wp2_with (go_at_call 32; refine hm.mono ?_; rintro e w' ⟨rfl, hw'⟩; obtain rfl := hw'.symm)
  all_goals go_ret
  all_goals simp
set_option maxRecDepth 100000 in
theorem cut_no (h : NoDisk w v) (i : Int) : Calls Try.prog 14 #[v, .int .i64 i] w fun e w' => e = .returned (.tuple #[]) ∧ w' = w := by
  have hm := made_no h
  clear h
  go_enter Try.func14, Try.ntmps14
  go_wp2_with (go_at_call 32; refine hm.mono ?_; rintro e w' ⟨rfl, hw'⟩; obtain rfl := hw'.symm)
  exact bodyPost_ret (results_none rfl _ _ _) rfl ⟨rfl, rfl⟩
set_option maxRecDepth 100000 in
theorem crash_no (h : NoDisk w v) (ad : Option Addr) (len cap : Nat) : Calls Try.prog 15 #[v, .slice ad len cap] w fun e w' => e = .returned (.tuple #[]) ∧ Below w.heap.size w w' := by
  have b1 : Below w.heap.size w (w.alloc (.cells #[.slice ad len cap] 33)) := (Below.refl _ w).alloc (Nat.le_refl _) _
  have hm := made_no (h.later b1)
  clear h
  go_enter Try.func15, Try.ntmps15
  go_wp2_with (go_at_call 32; refine hm.mono ?_; rintro e w' ⟨rfl, hw'⟩; obtain rfl := hw'.symm)
  exact bodyPost_ret (results_none rfl _ _ _) rfl ⟨rfl, b1⟩
set_option maxRecDepth 100000 in
theorem read_no (h : NoDisk w v) (i : Int) : Calls Try.prog 16 #[v, .int .i64 i] w fun e w' => e = .returned (.tuple #[.slice none 0 0, .int .i64 1]) ∧ w' = w := by
  have hm := has_no h i
  clear h
  go_enter Try.func16, Try.ntmps16
  go_wp2_with (go_at_call 35; refine hm.mono ?_; rintro e w' ⟨rfl, hw'⟩; obtain rfl := hw'.symm)
  go_ret2
  exact ⟨rfl, rfl⟩
set_option maxRecDepth 100000 in
theorem write_no {p : Option Addr} (h : NoDisk w (.pointer p)) (i : Int) (ad : Option Addr) (len cap : Nat) : Calls Try.prog 17 #[.pointer p, .int .i64 i, .slice ad len cap] w fun e w' => e = .returned (.int .i64 1) ∧ Below w.heap.size w w' := by
  have b1 : Below w.heap.size w (((w.alloc (.cells #[.pointer p] 23)).alloc (.cells #[.int .i64 i] 3)).alloc (.cells #[.slice ad len cap] 32)) :=
    (((Below.refl w.heap.size w).alloc (Nat.le_refl _) _).alloc (by simp) _).alloc (by simp; omega) _
  have hm := has_no (h.later b1) i
  have B1 : Hid (Below w.heap.size w (((w.alloc (.cells #[.pointer p] 23)).alloc (.cells #[.int .i64 i] 3)).alloc (.cells #[.slice ad len cap] 32))) := b1
  clear h b1
  go_enter Try.func17, Try.ntmps17
  go_wp2_with (go_at_call 35; refine hm.mono ?_; rintro e w' ⟨rfl, hw'⟩; obtain rfl := hw'.symm)
  go_ret
  exact ⟨rfl, B1.out⟩
set_option maxRecDepth 100000 in
theorem sync_no {p : Option Addr} (h : NoDisk w (.pointer p)) : Calls Try.prog 18 #[.pointer p] w fun e w' => e = .returned (.int .i64 1) ∧ Below w.heap.size w w' := by
  have b1 : Below w.heap.size w (w.alloc (.cells #[.pointer p] 23)) := (Below.refl _ w).alloc (Nat.le_refl _) _
  have hm := made_no (h.later b1)
  clear h
  go_enter Try.func18, Try.ntmps18
  go_wp2_with (go_at_call 32; refine hm.mono ?_; rintro e w' ⟨rfl, hw'⟩; obtain rfl := hw'.symm)
  go_ret
  exact ⟨rfl, b1⟩
set_option maxRecDepth 100000 in
theorem down_no (h : NoDisk w v) : Calls Try.prog 19 #[v] w fun e w' => e = .returned (.bool false) ∧ w' = w := by
  have hm := made_no h
  clear h
  go_enter Try.func19, Try.ntmps19
  go_wp2_with (go_at_call 32; refine hm.mono ?_; rintro e w' ⟨rfl, hw'⟩; obtain rfl := hw'.symm)
  go_ret
  exact ⟨rfl, rfl⟩
set_option maxRecDepth 100000 in
theorem dirty_no (h : NoDisk w v) : Calls Try.prog 20 #[v] w fun e w' => e = .returned (.int .i64 0) ∧ w' = w := by
  have hm := made_no h
  clear h
  go_enter Try.func20, Try.ntmps20
  go_wp2_with (go_at_call 32; refine hm.mono ?_; rintro e w' ⟨rfl, hw'⟩; obtain rfl := hw'.symm)
  go_ret
  exact ⟨rfl, rfl⟩
set_option maxRecDepth 100000 in
theorem blocks_no (h : NoDisk w v) : Calls Try.prog 21 #[v] w fun e w' => e = .returned (.int .i64 0) ∧ w' = w := by
  have hm := made_no h
  clear h
  go_enter Try.func21, Try.ntmps21
  go_wp2_with (go_at_call 32; refine hm.mono ?_; rintro e w' ⟨rfl, hw'⟩; obtain rfl := hw'.symm)
  go_ret
  exact ⟨rfl, rfl⟩
end Go.Proofs.Ytofpojfkooigiaa
