/- The calls on no net, and on one that nobody made; NetNil of the statements of layer 6. -/
import Derived.Test.YtgbjlkaaniaaaaaDoorNKnows
namespace Go.Proofs.YtgbjlkaaniaaaaaDoor
open Go.RowKit
variable {w : World} {v : Value}

/-- No net, or one that nobody made. -/
def NoNet (w : World) (v : Value) : Prop := v = .pointer none ∨ ∃ D, v = .pointer (some ⟨D, 0, none⟩) ∧ w.heap[D]? = some (.cells #[.bool false, .slice none 0 0, .slice none 0 0] TN (0, 0))
theorem NoNet.later {w' : World} (h : NoNet w v) (hb : Below w.heap.size w w') : NoNet w' v := by
  rcases h with h | ⟨D, h1, h2⟩
  · exact Or.inl h
  · exact Or.inr ⟨D, h1, (hb.block D (Array.getElem?_eq_some_iff.1 h2).1).trans h2⟩
set_option maxRecDepth 100000 in
theorem made_no (h : NoNet w v) : Calls Tryd.prog 8 #[v] w fun e w' => e = .returned (.bool false) ∧ w' = w := by
  rcases h with rfl | ⟨D, rfl, hD⟩
  · go_enter Tryd.func8, Tryd.ntmps8
    go_wp2
    all_goals go_ret
    all_goals simp
  · have c0 : w.cell? ⟨D, 0, none⟩ = some (.bool false) := by rw [cell_of_row _ _ _ _ _ _ hD]; rfl
    clear hD
    go_enter Tryd.func8, Tryd.ntmps8
    go_wp2
    all_goals go_ret
    all_goals simp
set_option maxRecDepth 100000 in
theorem has_no (h : NoNet w v) (k : Int) : Calls Tryd.prog 28 #[v, .int .i64 k] w fun e w' => e = .returned (.bool false) ∧ w' = w := by
  have hm := made_no h
  clear h
  go_enter Tryd.func28, Tryd.ntmps28
  go_wp2_with (go_at_call 8; refine hm.mono ?_; rintro e w' ⟨rfl, hw'⟩; obtain rfl := hw'.symm)
  all_goals go_ret
  all_goals simp
set_option maxRecDepth 100000 in
theorem luck_no (h : NoNet w v) (ad : Option Addr) (len cap : Nat) : Calls Tryd.prog 11 #[v, .slice ad len cap] w fun e w' => e = .returned (.tuple #[]) ∧ w' = w := by
  have hm := made_no h
  clear h
  go_enter Tryd.func11, Tryd.ntmps11
  go_wp2_with (go_at_call 8; refine hm.mono ?_; rintro e w' ⟨rfl, hw'⟩; obtain rfl := hw'.symm)
  exact bodyPost_end (results_none rfl _ _ _) rfl ⟨rfl, rfl⟩
set_option maxRecDepth 100000 in
theorem send_no (h : NoNet w v) (k : Int) (ad : Option Addr) (len cap : Nat) : Calls Tryd.prog 12 #[v, .int .i64 k, .slice ad len cap] w fun e w' => e = .returned (.tuple #[.int .i64 0, .bool false]) ∧ w' = w := by
  have hm := made_no h
  clear h
  go_enter Tryd.func12, Tryd.ntmps12
  go_wp2_with (go_at_call 8; refine hm.mono ?_; rintro e w' ⟨rfl, hw'⟩; obtain rfl := hw'.symm)
  go_ret2
  exact ⟨rfl, rfl⟩
set_option maxRecDepth 100000 in
theorem message_no (h : NoNet w v) (k : Int) : Calls Tryd.prog 13 #[v, .int .i64 k] w fun e w' => e = .returned (.tuple #[.int .i64 0, .slice none 0 0, .bool false]) ∧ w' = w := by
  have hm := has_no h k
  clear h
  go_enter Tryd.func13, Tryd.ntmps13
  go_wp2_with (go_at_call 28; refine hm.mono ?_; rintro e w' ⟨rfl, hw'⟩; obtain rfl := hw'.symm)
  go_ret3
  exact ⟨rfl, rfl⟩
set_option maxRecDepth 100000 in
theorem take_no (h : NoNet w v) (k : Int) : Calls Tryd.prog 14 #[v, .int .i64 k] w fun e w' => e = .returned (.tuple #[.int .i64 0, .slice none 0 0, .bool false]) ∧ w' = w := by
  have hm := has_no h k
  clear h
  go_enter Tryd.func14, Tryd.ntmps14
  go_wp2_with (go_at_call 28; refine hm.mono ?_; rintro e w' ⟨rfl, hw'⟩; obtain rfl := hw'.symm)
  go_ret3
  exact ⟨rfl, rfl⟩
set_option maxRecDepth 100000 in
theorem double_no (h : NoNet w v) (k : Int) : Calls Tryd.prog 15 #[v, .int .i64 k] w fun e w' => e = .returned (.bool false) ∧ w' = w := by
  have hm := has_no h k
  clear h
  go_enter Tryd.func15, Tryd.ntmps15
  go_wp2_with (go_at_call 28; refine hm.mono ?_; rintro e w' ⟨rfl, hw'⟩; obtain rfl := hw'.symm)
  go_ret
  exact ⟨rfl, rfl⟩
set_option maxRecDepth 100000 in
theorem late_no (h : NoNet w v) : Calls Tryd.prog 16 #[v] w fun e w' => e = .returned (.int .i64 0) ∧ w' = w := by
  have hm := made_no h
  clear h
  go_enter Tryd.func16, Tryd.ntmps16
  go_wp2_with (go_at_call 8; refine hm.mono ?_; rintro e w' ⟨rfl, hw'⟩; obtain rfl := hw'.symm)
  go_ret
  exact ⟨rfl, rfl⟩
set_option maxRecDepth 100000 in
theorem left_no (h : NoNet w v) : Calls Tryd.prog 17 #[v] w fun e w' => e = .returned (.int .i64 0) ∧ w' = w := by
  have hm := made_no h
  clear h
  go_enter Tryd.func17, Tryd.ntmps17
  go_wp2_with (go_at_call 8; refine hm.mono ?_; rintro e w' ⟨rfl, hw'⟩; obtain rfl := hw'.symm)
  go_ret
  exact ⟨rfl, rfl⟩
set_option maxRecDepth 100000 in
set_option maxHeartbeats 4000000 in
theorem netNil_any (k : Int) (ad : Option Addr) (len cap : Nat) (bd : Option Addr) (blen bcap : Nat) (w : World) (hT : Tab w) :
    Calls Tryd.prog 4 #[.int .i64 k, .slice ad len cap, .slice bd blen bcap] w fun e w' => e = .returned (.bool true) ∧ Below w.heap.size w w' := by
  have HT := hide hT
  clear hT
  go_enter Tryd.func4, Tryd.ntmps4
  go_wp2_with fail
  go_loopw [7, 8] (fun d i wr => ∃ (m : Nat) (p : Option Addr), m ≤ 2 ∧ i = .int .i64 m ∧ d = .pointer p ∧ Hid (NoNet wr (.pointer p)) ∧ Hid (Below w.heap.size w wr)) (fun _ i _ => 2 - (intOf i).toNat)
  case atStart => exact ⟨0, none, by omega, rfl, rfl, (show Hid _ from Or.inl rfl), (show Hid _ from Below.refl _ _)⟩
  case round =>
    obtain ⟨m, p, hm, rfl, rfl, HN, HB⟩ := hrel
    by_cases hlt : m < 2
    · have h1 := luck_no HN.out bd blen bcap
      have h2 := send_no HN.out k ad len cap
      have h3 := message_no HN.out k
      have h4 := take_no HN.out k
      have h5 := made_no HN.out
      have h6 := double_no HN.out k
      have h7 := late_no HN.out
      have h8 := left_no HN.out
      go_wp2_with (first
        | (go_at_call 11; refine h1.mono ?_; rintro e w' ⟨rfl, hw'⟩; obtain rfl := hw'.symm)
        | (go_at_call 12; refine h2.mono ?_; rintro e w' ⟨rfl, hw'⟩; obtain rfl := hw'.symm)
        | (go_at_call 13; refine h3.mono ?_; rintro e w' ⟨rfl, hw'⟩; obtain rfl := hw'.symm)
        | (go_at_call 14; refine h4.mono ?_; rintro e w' ⟨rfl, hw'⟩; obtain rfl := hw'.symm)
        | (go_at_call 8; refine h5.mono ?_; rintro e w' ⟨rfl, hw'⟩; obtain rfl := hw'.symm)
        | (go_at_call 15; refine h6.mono ?_; rintro e w' ⟨rfl, hw'⟩; obtain rfl := hw'.symm)
        | (go_at_call 16; refine h7.mono ?_; rintro e w' ⟨rfl, hw'⟩; obtain rfl := hw'.symm)
        | (go_at_call 17; refine h8.mono ?_; rintro e w' ⟨rfl, hw'⟩; obtain rfl := hw'.symm))
      refine ⟨⟨m + 1, some ⟨wr.heap.size, 0, none⟩, by omega, by go_num, rfl, (show Hid _ from Or.inr ⟨_, rfl, heap_alloc_last _ _⟩), (show Hid _ from HB.out.alloc HB.out.size _)⟩, by simp [intOf]; omega⟩
    · obtain rfl : m = 2 := by omega
      have hk := knows6 wr (HT.out.low HT.out.1 HB.out)
      go_wp2_with (go_at_call 9; refine hk.mono ?_; rintro e w' ⟨rfl, hk'⟩)
      go_ret
      exact ⟨rfl, HB.out.trans (hk'.mono HB.out.size)⟩
end Go.Proofs.YtgbjlkaaniaaaaaDoor
