/- The calls on no node, and on one that nobody made; the walk of NodeNil. -/
import Derived.Test.YtjldflfoncfndaaGreatPKnow
namespace Go.Proofs.YtjldflfoncfndaaGreat
open Go.RowKit
variable {w : World} {v : Value}

/-- No node, or one that nobody made. -/
def NoNode (w : World) (v : Value) : Prop := v = .pointer none ∨ ∃ S, v = .pointer (some ⟨S, 0, none⟩) ∧ w.heap[S]? = some (.cells #[.pointer none, .pointer none] 72 (0, 0))
set_option maxRecDepth 100000 in
theorem nmade_no (h : NoNode w v) : Calls Tryz.prog 56 #[v] w fun e w' => e = .returned (.bool false) ∧ w' = w := by
  rcases h with rfl | ⟨D, rfl, hD⟩
  · go_enter Tryz.func56, Tryz.ntmps56
    go_wp2
    all_goals go_ret
    all_goals simp
  · have c0 : w.cell? ⟨D, 0, none⟩ = some (.pointer none) := by rw [cell_of_row _ _ _ _ _ _ hD]; rfl
    clear hD
    go_enter Tryz.func56, Tryz.ntmps56
    go_wp2
    all_goals go_ret
    all_goals simp
set_option maxRecDepth 100000 in
theorem nup_no (h : NoNode w v) : Calls Tryz.prog 31 #[v] w fun e w' => e = .returned (.bool false) ∧ w' = w := by
  have hm := nmade_no h
  go_enter Tryz.func31, Tryz.ntmps31
  go_wp2_with (go_at_call 56; refine hm.mono ?_; rintro e w' ⟨rfl, hw'⟩; obtain rfl := hw'.symm)
  go_ret
  exact ⟨rfl, rfl⟩
set_option maxRecDepth 100000 in
theorem nask_no (h : NoNode w v) (ad : Option Addr) (len cap : Nat) : Calls Tryz.prog 29 #[v, .slice ad len cap] w fun e w' => e = .returned (.slice none 0 0) ∧ w' = w := by
  have hm := nup_no h
  go_enter Tryz.func29, Tryz.ntmps29
  go_wp2_with (go_at_call 31; refine hm.mono ?_; rintro e w' ⟨rfl, hw'⟩; obtain rfl := hw'.symm)
  go_ret
  exact ⟨rfl, rfl⟩
set_option maxRecDepth 100000 in
theorem nstart_no (h : NoNode w v) (ad : Option Addr) (len cap : Nat) : Calls Tryz.prog 30 #[v, .slice ad len cap] w fun e w' => e = .returned (.int .i64 1) ∧ w' = w := by
  have hm := nmade_no h
  go_enter Tryz.func30, Tryz.ntmps30
  go_wp2_with (go_at_call 56; refine hm.mono ?_; rintro e w' ⟨rfl, hw'⟩; obtain rfl := hw'.symm)
  go_ret
  exact ⟨rfl, rfl⟩
set_option maxRecDepth 100000 in
theorem nstore_no (h : NoNode w v) : Calls Tryz.prog 32 #[v] w fun e w' => e = .returned (.pointer none) ∧ w' = w := by
  have hm := nup_no h
  go_enter Tryz.func32, Tryz.ntmps32
  go_wp2_with (go_at_call 31; refine hm.mono ?_; rintro e w' ⟨rfl, hw'⟩; obtain rfl := hw'.symm)
  go_ret
  exact ⟨rfl, rfl⟩
set_option maxRecDepth 100000 in
theorem ncut_no (h : NoNode w v) (i : Int) : Calls Tryz.prog 27 #[v, .int .i64 i] w fun e w' => e = .returned (.tuple #[]) ∧ w' = w := by
  have hm := nmade_no h
  go_enter Tryz.func27, Tryz.ntmps27
  go_wp2_with (go_at_call 56; refine hm.mono ?_; rintro e w' ⟨rfl, hw'⟩; obtain rfl := hw'.symm)
  exact bodyPost_end (results_none rfl _ _ _) rfl ⟨rfl, rfl⟩
set_option maxRecDepth 100000 in
theorem nstop_no (h : NoNode w v) : Calls Tryz.prog 28 #[v] w fun e w' => e = .returned (.tuple #[]) ∧ w' = w := by
  have hm := nmade_no h
  go_enter Tryz.func28, Tryz.ntmps28
  go_wp2_with (go_at_call 56; refine hm.mono ?_; rintro e w' ⟨rfl, hw'⟩; obtain rfl := hw'.symm)
  exact bodyPost_end (results_none rfl _ _ _) rfl ⟨rfl, rfl⟩
set_option maxRecDepth 100000 in
set_option maxHeartbeats 4000000 in
theorem nodeNil_any (ad : Option Addr) (len cap : Nat) (ad2 : Option Addr) (len2 cap2 : Nat) (w : World) :
    Calls Tryz.prog 5 #[.slice ad len cap, .slice ad2 len2 cap2] w fun e w' => e = .returned (.bool true) ∧ Below w.heap.size w w' := by
  go_enter Tryz.func5, Tryz.ntmps5
  go_wp2
  go_loopw [5, 6] (fun v k wr => ∃ (m : Nat) (p : Option Addr), m ≤ 2 ∧ k = .int .i64 m ∧ v = .pointer p ∧ Hid (NoNode wr (.pointer p)) ∧ Hid (Below w.heap.size w wr)) (fun _ k _ => 2 - (intOf k).toNat)
  case atStart => exact ⟨0, none, by omega, rfl, rfl, (show Hid _ from Or.inl rfl), (show Hid _ from Below.refl _ w)⟩
  case round =>
    obtain ⟨m, p, hm, rfl, rfl, HN, HB⟩ := hrel
    by_cases hlt : m < 2
    · have ha := nask_no HN.out ad len cap
      have hs := nstart_no HN.out ad2 len2 cap2
      have ht := nstore_no HN.out
      have hc := ncut_no HN.out 1
      have hp := nstop_no HN.out
      have hu := nup_no HN.out
      go_wp2_with (first
        | (go_at_call 27; refine hc.mono ?_; rintro e w' ⟨rfl, hw'⟩; obtain rfl := hw'.symm)
        | (go_at_call 28; refine hp.mono ?_; rintro e w' ⟨rfl, hw'⟩; obtain rfl := hw'.symm)
        | (go_at_call 29; refine ha.mono ?_; rintro e w' ⟨rfl, hw'⟩; obtain rfl := hw'.symm)
        | (go_at_call 30; refine hs.mono ?_; rintro e w' ⟨rfl, hw'⟩; obtain rfl := hw'.symm)
        | (go_at_call 19; refine (num5_any _ _).mono ?_; rintro e w' ⟨rfl, hw'⟩; obtain rfl := hw'.symm)
        | (go_at_call 31; refine hu.mono ?_; rintro e w' ⟨rfl, hw'⟩; obtain rfl := hw'.symm)
        | (go_at_call 32; refine ht.mono ?_; rintro e w' ⟨rfl, hw'⟩; obtain rfl := hw'.symm))
      go_roundw
      case rel => exact ⟨m + 1, some ⟨wr.heap.size, 0, none⟩, by omega, by go_num, rfl, (show Hid _ from Or.inr ⟨_, rfl, heap_alloc_last _ _⟩), (show Hid _ from HB.out.alloc HB.out.size _)⟩
      case measure => simp [intOf]; omega
    · obtain rfl : m = 2 := by omega
      go_wp2_with (go_at_call 23; refine (knows5 _).mono ?_; rintro e w' ⟨rfl, hk⟩)
      go_ret
      exact ⟨rfl, HB.out.trans (hk.mono HB.out.size)⟩
end Go.Proofs.YtjldflfoncfndaaGreat
