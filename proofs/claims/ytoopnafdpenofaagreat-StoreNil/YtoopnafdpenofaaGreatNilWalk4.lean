/- What StoreNil answers: true. -/
import Derived.Test.YtoopnafdpenofaaGreatSNil
import Derived.Test.YtoopnafdpenofaaGreatSKnows
namespace Go.Proofs.YtoopnafdpenofaaGreat
open Go.RowKit

set_option maxRecDepth 100000 in
set_option maxHeartbeats 4000000 in
theorem storeNil_any (id pos : Int) (ad : Option Addr) (len cap : Nat) (w : World) :
    Calls Tryz.prog 4 #[.int .i64 id, .int .i64 pos, .slice ad len cap] w fun e w' => e = .returned (.bool true) ∧ Below w.heap.size w w' := by
  have ho1 := open_no (w := w) (v := .pointer none) (Or.inl rfl)
  have ho2 := open_no (w := w.alloc (.cells #[.slice none 0 0, .map none, .bool false, .int .i64 0] 41)) (v := .pointer (some ⟨w.heap.size, 0, none⟩)) (Or.inr ⟨_, rfl, heap_alloc_last _ _⟩)
  go_enter Tryz.func4, Tryz.ntmps4
  go_wp2_with (first
    | (go_at_call 12; (with_reducible_and_instances (refine ho1.mono ?_)); rintro e w' ⟨rfl, hw'⟩; obtain rfl := hw'.symm)
    | (go_at_call 12; (with_reducible_and_instances (refine ho2.mono ?_)); rintro e w' ⟨rfl, hw'⟩; obtain rfl := hw'.symm)
    | (go_at_call 13; refine (num4_any _ _).mono ?_; rintro e w' ⟨rfl, hw'⟩; obtain rfl := hw'.symm))
  clear ho1 ho2
  go_loopw [11, 12] (fun v k wr => ∃ (m : Nat) (p : Option Addr), m ≤ 2 ∧ k = .int .i64 m ∧ v = .pointer p ∧ Hid (NoStore wr (.pointer p)) ∧ Hid (Below w.heap.size w wr)) (fun _ k _ => 2 - (intOf k).toNat)
  case atStart => exact ⟨0, none, by omega, rfl, rfl, (show Hid _ from Or.inl rfl), (show Hid _ from (Below.refl _ w).alloc (Nat.le_refl _) _)⟩
  case round =>
    obtain ⟨m, p, hm, rfl, rfl, HN, HB⟩ := hrel
    by_cases hlt : m < 2
    · have hg := sget_no HN.out id pos
      have hp := sput_no HN.out id pos ad len cap true
      have hs := sseal_no HN.out id
      have ht := strim_no HN.out id pos
      have hta := stail_no HN.out id
      go_wp2_with (first
        | (go_at_call 14; refine hg.mono ?_; rintro e w' ⟨rfl, hw'⟩; obtain rfl := hw'.symm)
        | (go_at_call 15; refine hp.mono ?_; rintro e w' ⟨rfl, hw'⟩; obtain rfl := hw'.symm)
        | (go_at_call 16; refine hs.mono ?_; rintro e w' ⟨rfl, hw'⟩; obtain rfl := hw'.symm)
        | (go_at_call 17; refine ht.mono ?_; rintro e w' ⟨rfl, hw'⟩; obtain rfl := hw'.symm)
        | (go_at_call 13; refine (num4_any _ _).mono ?_; rintro e w' ⟨rfl, hw'⟩; obtain rfl := hw'.symm)
        | (go_at_call 18; refine hta.mono ?_; rintro e w1 ⟨rfl, b1⟩; have N1 := HN.out.later b1; have B1 := HB.out.trans (b1.mono HB.out.size); have htr := strimmed_no N1 id; have HN1 : Hid (NoStore w1 (.pointer p)) := N1; have HB1 : Hid (Below w.heap.size w w1) := B1; clear b1 N1 B1)
        | (go_at_call 19; refine htr.mono ?_; rintro e w2 ⟨rfl, b2⟩; have N2 := HN1.out.later b2; have B2 := HB1.out.trans (b2.mono HB1.out.size); have hlo := sloglets_no N2; have hfr := sfree_no N2; have hse := ssealed_no N2 id; have HB2 : Hid (Below w.heap.size w w2) := B2; clear b2 N2 B2)
        | (go_at_call 20; refine hlo.mono ?_; rintro e w' ⟨rfl, hw'⟩; obtain rfl := hw'.symm)
        | (go_at_call 21; refine hfr.mono ?_; rintro e w' ⟨rfl, hw'⟩; obtain rfl := hw'.symm)
        | (go_at_call 22; refine hse.mono ?_; rintro e w3 ⟨rfl, b3⟩; have B3 := HB2.out.trans (b3.mono HB2.out.size); have HB3 : Hid (Below w.heap.size w w3) := B3; clear b3 B3))
      go_roundw
      case rel => exact ⟨m + 1, some ⟨w3.heap.size, 0, none⟩, by omega, by go_num, rfl, (show Hid _ from Or.inr ⟨_, rfl, heap_alloc_last _ _⟩), (show Hid _ from HB3.out.alloc HB3.out.size _)⟩
      case measure => simp [intOf]; omega
    · obtain rfl : m = 2 := by omega
      go_wp2_with (go_at_call 9; refine (knows4 _).mono ?_; rintro e w' ⟨rfl, hk⟩)
      go_ret
      exact ⟨rfl, HB.out.trans (hk.mono HB.out.size)⟩
end Go.Proofs.YtoopnafdpenofaaGreat
