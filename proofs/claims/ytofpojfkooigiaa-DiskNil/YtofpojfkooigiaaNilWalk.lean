/- What DiskNil of package law03 answers: true. -/
import Derived.Test.YtofpojfkooigiaaDNil
import Derived.Test.YtofpojfkooigiaaKnows3
namespace Go.Proofs.Ytofpojfkooigiaa
open Go.RowKit

set_option maxRecDepth 100000 in
set_option maxHeartbeats 4000000 in
theorem diskNil_any (i : Int) (ad : Option Addr) (len cap : Nat) (bd : Option Addr) (blen bcap : Nat) (w : World) :
    Calls Try.prog 4 #[.int .i64 i, .slice ad len cap, .slice bd blen bcap] w fun e w' => e = .returned (.bool true) ∧ Below w.heap.size w w' := by
  go_enter Try.func4, Try.ntmps4
  go_wp2_with fail
  go_loopw [7, 8] (fun d k wr => ∃ (m : Nat) (p : Option Addr), m ≤ 2 ∧ k = .int .i64 m ∧ d = .pointer p ∧ Hid (NoDisk wr (.pointer p)) ∧ Hid (Below w.heap.size w wr)) (fun _ k _ => 2 - (intOf k).toNat)
  case atStart => exact ⟨0, none, by omega, rfl, rfl, (show Hid _ from Or.inl rfl), (show Hid _ from Below.refl _ _)⟩
  case round =>
    obtain ⟨m, p, hm, rfl, rfl, HN, HB⟩ := hrel
    by_cases hlt : m < 2
    · have hcut := cut_no HN.out i
      go_wp2_with (go_at_call 14; refine hcut.mono ?_; rintro e w' ⟨rfl, hw'⟩; obtain rfl := hw'.symm)
      refine (crash_no HN.out bd blen bcap).mono ?_
      rintro e w1 ⟨rfl, b1⟩
      have N1 : Hid (NoDisk w1 (.pointer p)) := HN.out.later b1
      have B1 : Hid (Below w.heap.size w w1) := HB.out.trans (b1.mono HB.out.size)
      clear b1 HN HB hcut
      have hread := read_no N1.out i
      go_wp2_with (first
        | (go_at_call 16; refine hread.mono ?_; rintro e w' ⟨rfl, hw'⟩; obtain rfl := hw'.symm)
        | (go_at_call 11; refine (num3_any _ _).mono ?_; rintro e w' ⟨rfl, hw'⟩; obtain rfl := hw'.symm))
      refine (write_no N1.out i ad len cap).mono ?_
      rintro e w2 ⟨rfl, b2⟩
      have N2 : Hid (NoDisk w2 (.pointer p)) := N1.out.later b2
      have B2 : Hid (Below w.heap.size w w2) := B1.out.trans (b2.mono B1.out.size)
      clear b2 N1 B1 hread
      go_wp2_with (go_at_call 11; refine (num3_any _ _).mono ?_; rintro e w' ⟨rfl, hw'⟩; obtain rfl := hw'.symm)
      refine (sync_no N2.out).mono ?_
      rintro e w3 ⟨rfl, b3⟩
      have N3 : Hid (NoDisk w3 (.pointer p)) := N2.out.later b3
      have B3 : Hid (Below w.heap.size w w3) := B2.out.trans (b3.mono B2.out.size)
      clear b3 N2 B2
      have hd := down_no N3.out
      have hdy := dirty_no N3.out
      have hbl := blocks_no N3.out
      go_wp2_with (first
        | (go_at_call 11; refine (num3_any _ _).mono ?_; rintro e w' ⟨rfl, hw'⟩; obtain rfl := hw'.symm)
        | (go_at_call 19; refine hd.mono ?_; rintro e w' ⟨rfl, hw'⟩; obtain rfl := hw'.symm)
        | (go_at_call 20; refine hdy.mono ?_; rintro e w' ⟨rfl, hw'⟩; obtain rfl := hw'.symm)
        | (go_at_call 21; refine hbl.mono ?_; rintro e w' ⟨rfl, hw'⟩; obtain rfl := hw'.symm))
      refine ⟨⟨m + 1, some ⟨w3.heap.size, 0, none⟩, by omega, by go_num, rfl, (show Hid _ from Or.inr ⟨_, rfl, heap_alloc_last _ _⟩), (show Hid _ from B3.out.alloc B3.out.size _)⟩, by simp [intOf]; omega⟩
    · obtain rfl : m = 2 := by omega
      go_wp2_with (go_at_call 12; refine (knows3_any _).mono ?_; rintro e w' ⟨rfl, hk⟩)
      go_ret
      exact ⟨rfl, HB.out.trans (hk.mono HB.out.size)⟩
end Go.Proofs.Ytofpojfkooigiaa
