/- number of the document's reader. -/
import Derived.Test.YthadagpfmacemaaCNum
import Derived.Test.YthadagpfmacemaaRefGet
namespace Go.Proofs.Ythadagpfmacemaa
open Go.RowKit
variable {w w' : World} {ad : Option Addr} {len cap : Nat} {l : List Nat} {R p s : Nat}

/-- Block R reads the bytes at p; whether something was missing. -/
def RdR (w : World) (R p : Nat) (bad : Bool) (ad : Option Addr) (len cap : Nat) : Prop := Blk w R #[.slice ad len cap, .int .i64 (p : Int), .bool bad] 78
set_option maxHeartbeats 1000000 in
theorem rnum_ok (hR : RdR w R p false ad len cap) (hB : Bts w ad len cap l R) (h1 : 1 ≤ s) (h6 : s ≤ 6) (hin : p + s ≤ len) :
    Calls Try.prog 37 #[.pointer (some ⟨R, 0, none⟩), .int .i64 (s : Int)] w fun e w' => e = .returned (.int .i64 ((nAt l p s : Nat) : Int)) ∧ Hid (RdR w' R (p + s) false ad len cap ∧ Chg [R] w w') := by
  have c0 : w.cell? ⟨R, 0, none⟩ = some (.slice ad len cap) := hR.cell 0
  have c1 : w.cell? ⟨R, 1, none⟩ = some (.int .i64 (p : Int)) := hR.cell 1
  have c2 : w.cell? ⟨R, 2, none⟩ = some (.bool false) := hR.cell 2
  have hg := getN_in l p s ⟨h1, h6⟩ (by rw [hB.len_eq]; exact hin)
  have HR : Hid (RdR w R p false ad len cap) := hR
  have HB := hid hB
  have HG : Hid (∀ X, Below w.heap.size w X → Calls Try.prog 61 #[.slice ad len cap, .int .i64 (p : Int), .int .i64 (s : Int)] X fun e w' => e = .returned (.tuple #[.int .i64 ((nAt l p s : Nat) : Int), .int .i64 ((p + s : Nat) : Int), .int .i64 0]) ∧ w' = X) := hid (fun X hX => by
    have := refGet_any ad len cap l p s X (HB.out.later hX).ok HB.out.max (by have := HB.out.max; omega)
    rw [hg] at this
    exact this)
  clear hR hB hg
  go_enter Try.func37, Try.ntmps37
  go_wp2_with fail
  have BD : Hid (Below w.heap.size w w.drew) := (Below.refl _ _).drew
  have R1 : Hid (RdR w.drew R p false ad len cap) := Blk.later HR.out BD.out
  have k1 : w.drew.cell? ⟨R, 1, none⟩ = some (.int .i64 (p : Int)) := R1.out.cell 1
  have k2 : w.drew.cell? ⟨R, 2, none⟩ = some (.bool false) := R1.out.cell 2
  have f1 : w.drew.frozen? ⟨R, 1, none⟩ = false := R1.out.free 1
  go_region_with (go_at_call 61; refine (HG.out _ BD.out).mono ?_; rintro e w1 ⟨rfl, hw1⟩; obtain rfl := hw1.symm)
  all_goals go_wp2
  all_goals go_ret
  all_goals exact ⟨rfl, hid ⟨R1.out.set 1 _, (Chg.of BD.out).trans ((Chg.refl _ _).set (Or.inl (by simp)) _ _) (fun k hk => Or.inl hk)⟩⟩
set_option maxHeartbeats 1000000 in
theorem rnum_no (hR : RdR w R p false ad len cap) (hB : Bts w ad len cap l R) (h1 : 1 ≤ s) (h6 : s ≤ 6) (hin : ¬ p + s ≤ len) (hp : p ≤ 9223372036854775807) :
    Calls Try.prog 37 #[.pointer (some ⟨R, 0, none⟩), .int .i64 (s : Int)] w fun e w' => e = .returned (.int .i64 0) ∧ Hid (RdR w' R p true ad len cap ∧ Chg [R] w w') := by
  have c0 : w.cell? ⟨R, 0, none⟩ = some (.slice ad len cap) := hR.cell 0
  have c1 : w.cell? ⟨R, 1, none⟩ = some (.int .i64 (p : Int)) := hR.cell 1
  have hg := getN_end l p s ⟨by omega, by omega, by omega⟩ (by rw [hB.len_eq]; omega)
  have HR : Hid (RdR w R p false ad len cap) := hR
  have HB := hid hB
  have HG : Hid (∀ X, Below w.heap.size w X → Calls Try.prog 61 #[.slice ad len cap, .int .i64 (p : Int), .int .i64 (s : Int)] X fun e w' => e = .returned (.tuple #[.int .i64 0, .int .i64 0, .int .i64 20]) ∧ w' = X) := hid (fun X hX => by
    have := refGet_any ad len cap l p s X (HB.out.later hX).ok HB.out.max (by omega)
    rw [hg] at this
    exact this)
  clear hR hB hg
  go_enter Try.func37, Try.ntmps37
  go_wp2_with fail
  have BD : Hid (Below w.heap.size w w.drew) := (Below.refl _ _).drew
  have R1 : Hid (RdR w.drew R p false ad len cap) := Blk.later HR.out BD.out
  have k2 : w.drew.cell? ⟨R, 2, none⟩ = some (.bool false) := R1.out.cell 2
  have f1 : w.drew.frozen? ⟨R, 2, none⟩ = false := R1.out.free 2
  go_region_with (go_at_call 61; refine (HG.out _ BD.out).mono ?_; rintro e w1 ⟨rfl, hw1⟩; obtain rfl := hw1.symm)
  all_goals go_wp2
  all_goals go_ret
  all_goals exact ⟨rfl, hid ⟨R1.out.set 2 _, (Chg.of BD.out).trans ((Chg.refl _ _).set (Or.inl (by simp)) _ _) (fun k hk => Or.inl hk)⟩⟩
set_option maxHeartbeats 1000000 in
theorem rnum_bad (hR : RdR w R p true ad len cap) (hB : Bts w ad len cap l R) (hp : p ≤ 9223372036854775807) :
    Calls Try.prog 37 #[.pointer (some ⟨R, 0, none⟩), .int .i64 (s : Int)] w fun e w' => e = .returned (.int .i64 0) ∧ Hid (RdR w' R p true ad len cap ∧ Chg [R] w w') := by
  have c0 : w.cell? ⟨R, 0, none⟩ = some (.slice ad len cap) := hR.cell 0
  have c1 : w.cell? ⟨R, 1, none⟩ = some (.int .i64 (p : Int)) := hR.cell 1
  have HR : Hid (RdR w R p true ad len cap) := hR
  have HB := hid hB
  obtain ⟨x, y, z, hxyz⟩ : ∃ x y z, getN l p s = (x, y, z) := ⟨_, _, _, rfl⟩
  have HG : Hid (∀ X, Below w.heap.size w X → Calls Try.prog 61 #[.slice ad len cap, .int .i64 (p : Int), .int .i64 (s : Int)] X fun e w' => e = .returned (.tuple #[.int .i64 x, .int .i64 y, .int .i64 z]) ∧ w' = X) := hid (fun X hX => by
    have := refGet_any ad len cap l p s X (HB.out.later hX).ok HB.out.max (by omega)
    rw [hxyz] at this
    exact this)
  clear hR hB hxyz
  by_cases hz : z = 0
  · subst hz
    go_enter Try.func37, Try.ntmps37
    go_wp2_with fail
    have BD : Hid (Below w.heap.size w w.drew) := (Below.refl _ _).drew
    have R1 : Hid (RdR w.drew R p true ad len cap) := Blk.later HR.out BD.out
    have k2 : w.drew.cell? ⟨R, 2, none⟩ = some (.bool true) := R1.out.cell 2
    have f1 : w.drew.frozen? ⟨R, 2, none⟩ = false := R1.out.free 2
    go_region_with (go_at_call 61; refine (HG.out _ BD.out).mono ?_; rintro e w1 ⟨rfl, hw1⟩; obtain rfl := hw1.symm)
    all_goals go_wp2
    all_goals go_ret
    all_goals exact ⟨rfl, hid ⟨R1.out.set 2 _, (Chg.of BD.out).trans ((Chg.refl _ _).set (Or.inl (by simp)) _ _) (fun k hk => Or.inl hk)⟩⟩
  · have hzd : (z == 0) = false := by simpa using hz
    go_enter Try.func37, Try.ntmps37
    go_wp2_with fail
    have BD : Hid (Below w.heap.size w w.drew) := (Below.refl _ _).drew
    have R1 : Hid (RdR w.drew R p true ad len cap) := Blk.later HR.out BD.out
    have k2 : w.drew.cell? ⟨R, 2, none⟩ = some (.bool true) := R1.out.cell 2
    have f1 : w.drew.frozen? ⟨R, 2, none⟩ = false := R1.out.free 2
    go_region_with (go_at_call 61; refine (HG.out _ BD.out).mono ?_; rintro e w1 ⟨rfl, hw1⟩; obtain rfl := hw1.symm)
    all_goals go_wp2
    all_goals go_ret
    all_goals exact ⟨rfl, hid ⟨R1.out.set 2 _, (Chg.of BD.out).trans ((Chg.refl _ _).set (Or.inl (by simp)) _ _) (fun k hk => Or.inl hk)⟩⟩
end Go.Proofs.Ythadagpfmacemaa
