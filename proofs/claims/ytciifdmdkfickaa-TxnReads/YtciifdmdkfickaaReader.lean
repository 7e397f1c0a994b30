/- What the reader's methods pass and take answer, and what they do to the reader in memory. -/
import Derived.Test.YtciifdmdkfickaaGetN
namespace Go.Proofs.Ytciifdmdkfickaa
open Go.RowKit

/-- In w the block B is a reader of the part P, at place p. -/
def Rd (w : World) (B : Nat) (p : Int) (P : Part) : Prop := w.heap[B]? = some (.cells #[.int .i64 p, .slice P.ad P.len P.cap] 80 (0, 0))
theorem Rd.c0 {w : World} {B : Nat} {p : Int} {P : Part} (h : Rd w B p P) : w.cell? ⟨B, 0, none⟩ = some (.int .i64 p) := by rw [cell_of_row w B 0 _ _ _ h]; rfl
theorem Rd.c1 {w : World} {B : Nat} {p : Int} {P : Part} (h : Rd w B p P) : w.cell? ⟨B, 1, none⟩ = some (.slice P.ad P.len P.cap) := by rw [cell_of_row w B 1 _ _ _ h]; rfl
theorem Rd.f0 {w : World} {B : Nat} {p : Int} {P : Part} (h : Rd w B p P) : w.frozen? ⟨B, 0, none⟩ = false := frozen_of_row w B 0 _ _ h
theorem Rd.set {w : World} {B : Nat} {p q : Int} {P : Part} (h : Rd w B p P) : Rd (w.setCell ⟨B, 0, none⟩ (.int .i64 q)) B q P := by
  have e := heap_setCell_same w B 0 _ _ (.int .i64 q) h
  exact e
theorem pass_yes (B : Nat) (p : Nat) (n : Nat) (m : Nat) (P : Part) (w : World) (hr : Rd w B p P) (h : p + n ≤ m) (hm : m ≤ 1000000000000000) :
    Calls Try.prog 68 #[.pointer (some ⟨B, 0, none⟩), .int .i64 n, .int .i64 m] w fun e w' => e = .returned (.bool true) ∧ w' = w.setCell ⟨B, 0, none⟩ (.int .i64 ((p + n : Nat) : Int)) := by
  have c0 := hr.c0
  have f0 := hr.f0
  clear hr
  go_enter Try.func68, Try.ntmps68
  go_wp2
  go_ret
  exact ⟨rfl, by rw [Int.natCast_add]⟩
theorem pass_no (B : Nat) (p : Nat) (n : Nat) (m : Nat) (P : Part) (w : World) (hr : Rd w B p P) (h : ¬ p + n ≤ m) (hp : p ≤ 9223372036854775807) (hm : m ≤ 1000000000000000) :
    Calls Try.prog 68 #[.pointer (some ⟨B, 0, none⟩), .int .i64 n, .int .i64 m] w fun e w' => e = .returned (.bool false) ∧ w' = w := by
  have c0 := hr.c0
  clear hr
  have h2 : (m : Int) - p < n := by omega
  go_enter Try.func68, Try.ntmps68
  go_wp2
  go_ret
  exact ⟨rfl, rfl⟩
theorem Rd.drewN {w : World} {B : Nat} {p : Int} {P : Part} (h : Rd w B p P) (m : Nat) : Rd (w.drewN m) B p P := by
  induction m with
  | zero => exact h
  | succ m ih => exact ih
set_option maxHeartbeats 1000000 in
theorem take_raw (B p n : Nat) (P : Part) (w : World) (hr : Rd w B p P) (h : p + n ≤ P.len) (hc : P.len ≤ P.cap) (hm : P.len ≤ 1000000000000000) :
    Calls Try.prog 53 #[.pointer (some ⟨B, 0, none⟩), .int .i64 n] w fun e w' => e = .returned (.tuple #[.slice (cutP P p n).ad n (cutP P p n).cap, .int .i64 0]) ∧ ∃ m, w' = (w.setCell ⟨B, 0, none⟩ (.int .i64 ((p : Int) + (n : Int)))).drewN m := by
  have c0 := hr.c0
  have c1 := hr.c1
  have HR : Hid (Rd w B p P) := hr
  have d1 := (hr.set (q := (p : Int) + (n : Int))).c1
  have d0 := (hr.set (q := (p : Int) + (n : Int))).c0
  clear hr
  obtain ⟨ad, len, cap, l⟩ := P
  simp only at c1 d1 h hc hm
  have y1 : Hid (cap = p → (cutP ⟨ad, len, cap, l⟩ p n) = ⟨ad, n, 0, (l.drop p).take n⟩) := fun e => by unfold cutP; rw [if_pos e]
  have y2 : Hid (¬ cap = p → (cutP ⟨ad, len, cap, l⟩ p n) = ⟨ad.map (fun x => x.add p), n, cap - p, (l.drop p).take n⟩) := fun e => by unfold cutP; rw [if_neg e]
  generalize cutP ⟨ad, len, cap, l⟩ p n = Q at *
  go_enter Try.func53, Try.ntmps53
  go_wp2
  go_region_held3 (fun w' => w'.cell? ⟨B, 1, none⟩ = some (.slice ad len cap)) (go_keep)
    ((go_at_call 68; refine (pass_yes B p n len ⟨ad, len, cap, l⟩ _ ?_ h (by omega)).mono ?_; exact HR; rintro e w' ⟨rfl, rfl⟩))
  all_goals go_wp2
  all_goals go_quiet (fail)
  all_goals go_wp2
  all_goals go_ret2
  all_goals
    first
    | (have e := y1.out (by assumption); subst e; exact ⟨rfl, _, rfl⟩)
    | (have e := y2.out (by assumption); subst e; exact ⟨rfl, _, rfl⟩)
theorem take_yes (w0 : World) (B p n : Nat) (P : Part) (w : World) (ok : P.ok w0) (bel : Below w0.heap.size w0 w) (hB : w0.heap.size ≤ B) (hr : Rd w B p P) (h : p + n ≤ P.len) (hc : P.len ≤ P.cap) (hm : P.len ≤ 1000000000000000) :
    Calls Try.prog 53 #[.pointer (some ⟨B, 0, none⟩), .int .i64 n] w fun e w' => ∃ Q : Part, e = .returned (.tuple #[.slice Q.ad n Q.cap, .int .i64 0]) ∧ Hid (Q.len = n ∧ Q.l = (P.l.drop p).take n ∧ Q.ok w0 ∧ n ≤ Q.cap) ∧ Rd w' B ((p + n : Nat) : Int) P ∧ Below w0.heap.size w0 w' := by
  refine (take_raw B p n P w hr h hc hm).mono ?_
  rintro e w' ⟨rfl, m, rfl⟩
  refine ⟨cutP P p n, rfl, ⟨cutP_len P p n, cutP_l P p n, cutP_ok ok p n h hc, by rw [cutP_cap]; omega⟩, ?_, ?_⟩
  · rw [Int.natCast_add]; exact hr.set.drewN m
  · exact below_drewN' (bel.setCell hB _) m
set_option maxHeartbeats 1000000 in
theorem take_no (w0 : World) (B p n : Nat) (P : Part) (w : World) (bel : Below w0.heap.size w0 w) (hr : Rd w B p P) (h : ¬ p + n ≤ P.len) (hp : p ≤ 9223372036854775807) (hm : P.len ≤ 1000000000000000) :
    Calls Try.prog 53 #[.pointer (some ⟨B, 0, none⟩), .int .i64 n] w fun e w' => e = .returned (.tuple #[.slice none 0 0, .int .i64 20]) ∧ Rd w' B p P ∧ Below w0.heap.size w0 w' := by
  have c0 := hr.c0
  have c1 := hr.c1
  have HR : Hid (Rd w B p P) := hr
  clear hr
  obtain ⟨ad, len, cap, l⟩ := P
  simp only at c1 h hm
  go_enter Try.func53, Try.ntmps53
  go_wp2
  go_region_held3 (fun w' => w'.cell? ⟨B, 1, none⟩ = some (.slice ad len cap)) (go_keep)
    ((go_at_call 68; refine (pass_no B p n len ⟨ad, len, cap, l⟩ _ ?_ h hp hm).mono ?_; exact HR; rintro e w' ⟨rfl, rfl⟩))
  all_goals go_wp2
  all_goals go_ret2
  all_goals exact ⟨rfl, HR, bel.drew⟩
end Go.Proofs.Ytciifdmdkfickaa
