/- What the reader's methods pass and take answer, and what they do to the reader in memory. -/
import Derived.Test.YtiiepmljcjbflaaGreatGetTextN
namespace Go.Proofs.YtiiepmljcjbflaaGreat
open Go.RowKit

/-- In w the block B is a reader of the part P, at place p. -/
def Rd (w : World) (B : Nat) (p : Int) (P : Part) : Prop := w.heap[B]? = some (.cells #[.int .i64 p, .slice P.ad P.len P.cap] 116 (0, 0))
theorem Rd.c0 {w : World} {B : Nat} {p : Int} {P : Part} (h : Rd w B p P) : w.cell? ⟨B, 0, none⟩ = some (.int .i64 p) := by rw [cell_of_row w B 0 _ _ _ h]; rfl
theorem Rd.c1 {w : World} {B : Nat} {p : Int} {P : Part} (h : Rd w B p P) : w.cell? ⟨B, 1, none⟩ = some (.slice P.ad P.len P.cap) := by rw [cell_of_row w B 1 _ _ _ h]; rfl
theorem Rd.f0 {w : World} {B : Nat} {p : Int} {P : Part} (h : Rd w B p P) : w.frozen? ⟨B, 0, none⟩ = false := frozen_of_row w B 0 _ _ h
theorem Rd.set {w : World} {B : Nat} {p q : Int} {P : Part} (h : Rd w B p P) : Rd (w.setCell ⟨B, 0, none⟩ (.int .i64 q)) B q P := by
  have e := heap_setCell_same w B 0 _ _ (.int .i64 q) h
  exact e
theorem pass_yes (B : Nat) (p : Nat) (n : Nat) (m : Nat) (P : Part) (w : World) (hr : Rd w B p P) (h : p + n ≤ m) (hm : m ≤ 1000000000000000) :
    Calls Tryz.prog 108 #[.pointer (some ⟨B, 0, none⟩), .int .i64 n, .int .i64 m] w fun e w' => e = .returned (.bool true) ∧ w' = w.setCell ⟨B, 0, none⟩ (.int .i64 ((p + n : Nat) : Int)) := by
  have c0 := hr.c0
  have f0 := hr.f0
  clear hr
  go_enter Tryz.func108, Tryz.ntmps108
  go_wp2
  go_ret
  exact ⟨rfl, by rw [Int.natCast_add]⟩
theorem pass_no (B : Nat) (p : Nat) (n : Nat) (m : Nat) (P : Part) (w : World) (hr : Rd w B p P) (h : ¬ p + n ≤ m) (hp : p ≤ 9223372036854775807) (hm : m ≤ 1000000000000000) :
    Calls Tryz.prog 108 #[.pointer (some ⟨B, 0, none⟩), .int .i64 n, .int .i64 m] w fun e w' => e = .returned (.bool false) ∧ w' = w := by
  have c0 := hr.c0
  clear hr
  have h2 : (m : Int) - p < n := by omega
  go_enter Tryz.func108, Tryz.ntmps108
  go_wp2
  go_ret
  exact ⟨rfl, rfl⟩
theorem Rd.drewN {w : World} {B : Nat} {p : Int} {P : Part} (h : Rd w B p P) (m : Nat) : Rd (w.drewN m) B p P := by
  induction m with
  | zero => exact h
  | succ m ih => exact ih
set_option maxHeartbeats 1000000 in
theorem take_raw (B p n : Nat) (P : Part) (w : World) (hr : Rd w B p P) (h : p + n ≤ P.len) (hc : P.len ≤ P.cap) (hm : P.len ≤ 1000000000000000) :
    Calls Tryz.prog 92 #[.pointer (some ⟨B, 0, none⟩), .int .i64 n] w fun e w' => e = .returned (.tuple #[.slice (cutP P p n).ad n (cutP P p n).cap, .int .i64 0]) ∧ ∃ m, w' = (w.setCell ⟨B, 0, none⟩ (.int .i64 ((p : Int) + (n : Int)))).drewN m := by
  have c0 := hr.c0
  have c1 := hr.c1
  have HR : Hid (Rd w B p P) := hr
  have d1 := (hr.set (q := (p : Int) + (n : Int))).c1
  have d0 := (hr.set (q := (p : Int) + (n : Int))).c0
  clear hr
  obtain ⟨ad, len, cap, l⟩ := P
  simp only at c1 d1 h hc hm
  have y1 : Hid (cap = p → (cutP ⟨ad, len, cap, l⟩ p n) = ⟨ad, n, 0, (l.drop p).take n⟩) := fun e => by unfold cutP; rw [if_pos e]
  have y2 : Hid (¬ cap = p → (cutP ⟨ad, len, cap, l⟩ p n) = ⟨ad.map (fun x => x.add p), n, cap - p, (l.drop p).take n⟩) := fun e => by unfold cutP; rw [if_neg e]
  generalize cutP ⟨ad, len, cap, l⟩ p n = Q at *
  go_enter Tryz.func92, Tryz.ntmps92
  go_wp2
  go_region_held3 (fun w' => w'.cell? ⟨B, 1, none⟩ = some (.slice ad len cap)) (go_keep)
    ((go_at_call 108; refine (pass_yes B p n len ⟨ad, len, cap, l⟩ _ ?_ h (by omega)).mono ?_; exact HR; rintro e w' ⟨rfl, rfl⟩))
  all_goals go_wp2
  all_goals go_quiet (fail)
  all_goals go_wp2
  all_goals go_ret2
  all_goals
    first
    | (have e := y1.out (by assumption); subst e; exact ⟨rfl, _, rfl⟩)
    | (have e := y2.out (by assumption); subst e; exact ⟨rfl, _, rfl⟩)
theorem take_yes (w0 : World) (B p n : Nat) (P : Part) (w : World) (ok : P.ok w0) (bel : Below w0.heap.size w0 w) (hB : w0.heap.size ≤ B) (hr : Rd w B p P) (h : p + n ≤ P.len) (hc : P.len ≤ P.cap) (hm : P.len ≤ 1000000000000000) :
    Calls Tryz.prog 92 #[.pointer (some ⟨B, 0, none⟩), .int .i64 n] w fun e w' => ∃ Q : Part, e = .returned (.tuple #[.slice Q.ad n Q.cap, .int .i64 0]) ∧ Hid (Q.len = n ∧ Q.l = (P.l.drop p).take n ∧ Q.ok w0 ∧ n ≤ Q.cap) ∧ Rd w' B ((p + n : Nat) : Int) P ∧ Below w0.heap.size w0 w' := by
  refine (take_raw B p n P w hr h hc hm).mono ?_
  rintro e w' ⟨rfl, m, rfl⟩
  refine ⟨cutP P p n, rfl, ⟨cutP_len P p n, cutP_l P p n, cutP_ok ok p n h hc, by rw [cutP_cap]; omega⟩, ?_, ?_⟩
  · rw [Int.natCast_add]; exact hr.set.drewN m
  · exact below_drewN' (bel.setCell hB _) m
set_option maxHeartbeats 1000000 in
theorem take_no (w0 : World) (B p n : Nat) (P : Part) (w : World) (bel : Below w0.heap.size w0 w) (hr : Rd w B p P) (h : ¬ p + n ≤ P.len) (hp : p ≤ 9223372036854775807) (hm : P.len ≤ 1000000000000000) :
    Calls Tryz.prog 92 #[.pointer (some ⟨B, 0, none⟩), .int .i64 n] w fun e w' => e = .returned (.tuple #[.slice none 0 0, .int .i64 20]) ∧ Rd w' B p P ∧ Below w0.heap.size w0 w' := by
  have c0 := hr.c0
  have c1 := hr.c1
  have HR : Hid (Rd w B p P) := hr
  clear hr
  obtain ⟨ad, len, cap, l⟩ := P
  simp only at c1 h hm
  go_enter Tryz.func92, Tryz.ntmps92
  go_wp2
  go_region_held3 (fun w' => w'.cell? ⟨B, 1, none⟩ = some (.slice ad len cap)) (go_keep)
    ((go_at_call 108; refine (pass_no B p n len ⟨ad, len, cap, l⟩ _ ?_ h hp hm).mono ?_; exact HR; rintro e w' ⟨rfl, rfl⟩))
  all_goals go_wp2
  all_goals go_ret2
  all_goals exact ⟨rfl, HR, bel.drew⟩
end Go.Proofs.YtiiepmljcjbflaaGreat

/- What the reader's method number answers, and wire.Get. -/
namespace Go.Proofs.YtiiepmljcjbflaaGreat
open Go.RowKit

set_option maxHeartbeats 1000000 in
theorem number_yes (w0 : World) (B p s : Nat) (P : Part) (w : World) (ok : P.ok w0) (bel : Below w0.heap.size w0 w) (hB : w0.heap.size ≤ B) (hr : Rd w B p P) (h1 : 1 ≤ s) (h6 : s ≤ 6) (h : p + s ≤ P.len) (hc : P.len ≤ P.cap) (hm : P.len ≤ 1000000000000000) :
    Calls Tryz.prog 93 #[.pointer (some ⟨B, 0, none⟩), .int .i64 s] w fun e w' => e = .returned (.tuple #[.int .i64 (valN ((P.l.drop p).take s) : Nat), .int .i64 0]) ∧ Rd w' B ((p + s : Nat) : Int) P ∧ Below w0.heap.size w0 w' := by
  have HO : Hid (P.ok w0) := ok
  have HR : Hid (Rd w B p P) := hr
  clear ok hr
  go_enter Tryz.func93, Tryz.ntmps93
  go_wp2_with fail
  refine (take_yes w0 B p s P _ HO.out bel hB HR.out h hc hm).mono ?_
  rintro e w1 ⟨Q, rfl, HQ, hr1, b1⟩
  have HR1 : Hid (Rd w1 B ((p + s : Nat) : Int) P) := hr1
  clear hr1 HR bel
  obtain ⟨ad, len, cap, l⟩ := Q
  obtain ⟨q1, q2, q3, q4⟩ := HQ.out
  simp only at q1 q2 q3 q4
  subst q1
  obtain ⟨b, off, rfl, hb, hcell⟩ := q3.cells (by omega)
  have HC : Hid (∀ i, i < len → w1.cell? ⟨b, off + i, none⟩ = some (.int .u8 (l.getD i 0 : Nat))) := fun i hi => by
    rw [b1.cell (p := ⟨b, off + i, none⟩) hb]; exact hcell i hi
  have HB : Hid (∀ x ∈ l, x < 256) := q3.2.2.1
  have HL : Hid (l.length = len) := q3.1
  have H2 : Hid (l = (P.l.drop p).take len) := q2
  clear q2 q3 hcell HQ
  simp only
  go_wp2
  go_loop [8, 22] (fun n i => ∃ k : Nat, k ≤ len ∧ i = .int .i64 k ∧ n = .int .i64 (valN (l.take k) : Nat)) (fun _ i => len - (intOf i).toNat)
  case atStart => exact ⟨0, Nat.zero_le _, rfl, rfl⟩
  case round =>
    obtain ⟨k, hk, rfl, rfl⟩ := hrel
    by_cases hlt : k < len
    · have hck := HC.out k hlt
      have hx := getD_lt HB.out k
      have HS : Hid (bits .or .i64 ((valN (l.take k) : Nat) : Int) (wrap64 ((l.getD k 0 : Int) * 2 ^ (8 * k))) = ((valN (l.take (k + 1)) : Nat) : Int)) := by
        show _ = _
        rw [take_snoc l k (by rw [HL.out]; exact hlt)]
        exact orw_step _ _ k (take_mem HB.out k) hx (by rw [List.length_take, HL.out]; omega) (by omega)
      generalize l.getD k 0 = x at *
      go_wp2
      go_round
      case rel => exact ⟨k + 1, by omega, by go_num, val_int (HS.out)⟩
      case measure => simp [intOf]; omega
    · have HV : Hid (valN (l.take k) = valN ((P.l.drop p).take len)) := by
        show _ = _
        rw [List.take_of_length_le (by rw [HL.out]; omega), H2.out]
      go_wp2
      go_ret2
      exact ⟨by rw [← HV.out]; rfl, HR1, b1⟩

set_option maxHeartbeats 1000000 in
theorem number_no (w0 : World) (B p s : Nat) (P : Part) (w : World) (bel : Below w0.heap.size w0 w) (hr : Rd w B p P) (h : ¬ p + s ≤ P.len) (hp : p ≤ 9223372036854775807) (hm : P.len ≤ 1000000000000000) :
    Calls Tryz.prog 93 #[.pointer (some ⟨B, 0, none⟩), .int .i64 s] w fun e w' => e = .returned (.tuple #[.int .i64 0, .int .i64 20]) ∧ Rd w' B p P ∧ Below w0.heap.size w0 w' := by
  have HR : Hid (Rd w B p P) := hr
  clear hr
  go_enter Tryz.func93, Tryz.ntmps93
  go_wp2_with fail
  refine (take_no w0 B p s P _ bel HR.out h hp hm).mono ?_
  rintro e w1 ⟨rfl, hr1, b1⟩
  have HR1 : Hid (Rd w1 B p P) := hr1
  clear hr1 HR bel
  go_wp2
  go_ret2
  exact ⟨rfl, HR1, b1⟩

theorem number_at {z : Int} (w0 : World) (B p s : Nat) (P : Part) (w : World) (hz : z = s) (ok : P.ok w0) (bel : Below w0.heap.size w0 w) (hB : w0.heap.size ≤ B) (hr : Rd w B p P) (h1 : 1 ≤ s) (h6 : s ≤ 6) (h : p + s ≤ P.len) (hc : P.len ≤ P.cap) (hm : P.len ≤ 1000000000000000) :
    Calls Tryz.prog 93 #[.pointer (some ⟨B, 0, none⟩), .int .i64 z] w fun e w' => e = .returned (.tuple #[.int .i64 (valN ((P.l.drop p).take s) : Nat), .int .i64 0]) ∧ Rd w' B ((p + s : Nat) : Int) P ∧ Below w0.heap.size w0 w' := by
  subst hz; exact number_yes w0 B p s P w ok bel hB hr h1 h6 h hc hm
theorem number_not {z : Int} (w0 : World) (B p s : Nat) (P : Part) (w : World) (hz : z = s) (bel : Below w0.heap.size w0 w) (hr : Rd w B p P) (h : ¬ p + s ≤ P.len) (hp : p ≤ 9223372036854775807) (hm : P.len ≤ 1000000000000000) :
    Calls Tryz.prog 93 #[.pointer (some ⟨B, 0, none⟩), .int .i64 z] w fun e w' => e = .returned (.tuple #[.int .i64 0, .int .i64 20]) ∧ Rd w' B p P ∧ Below w0.heap.size w0 w' := by
  subst hz; exact number_no w0 B p s P w bel hr h hp hm

theorem Rd.new (w : World) (p : Int) (P : Part) : Rd (w.alloc (.cells #[.int .i64 p, .slice P.ad P.len P.cap] 116)) w.heap.size p P := heap_alloc_new w _
end Go.Proofs.YtiiepmljcjbflaaGreat
