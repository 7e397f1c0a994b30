/- What the reader's methods pass and take answer, and what they do to the reader in memory. What the reader's method number answers, and wire.Get. What the Go function wire.Get answers. What the reader's method text and wire.GetText answer. -/
import Derived.Test.YtfgamkcnnijloaaGreatPZMath
import Derived.Test.YtfgamkcnnijloaaGreatPZJoin
namespace Go.Proofs.YtfgamkcnnijloaaGreat
open Go.RowKit

/-- In w the block B is a reader of the part P, at place p. -/
def Rd (w : World) (B : Nat) (p : Int) (P : Part) : Prop := w.heap[B]? = some (.cells #[.int .i64 p, .slice P.ad P.len P.cap] 119 (0, 0))
theorem Rd.c0 {w : World} {B : Nat} {p : Int} {P : Part} (h : Rd w B p P) : w.cell? ⟨B, 0, none⟩ = some (.int .i64 p) := by rw [cell_of_row w B 0 _ _ _ h]; rfl
theorem Rd.c1 {w : World} {B : Nat} {p : Int} {P : Part} (h : Rd w B p P) : w.cell? ⟨B, 1, none⟩ = some (.slice P.ad P.len P.cap) := by rw [cell_of_row w B 1 _ _ _ h]; rfl
theorem Rd.f0 {w : World} {B : Nat} {p : Int} {P : Part} (h : Rd w B p P) : w.frozen? ⟨B, 0, none⟩ = false := frozen_of_row w B 0 _ _ h
theorem Rd.set {w : World} {B : Nat} {p q : Int} {P : Part} (h : Rd w B p P) : Rd (w.setCell ⟨B, 0, none⟩ (.int .i64 q)) B q P := by
  have e := heap_setCell_same w B 0 _ _ (.int .i64 q) h
  exact e
theorem pass_yes (B : Nat) (p : Nat) (n : Nat) (m : Nat) (P : Part) (w : World) (hr : Rd w B p P) (h : p + n ≤ m) (hm : m ≤ 1000000000000000) :
    Calls Tryz.prog 119 #[.pointer (some ⟨B, 0, none⟩), .int .i64 n, .int .i64 m] w fun e w' => e = .returned (.bool true) ∧ w' = w.setCell ⟨B, 0, none⟩ (.int .i64 ((p + n : Nat) : Int)) := by
  have c0 := hr.c0
  have f0 := hr.f0
  clear hr
  go_enter Tryz.func119, Tryz.ntmps119
  go_wp2
  go_ret
  exact ⟨rfl, by rw [Int.natCast_add]⟩
theorem pass_no (B : Nat) (p : Nat) (n : Nat) (m : Nat) (P : Part) (w : World) (hr : Rd w B p P) (h : ¬ p + n ≤ m) (hp : p ≤ 9223372036854775807) (hm : m ≤ 1000000000000000) :
    Calls Tryz.prog 119 #[.pointer (some ⟨B, 0, none⟩), .int .i64 n, .int .i64 m] w fun e w' => e = .returned (.bool false) ∧ w' = w := by
  have c0 := hr.c0
  clear hr
  have h2 : (m : Int) - p < n := by omega
  go_enter Tryz.func119, Tryz.ntmps119
  go_wp2
  go_ret
  exact ⟨rfl, rfl⟩
theorem Rd.drewN {w : World} {B : Nat} {p : Int} {P : Part} (h : Rd w B p P) (m : Nat) : Rd (w.drewN m) B p P := by
  induction m with
  | zero => exact h
  | succ m ih => exact ih
set_option maxHeartbeats 1000000 in
theorem take_raw (B p n : Nat) (P : Part) (w : World) (hr : Rd w B p P) (h : p + n ≤ P.len) (hc : P.len ≤ P.cap) (hm : P.len ≤ 1000000000000000) :
    Calls Tryz.prog 91 #[.pointer (some ⟨B, 0, none⟩), .int .i64 n] w fun e w' => e = .returned (.tuple #[.slice (cutP P p n).ad n (cutP P p n).cap, .int .i64 0]) ∧ ∃ m, w' = (w.setCell ⟨B, 0, none⟩ (.int .i64 ((p : Int) + (n : Int)))).drewN m := by
  have c0 := hr.c0
  have c1 := hr.c1
  have HR : Hid (Rd w B p P) := hr
  have d1 := (hr.set (q := (p : Int) + (n : Int))).c1
  have d0 := (hr.set (q := (p : Int) + (n : Int))).c0
  clear hr
  obtain ⟨ad, len, cap, l⟩ := P
  simp only at c1 d1 h hc hm
  have y1 : Hid (cap = p → (cutP ⟨ad, len, cap, l⟩ p n) = ⟨ad, n, 0, (l.drop p).take n⟩) := fun e => by unfold cutP; rw [if_pos e]
  have y2 : Hid (¬ cap = p → (cutP ⟨ad, len, cap, l⟩ p n) = ⟨ad.map (fun x => x.add p), n, cap - p, (l.drop p).take n⟩) := fun e => by unfold cutP; rw [if_neg e]
  generalize cutP ⟨ad, len, cap, l⟩ p n = Q at *
  go_enter Tryz.func91, Tryz.ntmps91
  go_wp2
  go_region_held3 (fun w' => w'.cell? ⟨B, 1, none⟩ = some (.slice ad len cap)) (go_keep)
    ((go_at_call 119; refine (pass_yes B p n len ⟨ad, len, cap, l⟩ _ ?_ h (by omega)).mono ?_; exact HR; rintro e w' ⟨rfl, rfl⟩))
  all_goals go_wp2
  all_goals go_quiet (fail)
  all_goals go_wp2
  all_goals go_ret2
  all_goals
    first
    | (have e := y1.out (by assumption); subst e; exact ⟨rfl, _, rfl⟩)
    | (have e := y2.out (by assumption); subst e; exact ⟨rfl, _, rfl⟩)
theorem take_yes (w0 : World) (B p n : Nat) (P : Part) (w : World) (ok : P.ok w0) (bel : Below w0.heap.size w0 w) (hB : w0.heap.size ≤ B) (hr : Rd w B p P) (h : p + n ≤ P.len) (hc : P.len ≤ P.cap) (hm : P.len ≤ 1000000000000000) :
    Calls Tryz.prog 91 #[.pointer (some ⟨B, 0, none⟩), .int .i64 n] w fun e w' => ∃ Q : Part, e = .returned (.tuple #[.slice Q.ad n Q.cap, .int .i64 0]) ∧ Hid (Q.len = n ∧ Q.l = (P.l.drop p).take n ∧ Q.ok w0 ∧ n ≤ Q.cap) ∧ Rd w' B ((p + n : Nat) : Int) P ∧ Below w0.heap.size w0 w' := by
  refine (take_raw B p n P w hr h hc hm).mono ?_
  rintro e w' ⟨rfl, m, rfl⟩
  refine ⟨cutP P p n, rfl, ⟨cutP_len P p n, cutP_l P p n, cutP_ok ok p n h hc, by rw [cutP_cap]; omega⟩, ?_, ?_⟩
  · rw [Int.natCast_add]; exact hr.set.drewN m
  · exact below_drewN' (bel.setCell hB _) m
set_option maxHeartbeats 1000000 in
theorem take_no (w0 : World) (B p n : Nat) (P : Part) (w : World) (bel : Below w0.heap.size w0 w) (hr : Rd w B p P) (h : ¬ p + n ≤ P.len) (hp : p ≤ 9223372036854775807) (hm : P.len ≤ 1000000000000000) :
    Calls Tryz.prog 91 #[.pointer (some ⟨B, 0, none⟩), .int .i64 n] w fun e w' => e = .returned (.tuple #[.slice none 0 0, .int .i64 20]) ∧ Rd w' B p P ∧ Below w0.heap.size w0 w' := by
  have c0 := hr.c0
  have c1 := hr.c1
  have HR : Hid (Rd w B p P) := hr
  clear hr
  obtain ⟨ad, len, cap, l⟩ := P
  simp only at c1 h hm
  go_enter Tryz.func91, Tryz.ntmps91
  go_wp2
  go_region_held3 (fun w' => w'.cell? ⟨B, 1, none⟩ = some (.slice ad len cap)) (go_keep)
    ((go_at_call 119; refine (pass_no B p n len ⟨ad, len, cap, l⟩ _ ?_ h hp hm).mono ?_; exact HR; rintro e w' ⟨rfl, rfl⟩))
  all_goals go_wp2
  all_goals go_ret2
  all_goals exact ⟨rfl, HR, bel.drew⟩
end Go.Proofs.YtfgamkcnnijloaaGreat
namespace Go.Proofs.YtfgamkcnnijloaaGreat
open Go.RowKit

set_option maxHeartbeats 1000000 in
theorem number_yes (w0 : World) (B p s : Nat) (P : Part) (w : World) (ok : P.ok w0) (bel : Below w0.heap.size w0 w) (hB : w0.heap.size ≤ B) (hr : Rd w B p P) (h1 : 1 ≤ s) (h6 : s ≤ 6) (h : p + s ≤ P.len) (hc : P.len ≤ P.cap) (hm : P.len ≤ 1000000000000000) :
    Calls Tryz.prog 92 #[.pointer (some ⟨B, 0, none⟩), .int .i64 s] w fun e w' => e = .returned (.tuple #[.int .i64 (valN ((P.l.drop p).take s) : Nat), .int .i64 0]) ∧ Rd w' B ((p + s : Nat) : Int) P ∧ Below w0.heap.size w0 w' := by
  have HO : Hid (P.ok w0) := ok
  have HR : Hid (Rd w B p P) := hr
  clear ok hr
  go_enter Tryz.func92, Tryz.ntmps92
  go_wp2_with fail
  refine (take_yes w0 B p s P _ HO.out bel hB HR.out h hc hm).mono ?_
  rintro e w1 ⟨Q, rfl, HQ, hr1, b1⟩
  have HR1 : Hid (Rd w1 B ((p + s : Nat) : Int) P) := hr1
  clear hr1 HR bel
  obtain ⟨ad, len, cap, l⟩ := Q
  obtain ⟨q1, q2, q3, q4⟩ := HQ.out
  simp only at q1 q2 q3 q4
  subst q1
  obtain ⟨b, off, rfl, hb, hcell⟩ := q3.cells (by omega)
  have HC : Hid (∀ i, i < len → w1.cell? ⟨b, off + i, none⟩ = some (.int .u8 (l.getD i 0 : Nat))) := fun i hi => by
    rw [b1.cell (p := ⟨b, off + i, none⟩) hb]; exact hcell i hi
  have HB : Hid (∀ x ∈ l, x < 256) := q3.2.2.1
  have HL : Hid (l.length = len) := q3.1
  have H2 : Hid (l = (P.l.drop p).take len) := q2
  clear q2 q3 hcell HQ
  simp only
  go_wp2
  go_loop [8, 22] (fun n i => ∃ k : Nat, k ≤ len ∧ i = .int .i64 k ∧ n = .int .i64 (valN (l.take k) : Nat)) (fun _ i => len - (intOf i).toNat)
  case atStart => exact ⟨0, Nat.zero_le _, rfl, rfl⟩
  case round =>
    obtain ⟨k, hk, rfl, rfl⟩ := hrel
    by_cases hlt : k < len
    · have hck := HC.out k hlt
      have hx := getD_lt HB.out k
      have HS : Hid (bits .or .i64 ((valN (l.take k) : Nat) : Int) (wrap64 ((l.getD k 0 : Int) * 2 ^ (8 * k))) = ((valN (l.take (k + 1)) : Nat) : Int)) := by
        show _ = _
        rw [take_snoc l k (by rw [HL.out]; exact hlt)]
        exact orw_step _ _ k (take_mem HB.out k) hx (by rw [List.length_take, HL.out]; omega) (by omega)
      generalize l.getD k 0 = x at *
      go_wp2
      go_round
      case rel => exact ⟨k + 1, by omega, by go_num, val_int (HS.out)⟩
      case measure => simp [intOf]; omega
    · have HV : Hid (valN (l.take k) = valN ((P.l.drop p).take len)) := by
        show _ = _
        rw [List.take_of_length_le (by rw [HL.out]; omega), H2.out]
      go_wp2
      go_ret2
      exact ⟨by rw [← HV.out]; rfl, HR1, b1⟩

set_option maxHeartbeats 1000000 in
theorem number_no (w0 : World) (B p s : Nat) (P : Part) (w : World) (bel : Below w0.heap.size w0 w) (hr : Rd w B p P) (h : ¬ p + s ≤ P.len) (hp : p ≤ 9223372036854775807) (hm : P.len ≤ 1000000000000000) :
    Calls Tryz.prog 92 #[.pointer (some ⟨B, 0, none⟩), .int .i64 s] w fun e w' => e = .returned (.tuple #[.int .i64 0, .int .i64 20]) ∧ Rd w' B p P ∧ Below w0.heap.size w0 w' := by
  have HR : Hid (Rd w B p P) := hr
  clear hr
  go_enter Tryz.func92, Tryz.ntmps92
  go_wp2_with fail
  refine (take_no w0 B p s P _ bel HR.out h hp hm).mono ?_
  rintro e w1 ⟨rfl, hr1, b1⟩
  have HR1 : Hid (Rd w1 B p P) := hr1
  clear hr1 HR bel
  go_wp2
  go_ret2
  exact ⟨rfl, HR1, b1⟩

theorem number_at {z : Int} (w0 : World) (B p s : Nat) (P : Part) (w : World) (hz : z = s) (ok : P.ok w0) (bel : Below w0.heap.size w0 w) (hB : w0.heap.size ≤ B) (hr : Rd w B p P) (h1 : 1 ≤ s) (h6 : s ≤ 6) (h : p + s ≤ P.len) (hc : P.len ≤ P.cap) (hm : P.len ≤ 1000000000000000) :
    Calls Tryz.prog 92 #[.pointer (some ⟨B, 0, none⟩), .int .i64 z] w fun e w' => e = .returned (.tuple #[.int .i64 (valN ((P.l.drop p).take s) : Nat), .int .i64 0]) ∧ Rd w' B ((p + s : Nat) : Int) P ∧ Below w0.heap.size w0 w' := by
  subst hz; exact number_yes w0 B p s P w ok bel hB hr h1 h6 h hc hm
theorem number_not {z : Int} (w0 : World) (B p s : Nat) (P : Part) (w : World) (hz : z = s) (bel : Below w0.heap.size w0 w) (hr : Rd w B p P) (h : ¬ p + s ≤ P.len) (hp : p ≤ 9223372036854775807) (hm : P.len ≤ 1000000000000000) :
    Calls Tryz.prog 92 #[.pointer (some ⟨B, 0, none⟩), .int .i64 z] w fun e w' => e = .returned (.tuple #[.int .i64 0, .int .i64 20]) ∧ Rd w' B p P ∧ Below w0.heap.size w0 w' := by
  subst hz; exact number_no w0 B p s P w bel hr h hp hm

theorem Rd.new (w : World) (p : Int) (P : Part) : Rd (w.alloc (.cells #[.int .i64 p, .slice P.ad P.len P.cap] 119)) w.heap.size p P := heap_alloc_new w _
end Go.Proofs.YtfgamkcnnijloaaGreat
namespace Go.Proofs.YtfgamkcnnijloaaGreat
open Go.RowKit

set_option maxHeartbeats 1000000 in
theorem get_in (ad : Option Addr) (len cap : Nat) (l : List Nat) (p s : Nat) (w : World) (hp : Part.ok w ⟨ad, len, cap, l⟩) (hlc : len ≤ cap) (hm : len ≤ 1000000000000000) (hp2 : p ≤ 9223372036854775807) (h1 : 1 ≤ s) (h6 : s ≤ 6) :
    Calls Tryz.prog 68 #[.slice ad len cap, .int .i64 p, .int .i64 s] w fun e w' => e = .returned (.tuple #[.int .i64 (getN l p s).1, .int .i64 (getN l p s).2.1, .int .i64 (getN l p s).2.2]) ∧ Below w.heap.size w w' := by
  have hb : (decide (1 ≤ (s : Int)) && decide ((s : Int) ≤ 6)) = true := by simp; omega
  have hlen : l.length = len := hp.1
  have HP : Hid (Part.ok w ⟨ad, len, cap, l⟩) := hp
  clear hp
  have b0 : Below w.heap.size w (w.alloc (.cells #[.int .i64 (p : Int), .slice ad len cap] 119)) := (Below.refl _ _).alloc (Nat.le_refl _) _
  have r0 : Hid (Rd (w.alloc (.cells #[.int .i64 (p : Int), .slice ad len cap] 119)) w.heap.size p ⟨ad, len, cap, l⟩) := Rd.new w p ⟨ad, len, cap, l⟩
  by_cases h2 : p + s ≤ len
  · rw [getN_ok l p s ⟨h1, h6⟩ (by omega)]
    go_enter Tryz.func68, Tryz.ntmps68
    go_wp2_with (first | (go_at_call 86; refine (isSize_any _ _).mono ?_; rintro e w' ⟨rfl, rfl⟩; rw [hb]) | (go_at_call 92; refine (number_at w' w'.heap.size p s ⟨ad, len, cap, l⟩ _ rfl HP.out b0 (Nat.le_refl _) r0.out h1 h6 h2 hlc hm).mono ?_; rintro e w1 ⟨rfl, hr1, b1⟩; have c1 := hr1.c0; clear hr1))
    go_quiet (fail)
    go_wp2
    go_ret3
    exact ⟨rfl, below_drewN' b1 _⟩
  · rw [getN_end l p s (by omega) (by omega)]
    go_enter Tryz.func68, Tryz.ntmps68
    go_wp2_with (first | (go_at_call 86; refine (isSize_any _ _).mono ?_; rintro e w' ⟨rfl, rfl⟩; rw [hb]) | (go_at_call 92; refine (number_not w' w'.heap.size p s ⟨ad, len, cap, l⟩ _ rfl b0 r0.out h2 hp2 hm).mono ?_; rintro e w1 ⟨rfl, hr1, b1⟩; clear hr1))
    go_ret3
    exact ⟨rfl, b1⟩

theorem get_any (ad : Option Addr) (len cap : Nat) (l : List Nat) (p s : Int) (w : World) (hp : Part.ok w ⟨ad, len, cap, l⟩) (hlc : len ≤ cap) (hm : len ≤ 1000000000000000) (hp2 : p ≤ 9223372036854775807) :
    Calls Tryz.prog 68 #[.slice ad len cap, .int .i64 p, .int .i64 s] w fun e w' => e = .returned (.tuple #[.int .i64 (getN l p s).1, .int .i64 (getN l p s).2.1, .int .i64 (getN l p s).2.2]) ∧ Below w.heap.size w w' := by
  by_cases h : 1 ≤ s ∧ s ≤ 6
  · by_cases h0 : 0 ≤ p
    · obtain ⟨k, rfl⟩ := Int.eq_ofNat_of_zero_le (show 0 ≤ s by omega)
      obtain ⟨q, rfl⟩ := Int.eq_ofNat_of_zero_le h0
      exact get_in ad len cap l q k w hp hlc hm (by omega) (by omega) (by omega)
    · rw [getN_arg l p s (by omega)]
      have hb : (decide (1 ≤ s) && decide (s ≤ 6)) = true := by simp; omega
      clear hp h
      have h1 : p < 0 := by omega
      go_enter Tryz.func68, Tryz.ntmps68
      go_wp2_with (go_at_call 86; refine (isSize_any _ _).mono ?_; rintro e w' ⟨rfl, rfl⟩; rw [hb])
      go_ret3
      exact ⟨rfl, Below.refl _ _⟩
  · rw [getN_arg l p s (by omega)]
    have hb : (decide (1 ≤ s) && decide (s ≤ 6)) = false := by
      rw [Bool.and_eq_false_iff]; simp; omega
    clear hp h
    go_enter Tryz.func68, Tryz.ntmps68
    go_wp2_with (go_at_call 86; refine (isSize_any _ _).mono ?_; rintro e w' ⟨rfl, rfl⟩; rw [hb])
    go_ret3
    exact ⟨rfl, Below.refl _ _⟩
end Go.Proofs.YtfgamkcnnijloaaGreat
namespace Go.Proofs.YtfgamkcnnijloaaGreat
open Go.RowKit

set_option maxHeartbeats 1000000 in
theorem rtext_yes (w0 : World) (B p : Nat) (P : Part) (w : World) (ok : P.ok w0) (bel : Below w0.heap.size w0 w) (hB : w0.heap.size ≤ B) (hr : Rd w B p P) (h : p + 2 + lenAt P.l p ≤ P.len) (hc : P.len ≤ P.cap) (hm : P.len ≤ 1000000000000000) :
    Calls Tryz.prog 136 #[.pointer (some ⟨B, 0, none⟩)] w fun e w' => e = .returned (.tuple #[.string (bstr ((P.l.drop (p + 2)).take (lenAt P.l p))), .int .i64 0]) ∧ Rd w' B ((p + 2 + lenAt P.l p : Nat) : Int) P ∧ Below w0.heap.size w0 w' := by
  have HO : Hid (P.ok w0) := ok
  have HR : Hid (Rd w B p P) := hr
  clear ok hr
  go_enter Tryz.func136, Tryz.ntmps136
  go_wp2_with fail
  refine (number_at w0 B p 2 P _ rfl HO.out bel hB HR.out (by omega) (by omega) (by omega) hc hm).mono ?_
  rintro e w1 ⟨rfl, hr1, b1⟩
  have HR1 : Hid (Rd w1 B ((p + 2 : Nat) : Int) P) := hr1
  clear hr1 HR bel
  go_wp2_with fail
  refine (take_yes w0 B (p + 2) (lenAt P.l p) P _ HO.out b1 hB HR1.out h hc hm).mono ?_
  rintro e w2 ⟨Q, rfl, HQ, hr2, b2⟩
  have HR2 : Hid (Rd w2 B ((p + 2 + lenAt P.l p : Nat) : Int) P) := hr2
  have k := conv_any (HQ.out.2.2.1.later b2).2.2 (lenAt P.l p) Q.cap (by rw [HQ.out.2.2.1.1, HQ.out.1])
  rw [HQ.out.2.1] at k
  clear hr2 HR1 b1
  go_wp2
  go_ret2
  exact ⟨rfl, HR2, b2⟩
set_option maxHeartbeats 1000000 in
theorem rtext_no (w0 : World) (B p : Nat) (P : Part) (w : World) (ok : P.ok w0) (bel : Below w0.heap.size w0 w) (hB : w0.heap.size ≤ B) (hr : Rd w B p P) (h : ¬ p + 2 + lenAt P.l p ≤ P.len) (hp : p ≤ 9223372036854775807) (hc : P.len ≤ P.cap) (hm : P.len ≤ 1000000000000000) :
    Calls Tryz.prog 136 #[.pointer (some ⟨B, 0, none⟩)] w fun e w' => e = .returned (.tuple #[.string (bstr []), .int .i64 20]) ∧ Below w0.heap.size w0 w' := by
  have HO : Hid (P.ok w0) := ok
  have HR : Hid (Rd w B p P) := hr
  clear ok hr
  by_cases h2 : p + 2 ≤ P.len
  · have k0 : ∀ w, (convert 53 9 (.slice none 0 0)).run Tryz.prog w = .ok (.string (bstr [])) w := fun w => conv_any (w := w) ⟨fun _ h => (by cases h), Or.inl rfl⟩ 0 0 rfl
    go_enter Tryz.func136, Tryz.ntmps136
    go_wp2_with fail
    refine (number_at w0 B p 2 P _ rfl HO.out bel hB HR.out (by omega) (by omega) (by omega) hc hm).mono ?_
    rintro e w1 ⟨rfl, hr1, b1⟩
    have HR1 : Hid (Rd w1 B ((p + 2 : Nat) : Int) P) := hr1
    clear hr1 HR bel
    go_wp2_with fail
    refine (take_no w0 B (p + 2) (lenAt P.l p) P _ b1 HR1.out h (by omega) hm).mono ?_
    rintro e w2 ⟨rfl, hr2, b2⟩
    clear hr2 HR1 b1
    go_wp2
    go_ret2
    exact ⟨rfl, b2⟩
  · go_enter Tryz.func136, Tryz.ntmps136
    go_wp2_with fail
    refine (number_not w0 B p 2 P _ rfl bel HR.out h2 hp hm).mono ?_
    rintro e w1 ⟨rfl, hr1, b1⟩
    clear hr1 HR bel
    go_wp2
    go_ret2
    exact ⟨rfl, b1⟩
set_option maxHeartbeats 1000000 in
theorem getText_in (ad : Option Addr) (len cap : Nat) (l : List Nat) (p : Nat) (w : World) (hp : Part.ok w ⟨ad, len, cap, l⟩) (hlc : len ≤ cap) (hm : len ≤ 1000000000000000) (hp2 : p ≤ 9223372036854775807) :
    Calls Tryz.prog 132 #[.slice ad len cap, .int .i64 p] w fun e w' => e = .returned (.tuple #[.string (getTextN l p).1, .int .i64 (getTextN l p).2.1, .int .i64 (getTextN l p).2.2]) ∧ Below w.heap.size w w' := by
  have HL : Hid (l.length = len) := hp.1
  have HP : Hid (Part.ok w ⟨ad, len, cap, l⟩) := hp
  clear hp
  have b0 : Below w.heap.size w (w.alloc (.cells #[.int .i64 (p : Int), .slice ad len cap] 119)) := (Below.refl _ _).alloc (Nat.le_refl _) _
  have r0 : Hid (Rd (w.alloc (.cells #[.int .i64 (p : Int), .slice ad len cap] 119)) w.heap.size p ⟨ad, len, cap, l⟩) := Rd.new w p ⟨ad, len, cap, l⟩
  by_cases h2 : p + 2 + lenAt l p ≤ len
  · rw [getTextN_ok l p (by rw [HL.out]; exact h2)]
    generalize hn : lenAt l p = n at *
    have HN : Hid (lenAt l p = n) := hn
    clear hn
    go_enter Tryz.func132, Tryz.ntmps132
    go_wp2_with fail
    refine (rtext_yes w w.heap.size p ⟨ad, len, cap, l⟩ _ HP.out b0 (Nat.le_refl _) r0.out (by rw [HN.out]; exact h2) hlc hm).mono ?_
    rintro e w1 ⟨rfl, hr1, b1⟩
    have c1 := hr1.c0
    simp only [HN.out] at c1 ⊢
    clear hr1
    go_wp2_with fail
    go_quiet (fail)
    go_wp2
    go_ret3
    exact ⟨rfl, below_drewN' b1 _⟩
  · rw [getTextN_end l p (by rw [HL.out]; exact h2)]
    go_enter Tryz.func132, Tryz.ntmps132
    go_wp2_with fail
    refine (rtext_no w w.heap.size p ⟨ad, len, cap, l⟩ _ HP.out b0 (Nat.le_refl _) r0.out h2 hp2 hlc hm).mono ?_
    rintro e w1 ⟨rfl, b1⟩
    go_wp2
    go_ret3
    exact ⟨rfl, b1⟩
theorem getText_any (ad : Option Addr) (len cap : Nat) (l : List Nat) (p : Int) (w : World) (hp : Part.ok w ⟨ad, len, cap, l⟩) (hlc : len ≤ cap) (hm : len ≤ 1000000000000000) (hp2 : p ≤ 9223372036854775807) :
    Calls Tryz.prog 132 #[.slice ad len cap, .int .i64 p] w fun e w' => e = .returned (.tuple #[.string (getTextN l p).1, .int .i64 (getTextN l p).2.1, .int .i64 (getTextN l p).2.2]) ∧ Below w.heap.size w w' := by
  by_cases h0 : 0 ≤ p
  · obtain ⟨q, rfl⟩ := Int.eq_ofNat_of_zero_le h0
    exact getText_in ad len cap l q w hp hlc hm (by omega)
  · rw [getTextN_arg l p h0]
    clear hp
    have h1 : p < 0 := by omega
    go_enter Tryz.func132, Tryz.ntmps132
    go_wp2
    go_ret3
    exact ⟨rfl, Below.refl _ _⟩
end Go.Proofs.YtfgamkcnnijloaaGreat
