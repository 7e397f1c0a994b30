/- What the document's own Len and size (package ref) answer. What the document's own Check (package ref) answers where Kind, Producer, Epoch, InTxn or a marker's Seq may not be, and where there are too many or too few Records. What the document's own Check (package ref) answers: checkN. What the document's own Check (package ref) answers of a plain batch whose head may be. What the document's own Check (package ref) answers: checkN. -/
import Derived.Test.YtgihmkgbkffgbaaGreatPZRec
import Derived.Test.YtgihmkgbkffgbaaGreatPZAsked
import Derived.Test.YtgihmkgbkffgbaaGreatPZCheck
import Derived.Laws.StructEq
namespace Go.Proofs.YtgihmkgbkffgbaaGreat
open Go.RowKit

theorem refLen_any (k p e s : Int) (t : Bool) (ad : Option Addr) (len cap : Nat) (w : World) :
    Calls Tryz.prog 77 #[.agg #[.int .i64 k, .int .i64 p, .int .i64 e, .int .i64 s, .bool t, .slice ad len cap]] w fun r w' => r = .returned (.int .i64 (if k == 2 || k == 3 then 1 else len)) ∧ Below w.heap.size w w' := by
  have b0 : Below w.heap.size w (w.alloc (.cells #[.int .i64 k, .int .i64 p, .int .i64 e, .int .i64 s, .bool t, .slice ad len cap] 25)) := (Below.refl _ _).alloc (Nat.le_refl _) _
  rcases (show k = 2 ∨ k = 3 ∨ (k ≠ 2 ∧ k ≠ 3) by omega) with rfl | rfl | ⟨h2, h3⟩
  · rw [show (if ((2 : Int) == 2 || (2 : Int) == 3) = true then (1 : Int) else len) = 1 from rfl]
    go_enter Tryz.func77, Tryz.ntmps77
    go_wp2
    go_ret
    exact ⟨rfl, b0⟩
  · rw [show (if ((3 : Int) == 2 || (3 : Int) == 3) = true then (1 : Int) else len) = 1 from rfl]
    go_enter Tryz.func77, Tryz.ntmps77
    go_wp2
    go_ret
    exact ⟨rfl, b0⟩
  · rw [show (if (k == 2 || k == 3) = true then (1 : Int) else len) = len by simp [h2, h3]]
    have hm : (k == 2 || k == 3) = false := by simp [h2, h3]
    go_enter Tryz.func77, Tryz.ntmps77
    go_wp2
    go_ret
    exact ⟨rfl, b0⟩

set_option maxHeartbeats 1000000 in
theorem refSize_any (k p e s : Int) (t : Bool) (rs : List Rec) (ad : Option Addr) (len cap : Nat) (w : World) (h : BArg w ⟨k, p, e, s, t, rs⟩ ad len cap) (hm : len ≤ 64) (hr : ∀ r ∈ rs, recOk r = true) :
    Calls Tryz.prog 78 #[.agg #[.int .i64 k, .int .i64 p, .int .i64 e, .int .i64 s, .bool t, .slice ad len cap]] w fun r w' => r = .returned (.int .i64 ((18 + recsSize rs : Nat) : Int)) ∧ Below w.heap.size w w' := by
  have b0 : Below w.heap.size w (w.alloc (.cells #[.int .i64 k, .int .i64 p, .int .i64 e, .int .i64 s, .bool t, .slice ad len cap] 25)) := (Below.refl _ _).alloc (Nat.le_refl _) _
  have x0 : Hid (BBox (w.alloc (.cells #[.int .i64 k, .int .i64 p, .int .i64 e, .int .i64 s, .bool t, .slice ad len cap] 25)) w.heap.size k p e s t (.slice ad len cap)) := BBox.new w k p e s t _
  have HA : Hid (BArg w ⟨k, p, e, s, t, rs⟩ ad len cap) := h
  have HL : Hid (rs.length = len) := h.len_eq
  have HR : Hid (∀ r ∈ rs, recOk r = true) := hr
  clear h hr
  go_enter Tryz.func78, Tryz.ntmps78
  go_wp2
  go_loopw [3, 4] (fun n i wr => ∃ j : Nat, j ≤ len ∧ i = .int .i64 j ∧ n = .int .i64 ((18 + recsSize (rs.take j) : Nat) : Int) ∧ Below w.heap.size w wr ∧ Hid (BBox wr w.heap.size k p e s t (.slice ad len cap))) (fun _ i _ => len - (intOf i).toNat)
  case atStart => exact ⟨0, Nat.zero_le _, rfl, rfl, b0, x0⟩
  case round =>
    clear b0 x0
    obtain ⟨j, hj, rfl, rfl, hb, hx⟩ := hrel
    have c5 := hx.out.c5
    have hz := recsSize_take_le rs HR.out j
    rw [HL.out] at hz
    by_cases hlt : j < len
    · obtain ⟨g, off, rfl, hg, hc⟩ := HA.out.cells (by omega)
      obtain ⟨q0, q1, q2⟩ := hc j hlt
      have r0 : wr.cell? ⟨g, off + j * 3, none⟩ = _ := (hb.cell (p := ⟨g, off + j * 3, none⟩) hg).trans q0
      have r1 : wr.cell? ⟨g, off + j * 3 + 1, none⟩ = _ := (hb.cell (p := ⟨g, off + j * 3 + 1, none⟩) hg).trans q1
      have HS : Hid _ := recsSize_snoc rs j (by rw [HL.out]; exact hlt)
      have ho := recOk_parts (HR.out _ (getD_mem rs j (by rw [HL.out]; exact hlt)))
      clear hc q0 q1 q2
      simp only at r0 r1
      generalize rs.getD j rec0 = r at *
      obtain ⟨o1, o2⟩ := ho
      go_wp2
      go_quiet (fail)
      go_wp2
      go_roundw
      case rel => exact ⟨j + 1, by omega, by go_num, val_int (by rw [HS.out]; omega), below_drewN' hb _, hx.out.drewN _⟩
      case measure => simp [intOf]; omega
    · obtain rfl : j = len := by omega
      have HV : Hid (rs.take j = rs) := List.take_of_length_le (by rw [HL.out]; omega)
      go_wp2
      go_ret
      exact ⟨by rw [show recsSize rs = recsSize (rs.take j) by rw [HV.out]]; rfl, hb⟩
end Go.Proofs.YtgihmkgbkffgbaaGreat
namespace Go.Proofs.YtgihmkgbkffgbaaGreat
open Go.RowKit

theorem checkN_arg (b : Bat) (h : argOk b = false) : checkN b = 1 := by unfold checkN; rw [h]; rfl
theorem checkN_many (b : Bat) (h : argOk b = true) (h2 : manyOk b = false) : checkN b = 6 := by unfold checkN; rw [h, h2]; rfl
/-- What may not be in a batch, in the order in which it is asked. -/
theorem argOk_no (k p e s : Int) (t : Bool) (rs : List Rec) (h : argOk ⟨k, p, e, s, t, rs⟩ = false) :
    (k ≠ 1 ∧ k ≠ 2 ∧ k ≠ 3) ∨ (p = -1 ∧ (k = 2 ∨ k = 3 ∨ (k = 1 ∧ (e ≠ 0 ∨ (e = 0 ∧ s ≠ 0) ∨ (e = 0 ∧ s = 0 ∧ t = true))))) ∨
      (p ≠ -1 ∧ (k = 1 ∨ k = 2 ∨ k = 3) ∧ (p < 0 ∨ (0 ≤ p ∧ 281474976710656 ≤ p) ∨ (0 ≤ p ∧ p < 281474976710656 ∧ e < 0) ∨ (0 ≤ p ∧ p < 281474976710656 ∧ 0 ≤ e ∧ 2147483648 ≤ e) ∨
        (0 ≤ p ∧ p < 281474976710656 ∧ 0 ≤ e ∧ e < 2147483648 ∧ k ≠ 1 ∧ (s ≠ 0 ∨ (s = 0 ∧ t = true))))) := by
  by_cases hk : k = 1 ∨ k = 2 ∨ k = 3
  · right
    by_cases hp : p = -1
    · left
      refine ⟨hp, ?_⟩
      rcases hk with rfl | rfl | rfl
      · right; right
        refine ⟨rfl, ?_⟩
        by_cases h1 : e = 0
        · by_cases h2 : s = 0
          · cases t with
            | true => right; right; exact ⟨h1, h2, rfl⟩
            | false => simp [argOk, Bat.marker, hp, h1, h2] at h
          · right; left; exact ⟨h1, h2⟩
        · left; exact h1
      · left; rfl
      · right; left; rfl
    · right
      refine ⟨hp, hk, ?_⟩
      by_cases h1 : 0 ≤ p
      · by_cases h2 : p < 281474976710656
        · by_cases h3 : 0 ≤ e
          · by_cases h4 : e < 2147483648
            · right; right; right; right
              refine ⟨h1, h2, h3, h4, ?_⟩
              by_cases h5 : k = 1
              · subst h5; simp [argOk, Bat.marker, hp, h1, h2, h3, h4] at h
              · refine ⟨h5, ?_⟩
                by_cases h6 : s = 0
                · right
                  refine ⟨h6, ?_⟩
                  cases t with
                  | true => rfl
                  | false => rcases hk with rfl | rfl | rfl <;> simp [argOk, Bat.marker, hp, h1, h2, h3, h4, h6] at h
                · left; exact h6
            · right; right; right; left; exact ⟨h1, h2, h3, by omega⟩
          · right; right; left; exact ⟨h1, h2, by omega⟩
        · right; left; exact ⟨h1, by omega⟩
      · left; omega
  · left; omega

set_option maxHeartbeats 4000000 in
theorem refCheck_arg (k p e s : Int) (t : Bool) (rs : List Rec) (ad : Option Addr) (len cap : Nat) (w : World) (h : argOk ⟨k, p, e, s, t, rs⟩ = false) :
    Calls Tryz.prog 42 #[.agg #[.int .i64 k, .int .i64 p, .int .i64 e, .int .i64 s, .bool t, .slice ad len cap]] w fun r w' => r = .returned (.int .i64 1) ∧ Below w.heap.size w w' := by
  have b0 : Below w.heap.size w (w.alloc (.cells #[.int .i64 k, .int .i64 p, .int .i64 e, .int .i64 s, .bool t, .slice ad len cap] 25)) := (Below.refl _ _).alloc (Nat.le_refl _) _
  rcases argOk_no k p e s t rs h with ⟨h1, h2, h3⟩ | ⟨rfl, h4⟩ | ⟨h1, h2, h4⟩
  · clear h
    have hm : (k == 2 || k == 3) = false := by simp [h2, h3]
    have hk : (k == 1) = false := by simp [h1]
    go_enter Tryz.func42, Tryz.ntmps42
    go_wp2
    go_ret
    exact ⟨rfl, b0⟩
  · clear h
    rcases h4 with rfl | rfl | ⟨rfl, h4 | ⟨rfl, h4⟩ | ⟨rfl, rfl, rfl⟩⟩
    all_goals
      go_enter Tryz.func42, Tryz.ntmps42
      go_wp2
      go_ret
      exact ⟨rfl, b0⟩
  · clear h
    have hp : (p == -1) = false := by simp [h1]
    rcases h4 with h4 | ⟨h4, h5⟩ | ⟨h4, h5, h6⟩ | ⟨h4, h5, h6, h7⟩ | ⟨h4, h5, h6, h7, h8, h9 | ⟨rfl, rfl⟩⟩
    all_goals rcases h2 with rfl | rfl | rfl
    all_goals first
      | exact absurd rfl h8
      | (go_enter Tryz.func42, Tryz.ntmps42
         go_wp2
         go_ret
         exact ⟨rfl, b0⟩)
end Go.Proofs.YtgihmkgbkffgbaaGreat
namespace Go.Proofs.YtgihmkgbkffgbaaGreat
open Go.RowKit

/-- What argOk says, as the walk asks it. -/
theorem argOk_yes (k p e s : Int) (t : Bool) (rs : List Rec) (h : argOk ⟨k, p, e, s, t, rs⟩ = true) :
    (k = 1 ∧ p = -1 ∧ e = 0 ∧ s = 0 ∧ t = false) ∨ (k = 1 ∧ 0 ≤ p ∧ p < 281474976710656 ∧ 0 ≤ e ∧ e < 2147483648) ∨ ((k = 2 ∨ k = 3) ∧ 0 ≤ p ∧ p < 281474976710656 ∧ 0 ≤ e ∧ e < 2147483648 ∧ s = 0 ∧ t = false) := by
  simp only [argOk, Bat.marker] at h
  by_cases hp : p = -1
  · subst hp
    left
    rcases (show k = 1 ∨ k = 2 ∨ k = 3 ∨ (k ≠ 1 ∧ k ≠ 2 ∧ k ≠ 3) by omega) with rfl | rfl | rfl | ⟨h1, h2, h3⟩
    · simp at h; exact ⟨rfl, rfl, h.1.1, h.1.2, h.2⟩
    · simp at h
    · simp at h
    · simp [h1, h2, h3] at h
  · right
    have hp' : (p == -1) = false := by simpa using hp
    rw [hp'] at h
    rcases (show k = 1 ∨ k = 2 ∨ k = 3 ∨ (k ≠ 1 ∧ k ≠ 2 ∧ k ≠ 3) by omega) with rfl | rfl | rfl | ⟨h1, h2, h3⟩
    · left; simp at h; exact ⟨rfl, h.1.1.1, h.1.1.2, h.1.2, h.2⟩
    · right; simp at h; exact ⟨Or.inl rfl, h.1.1.1.1, h.1.1.1.2, h.1.1.2, h.1.2, h.2.1, h.2.2⟩
    · right; simp at h; exact ⟨Or.inr rfl, h.1.1.1.1, h.1.1.1.2, h.1.1.2, h.1.2, h.2.1, h.2.2⟩
    · simp [h1, h2, h3] at h
set_option maxHeartbeats 2000000 in
theorem refCheck_many (k p e s : Int) (t : Bool) (rs : List Rec) (ad : Option Addr) (len cap : Nat) (w : World) (hl : rs.length = len) (h : argOk ⟨k, p, e, s, t, rs⟩ = true) (h2 : manyOk ⟨k, p, e, s, t, rs⟩ = false) :
    Calls Tryz.prog 42 #[.agg #[.int .i64 k, .int .i64 p, .int .i64 e, .int .i64 s, .bool t, .slice ad len cap]] w fun r w' => r = .returned (.int .i64 6) ∧ Below w.heap.size w w' := by
  have b0 : Below w.heap.size w (w.alloc (.cells #[.int .i64 k, .int .i64 p, .int .i64 e, .int .i64 s, .bool t, .slice ad len cap] 25)) := (Below.refl _ _).alloc (Nat.le_refl _) _
  have h3 := argOk_yes k p e s t rs h
  clear h
  simp only [manyOk, Bat.marker, hl] at h2
  rcases h3 with ⟨rfl, rfl, rfl, rfl, rfl⟩ | ⟨rfl, a1, a2, a3, a4⟩ | ⟨rfl | rfl, a1, a2, a3, a4, rfl, rfl⟩
  · have h5 : len = 0 ∨ 64 < len := by simp at h2; omega
    rcases h5 with rfl | h5
    all_goals
      go_enter Tryz.func42, Tryz.ntmps42
      go_wp2
      go_ret
      exact ⟨rfl, b0⟩
  · have h5 : len = 0 ∨ 64 < len := by simp at h2; omega
    have hp : (p == -1) = false := by simp; omega
    rcases h5 with rfl | h5
    all_goals
      go_enter Tryz.func42, Tryz.ntmps42
      go_wp2
      go_ret
      exact ⟨rfl, b0⟩
  all_goals
    have h5 : 0 < len := by simp at h2; omega
    have hp : (p == -1) = false := by simp; omega
    go_enter Tryz.func42, Tryz.ntmps42
    go_wp2
    go_ret
    exact ⟨rfl, b0⟩
end Go.Proofs.YtgihmkgbkffgbaaGreat
namespace Go.Proofs.YtgihmkgbkffgbaaGreat
open Go.RowKit

theorem checkN_rec {b : Bat} (h : argOk b = true) (h2 : b.recs.all recOk = false) : checkN b = 6 := by unfold checkN; rw [h, h2]; simp
theorem checkN_over {b : Bat} (h : argOk b = true) (hm : manyOk b = true) (h2 : b.recs.all recOk = true) (h3 : seqOk b = false) : checkN b = 53 := by unfold checkN; rw [h, hm, h2, h3]; rfl
theorem checkN_size {b : Bat} (h : argOk b = true) (hm : manyOk b = true) (h2 : b.recs.all recOk = true) (h3 : seqOk b = true) : checkN b = if sizeN b ≤ 65536 then 0 else 6 := by unfold checkN; rw [h, hm, h2, h3]; rfl
theorem bytes_none {rv : ByteArray} (h : rv.size = 0) : rv = ⟨#[]⟩ := by
  obtain ⟨d⟩ := rv
  congr 1
  exact Array.eq_empty_of_size_eq_zero h
theorem bytes_some {rv : ByteArray} (h : rv.size ≠ 0) : (rv.toList == (⟨#[]⟩ : ByteArray).toList) = false := by
  rw [← beq_toListBytes]
  cases hb : (rv == (⟨#[]⟩ : ByteArray)) with
  | false => rfl
  | true =>
    have e : rv = ⟨#[]⟩ := by
      obtain ⟨⟨x⟩⟩ := rv
      have hb' : ((⟨x⟩ : Array UInt8) == #[]) = true := hb
      simpa using hb'
    exact absurd (by rw [e]; rfl) h
theorem bytes_some2 {rv : ByteArray} (h : rv.size ≠ 0) : ¬ rv.toList = [] := by
  rw [ByteArray.toList_eq]
  intro e
  apply h
  obtain ⟨⟨x⟩⟩ := rv
  simp at e
  subst e
  rfl
/-- A Record beyond its limits: in which of three ways. -/
theorem rec_bad {r : Rec} (h : recOk r = false) : 1000 < r.key.size ∨ (r.key.size ≤ 1000 ∧ 4000 < r.val.size) ∨ (r.key.size ≤ 1000 ∧ r.val.size ≤ 4000 ∧ r.dead = true ∧ r.val.size ≠ 0) := by
  by_cases h1 : r.key.size ≤ 1000
  · by_cases h2 : r.val.size ≤ 4000
    · right; right
      simp only [recOk, h1, h2, decide_true, Bool.true_and, Bool.not_eq_false', Bool.and_eq_true, bne_iff_ne] at h
      exact ⟨h1, h2, h.1, h.2⟩
    · right; left; exact ⟨h1, by omega⟩
  · left; omega
theorem rec_good {r : Rec} (h : recOk r = true) : r.key.size ≤ 1000 ∧ r.val.size ≤ 4000 ∧ (r.dead = true → r.val.size = 0) := by
  obtain ⟨h1, h2⟩ := recOk_parts h
  refine ⟨h1, h2, fun hd => ?_⟩
  simp only [recOk, h1, h2, hd, decide_true, Bool.true_and, Bool.not_eq_true'] at h
  simpa using h
set_option maxRecDepth 100000 in
set_option maxHeartbeats 4000000 in
theorem refCheck_plain (p e s : Int) (t : Bool) (rs : List Rec) (ad : Option Addr) (len cap : Nat) (w : World) (hA : BArg w ⟨1, p, e, s, t, rs⟩ ad len cap) (h : argOk ⟨1, p, e, s, t, rs⟩ = true) (h1 : 1 ≤ len) (h2 : len ≤ 64) :
    Calls Tryz.prog 42 #[.agg #[.int .i64 1, .int .i64 p, .int .i64 e, .int .i64 s, .bool t, .slice ad len cap]] w fun r w' => r = .returned (.int .i64 (checkN ⟨1, p, e, s, t, rs⟩)) ∧ Below w.heap.size w w' := by
  have b0 : Below w.heap.size w (w.alloc (.cells #[.int .i64 1, .int .i64 p, .int .i64 e, .int .i64 s, .bool t, .slice ad len cap] 25)) := (Below.refl _ _).alloc (Nat.le_refl _) _
  have x0 : Hid (BBox (w.alloc (.cells #[.int .i64 1, .int .i64 p, .int .i64 e, .int .i64 s, .bool t, .slice ad len cap] 25)) w.heap.size 1 p e s t (.slice ad len cap)) := BBox.new w _ _ _ _ _ _
  have HA : Hid (BArg w ⟨1, p, e, s, t, rs⟩ ad len cap) := hA
  have HL : Hid (rs.length = len) := hA.len_eq
  have HG : Hid (argOk ⟨1, p, e, s, t, rs⟩ = true) := h
  have HM : Hid (manyOk ⟨1, p, e, s, t, rs⟩ = true) := by
    show _ = _
    simp only [manyOk, Bat.marker, HL.out]
    simp; omega
  have h3 := argOk_yes 1 p e s t rs h
  have hz : ((len : Int) == 0) = false := by simp; omega
  have hz2 : decide ((64 : Int) < len) = false := by simp; omega
  clear h hA
  have h4 : ((p == -1) = true ∧ (e != 0) = false ∧ (s != 0) = false ∧ t = false) ∨ ((p == -1) = false ∧ decide (p < 0) = false ∧ decide (281474976710656 ≤ p) = false ∧ decide (e < 0) = false ∧ decide (2147483648 ≤ e) = false) := by
    rcases h3 with ⟨-, rfl, rfl, rfl, rfl⟩ | ⟨-, a1, a2, a3, a4⟩ | ⟨h3 | h3, -⟩
    · left; exact ⟨rfl, rfl, rfl, rfl⟩
    · right; exact ⟨by simp; omega, by simp; omega, by simp; omega, by simp; omega, by simp; omega⟩
    · cases h3
    · cases h3
  clear h3
  have HT0 : Hid (t = false ∨ (p == -1) = false) := h4.elim (fun h => Or.inl h.2.2.2) (fun h => Or.inr h.1)
  rcases h4 with ⟨f1, f2, f3, rfl⟩ | ⟨f1, f2, f3, f4, f5⟩
  · go_enter Tryz.func42, Tryz.ntmps42
    go_wp2
    go_loopw [4] (fun i wr => ∃ j : Nat, j ≤ len ∧ i = .int .i64 j ∧ Hid ((rs.take j).all recOk = true) ∧ Below w.heap.size w wr ∧ Hid (BBox wr w.heap.size 1 p e s _ (.slice ad len cap))) (fun i _ => len - (intOf i).toNat)
    case atStart => exact ⟨0, Nat.zero_le _, rfl, (show Hid _ from rfl), b0, x0⟩
    case round =>
      clear b0 x0
      obtain ⟨j, hj, rfl, HT, hb, hx⟩ := hrel
      have c5 := hx.out.c5
      by_cases hlt : j < len
      · obtain ⟨g, off, rfl, hg, hc⟩ := HA.out.cells (by omega)
        obtain ⟨q0, q1, q2⟩ := hc j hlt
        have r0 : wr.cell? ⟨g, off + j * 3, none⟩ = _ := (hb.cell (p := ⟨g, off + j * 3, none⟩) hg).trans q0
        have r1 : wr.cell? ⟨g, off + j * 3 + 1, none⟩ = _ := (hb.cell (p := ⟨g, off + j * 3 + 1, none⟩) hg).trans q1
        have r2 : wr.cell? ⟨g, off + j * 3 + 2, none⟩ = _ := (hb.cell (p := ⟨g, off + j * 3 + 2, none⟩) hg).trans q2
        clear hc q0 q1 q2
        simp only at r0 r1 r2
        have HS : Hid ((rs.take (j + 1)).all recOk = ((rs.take j).all recOk && recOk (rs.getD j rec0))) := all_snoc rs j (by rw [HL.out]; exact hlt)
        have HN : Hid (recOk (rs.getD j rec0) = false → rs.all recOk = false) := all_not rs j (by rw [HL.out]; exact hlt)
        generalize rs.getD j rec0 = r at *
        have BA : Hid (Below w.heap.size w (wr.alloc (.cells #[.string r.key, .string r.val, .bool r.dead] 88))) := hb.alloc hb.size _
        have XA : Hid (BBox (wr.alloc (.cells #[.string r.key, .string r.val, .bool r.dead] 88)) w.heap.size 1 p e s _ _) := hx.out.later ((Below.refl _ _).alloc (Nat.le_refl _) _)
        cases hq : recOk r with
        | true =>
          have HT2 : Hid ((rs.take (j + 1)).all recOk = true) := by
            show _ = _
            rw [HS.out, HT.out, hq]; rfl
          obtain ⟨z1, z2, z3⟩ := rec_good hq
          obtain ⟨rk, rv, rd⟩ := r
          simp only at *
          have h7 : decide ((1000 : Int) < rk.size) = false := by simp; omega
          have h8 : decide ((4000 : Int) < rv.size) = false := by simp; omega
          cases rd with
          | true =>
            have e := bytes_none (z3 rfl)
            subst e
            clear z1 z2 z3 hq HS HN
            go_wp2
            go_roundw
            case rel => exact ⟨j + 1, by omega, by go_num, HT2, BA.out, XA⟩
            case measure => simp [intOf]; omega
          | false =>
            clear z1 z2 z3 hq HS HN
            go_wp2
            go_roundw
            case rel => exact ⟨j + 1, by omega, by go_num, HT2, BA.out, XA⟩
            case measure => simp [intOf]; omega
        | false =>
          have HK := checkN_rec HG.out (HN.out hq)
          have z := rec_bad hq
          clear HS HN hq
          obtain ⟨rk, rv, rd⟩ := r
          simp only at *
          rcases z with z1 | ⟨z1, z2⟩ | ⟨z1, z2, rfl, z4⟩
          · have h7 : decide ((1000 : Int) < rk.size) = true := by simp; omega
            go_wp2
            go_ret
            exact ⟨by rw [HK]; rfl, BA.out⟩
          · have h7 : decide ((1000 : Int) < rk.size) = false := by simp; omega
            have h8 : decide ((4000 : Int) < rv.size) = true := by simp; omega
            go_wp2
            go_ret
            exact ⟨by rw [HK]; rfl, BA.out⟩
          · have h7 : decide ((1000 : Int) < rk.size) = false := by simp; omega
            have h8 : decide ((4000 : Int) < rv.size) = false := by simp; omega
            have h9 := bytes_some z4
            have h10 := bytes_some2 z4
            have h11 : (rv.toList == []) = false := by simpa using h10
            go_wp2
            go_ret
            exact ⟨by rw [HK]; rfl, BA.out⟩
      · obtain rfl : j = len := by omega
        have HV : Hid (rs.all recOk = true) := by
          have h := HT.out
          rw [List.take_of_length_le (by rw [HL.out]; omega)] at h
          exact h
        clear HT
        have c0 := hx.out.c0
        have c1 := hx.out.c1
        have c2 := hx.out.c2
        have c3 := hx.out.c3
        have c4 := hx.out.c4
        have iw : IntKind.i64.wrap (2147483648 - (j : Int)) = 2147483648 - (j : Int) := by
          simp [IntKind.wrap, IntKind.bits, IntKind.signed]; omega
        have Y0 : Hid (BBox wr.drew w.heap.size 1 p e s _ (.slice ad j cap)) := hx.out
        have BD : Hid (Below wr.heap.size wr wr.drew) := (Below.refl _ _).drew
        by_cases hs : s < 0
        · have HK := checkN_over HG.out HM.out HV.out (by simp only [seqOk, lenN, Bat.marker, HL.out]; simp; omega)
          go_wp2_with fail
          go_quiet (fail)
          go_wp2
          go_ret
          exact ⟨by rw [HK]; rfl, below_drewN' hb _⟩
        · have hs0 : decide (s < 0) = false := decide_eq_false hs
          by_cases hs2 : 2147483648 - (j : Int) < s
          · have HK := checkN_over HG.out HM.out HV.out (by simp only [seqOk, lenN, Bat.marker, HL.out]; simp; omega)
            have hs3 : decide (2147483648 - (j : Int) < s) = true := decide_eq_true hs2
            go_wp2_with fail
            go_region_held3 (fun w' => w'.cell? ⟨w.heap.size, 0, none⟩ = some (.int .i64 1) ∧ w'.cell? ⟨w.heap.size, 1, none⟩ = some (.int .i64 p) ∧ w'.cell? ⟨w.heap.size, 2, none⟩ = some (.int .i64 e) ∧ w'.cell? ⟨w.heap.size, 3, none⟩ = some (.int .i64 s) ∧ w'.cell? ⟨w.heap.size, 4, none⟩ = some (.bool false) ∧ w'.cell? ⟨w.heap.size, 5, none⟩ = some (.slice ad j cap)) (first | exact ⟨c0, c1, c2, c3, c4, c5⟩ | exact hS)
              (first | (go_at_call 77; refine (refLen_any 1 p e s _ ad j cap _).mono ?_; rintro r w1 ⟨rfl, b1⟩; have z := Y0.out.later b1; have hS := And.intro z.c0 (And.intro z.c1 (And.intro z.c2 (And.intro z.c3 (And.intro z.c4 z.c5)))); clear z))
            go_wp2
            go_ret
            exact ⟨by rw [HK]; rfl, hb.trans ((BD.out.trans (b1.mono BD.out.size)).mono hb.size)⟩
          · have HK := checkN_size HG.out HM.out HV.out (by simp only [seqOk, lenN, Bat.marker, HL.out]; simp; omega)
            have hs3 : decide (2147483648 - (j : Int) < s) = false := decide_eq_false hs2
            have HN : Hid (sizeN ⟨1, p, e, s, false, rs⟩ = 18 + recsSize rs) := rfl
            go_wp2_with fail
            go_region_held3 (fun w' => w'.cell? ⟨w.heap.size, 0, none⟩ = some (.int .i64 1) ∧ w'.cell? ⟨w.heap.size, 1, none⟩ = some (.int .i64 p) ∧ w'.cell? ⟨w.heap.size, 2, none⟩ = some (.int .i64 e) ∧ w'.cell? ⟨w.heap.size, 3, none⟩ = some (.int .i64 s) ∧ w'.cell? ⟨w.heap.size, 4, none⟩ = some (.bool false) ∧ w'.cell? ⟨w.heap.size, 5, none⟩ = some (.slice ad j cap)) (first | exact ⟨c0, c1, c2, c3, c4, c5⟩ | exact hS)
              (first | (go_at_call 77; refine (refLen_any 1 p e s _ ad j cap _).mono ?_; rintro r w1 ⟨rfl, b1⟩; have z := Y0.out.later b1; have hS := And.intro z.c0 (And.intro z.c1 (And.intro z.c2 (And.intro z.c3 (And.intro z.c4 z.c5)))); clear z))
            have b01 : Below w.heap.size w w1 := hb.trans ((BD.out.trans (b1.mono BD.out.size)).mono hb.size)
            obtain ⟨d0, d1, d2, d3, d4, d5⟩ := hS
            rw [HN.out] at HK
            have HSz := refSize_any 1 p e s _ rs ad j cap w1 (HA.out.later b01) h2 (List.all_eq_true.1 HV.out)
            generalize 18 + recsSize rs = n at *
            by_cases hn : n ≤ 65536
            · rw [if_pos hn] at HK
              have hn2 : decide ((65536 : Int) < n) = false := by simp; omega
              go_wp2_with (go_at_call 78; refine HSz.mono ?_; rintro r w2 ⟨rfl, b2⟩)
              go_ret
              exact ⟨by rw [HK]; rfl, b01.trans (b2.mono b01.size)⟩
            · rw [if_neg hn] at HK
              have hn2 : decide ((65536 : Int) < n) = true := by simp; omega
              go_wp2_with (go_at_call 78; refine HSz.mono ?_; rintro r w2 ⟨rfl, b2⟩)
              go_ret
              exact ⟨by rw [HK]; rfl, b01.trans (b2.mono b01.size)⟩
  · go_enter Tryz.func42, Tryz.ntmps42
    go_wp2
    go_loopw [4] (fun i wr => ∃ j : Nat, j ≤ len ∧ i = .int .i64 j ∧ Hid ((rs.take j).all recOk = true) ∧ Below w.heap.size w wr ∧ Hid (BBox wr w.heap.size 1 p e s _ (.slice ad len cap))) (fun i _ => len - (intOf i).toNat)
    case atStart => exact ⟨0, Nat.zero_le _, rfl, (show Hid _ from rfl), b0, x0⟩
    case round =>
      clear b0 x0
      obtain ⟨j, hj, rfl, HT, hb, hx⟩ := hrel
      have c5 := hx.out.c5
      by_cases hlt : j < len
      · obtain ⟨g, off, rfl, hg, hc⟩ := HA.out.cells (by omega)
        obtain ⟨q0, q1, q2⟩ := hc j hlt
        have r0 : wr.cell? ⟨g, off + j * 3, none⟩ = _ := (hb.cell (p := ⟨g, off + j * 3, none⟩) hg).trans q0
        have r1 : wr.cell? ⟨g, off + j * 3 + 1, none⟩ = _ := (hb.cell (p := ⟨g, off + j * 3 + 1, none⟩) hg).trans q1
        have r2 : wr.cell? ⟨g, off + j * 3 + 2, none⟩ = _ := (hb.cell (p := ⟨g, off + j * 3 + 2, none⟩) hg).trans q2
        clear hc q0 q1 q2
        simp only at r0 r1 r2
        have HS : Hid ((rs.take (j + 1)).all recOk = ((rs.take j).all recOk && recOk (rs.getD j rec0))) := all_snoc rs j (by rw [HL.out]; exact hlt)
        have HN : Hid (recOk (rs.getD j rec0) = false → rs.all recOk = false) := all_not rs j (by rw [HL.out]; exact hlt)
        generalize rs.getD j rec0 = r at *
        have BA : Hid (Below w.heap.size w (wr.alloc (.cells #[.string r.key, .string r.val, .bool r.dead] 88))) := hb.alloc hb.size _
        have XA : Hid (BBox (wr.alloc (.cells #[.string r.key, .string r.val, .bool r.dead] 88)) w.heap.size 1 p e s _ _) := hx.out.later ((Below.refl _ _).alloc (Nat.le_refl _) _)
        cases hq : recOk r with
        | true =>
          have HT2 : Hid ((rs.take (j + 1)).all recOk = true) := by
            show _ = _
            rw [HS.out, HT.out, hq]; rfl
          obtain ⟨z1, z2, z3⟩ := rec_good hq
          obtain ⟨rk, rv, rd⟩ := r
          simp only at *
          have h7 : decide ((1000 : Int) < rk.size) = false := by simp; omega
          have h8 : decide ((4000 : Int) < rv.size) = false := by simp; omega
          cases rd with
          | true =>
            have e := bytes_none (z3 rfl)
            subst e
            clear z1 z2 z3 hq HS HN
            go_wp2
            go_roundw
            case rel => exact ⟨j + 1, by omega, by go_num, HT2, BA.out, XA⟩
            case measure => simp [intOf]; omega
          | false =>
            clear z1 z2 z3 hq HS HN
            go_wp2
            go_roundw
            case rel => exact ⟨j + 1, by omega, by go_num, HT2, BA.out, XA⟩
            case measure => simp [intOf]; omega
        | false =>
          have HK := checkN_rec HG.out (HN.out hq)
          have z := rec_bad hq
          clear HS HN hq
          obtain ⟨rk, rv, rd⟩ := r
          simp only at *
          rcases z with z1 | ⟨z1, z2⟩ | ⟨z1, z2, rfl, z4⟩
          · have h7 : decide ((1000 : Int) < rk.size) = true := by simp; omega
            go_wp2
            go_ret
            exact ⟨by rw [HK]; rfl, BA.out⟩
          · have h7 : decide ((1000 : Int) < rk.size) = false := by simp; omega
            have h8 : decide ((4000 : Int) < rv.size) = true := by simp; omega
            go_wp2
            go_ret
            exact ⟨by rw [HK]; rfl, BA.out⟩
          · have h7 : decide ((1000 : Int) < rk.size) = false := by simp; omega
            have h8 : decide ((4000 : Int) < rv.size) = false := by simp; omega
            have h9 := bytes_some z4
            have h10 := bytes_some2 z4
            have h11 : (rv.toList == []) = false := by simpa using h10
            go_wp2
            go_ret
            exact ⟨by rw [HK]; rfl, BA.out⟩
      · obtain rfl : j = len := by omega
        have HV : Hid (rs.all recOk = true) := by
          have h := HT.out
          rw [List.take_of_length_le (by rw [HL.out]; omega)] at h
          exact h
        clear HT
        have c0 := hx.out.c0
        have c1 := hx.out.c1
        have c2 := hx.out.c2
        have c3 := hx.out.c3
        have c4 := hx.out.c4
        have iw : IntKind.i64.wrap (2147483648 - (j : Int)) = 2147483648 - (j : Int) := by
          simp [IntKind.wrap, IntKind.bits, IntKind.signed]; omega
        have Y0 : Hid (BBox wr.drew w.heap.size 1 p e s _ (.slice ad j cap)) := hx.out
        have BD : Hid (Below wr.heap.size wr wr.drew) := (Below.refl _ _).drew
        by_cases hs : s < 0
        · have HK := checkN_over HG.out HM.out HV.out (by simp only [seqOk, lenN, Bat.marker, HL.out]; simp; omega)
          go_wp2_with fail
          go_quiet (fail)
          go_wp2
          go_ret
          exact ⟨by rw [HK]; rfl, below_drewN' hb _⟩
        · have hs0 : decide (s < 0) = false := decide_eq_false hs
          by_cases hs2 : 2147483648 - (j : Int) < s
          · have HK := checkN_over HG.out HM.out HV.out (by simp only [seqOk, lenN, Bat.marker, HL.out]; simp; omega)
            have hs3 : decide (2147483648 - (j : Int) < s) = true := decide_eq_true hs2
            go_wp2_with fail
            go_region_held3 (fun w' => w'.cell? ⟨w.heap.size, 0, none⟩ = some (.int .i64 1) ∧ w'.cell? ⟨w.heap.size, 1, none⟩ = some (.int .i64 p) ∧ w'.cell? ⟨w.heap.size, 2, none⟩ = some (.int .i64 e) ∧ w'.cell? ⟨w.heap.size, 3, none⟩ = some (.int .i64 s) ∧ w'.cell? ⟨w.heap.size, 4, none⟩ = some (.bool t) ∧ w'.cell? ⟨w.heap.size, 5, none⟩ = some (.slice ad j cap)) (first | exact ⟨c0, c1, c2, c3, c4, c5⟩ | exact hS)
              (first | (go_at_call 77; refine (refLen_any 1 p e s _ ad j cap _).mono ?_; rintro r w1 ⟨rfl, b1⟩; have z := Y0.out.later b1; have hS := And.intro z.c0 (And.intro z.c1 (And.intro z.c2 (And.intro z.c3 (And.intro z.c4 z.c5)))); clear z))
            go_wp2
            go_ret
            exact ⟨by rw [HK]; rfl, hb.trans ((BD.out.trans (b1.mono BD.out.size)).mono hb.size)⟩
          · have HK := checkN_size HG.out HM.out HV.out (by simp only [seqOk, lenN, Bat.marker, HL.out]; simp; omega)
            have hs3 : decide (2147483648 - (j : Int) < s) = false := decide_eq_false hs2
            have HN : Hid (sizeN ⟨1, p, e, s, t, rs⟩ = 18 + recsSize rs) := rfl
            go_wp2_with fail
            go_region_held3 (fun w' => w'.cell? ⟨w.heap.size, 0, none⟩ = some (.int .i64 1) ∧ w'.cell? ⟨w.heap.size, 1, none⟩ = some (.int .i64 p) ∧ w'.cell? ⟨w.heap.size, 2, none⟩ = some (.int .i64 e) ∧ w'.cell? ⟨w.heap.size, 3, none⟩ = some (.int .i64 s) ∧ w'.cell? ⟨w.heap.size, 4, none⟩ = some (.bool t) ∧ w'.cell? ⟨w.heap.size, 5, none⟩ = some (.slice ad j cap)) (first | exact ⟨c0, c1, c2, c3, c4, c5⟩ | exact hS)
              (first | (go_at_call 77; refine (refLen_any 1 p e s _ ad j cap _).mono ?_; rintro r w1 ⟨rfl, b1⟩; have z := Y0.out.later b1; have hS := And.intro z.c0 (And.intro z.c1 (And.intro z.c2 (And.intro z.c3 (And.intro z.c4 z.c5)))); clear z))
            have b01 : Below w.heap.size w w1 := hb.trans ((BD.out.trans (b1.mono BD.out.size)).mono hb.size)
            obtain ⟨d0, d1, d2, d3, d4, d5⟩ := hS
            rw [HN.out] at HK
            have HSz := refSize_any 1 p e s _ rs ad j cap w1 (HA.out.later b01) h2 (List.all_eq_true.1 HV.out)
            generalize 18 + recsSize rs = n at *
            by_cases hn : n ≤ 65536
            · rw [if_pos hn] at HK
              have hn2 : decide ((65536 : Int) < n) = false := by simp; omega
              go_wp2_with (go_at_call 78; refine HSz.mono ?_; rintro r w2 ⟨rfl, b2⟩)
              go_ret
              exact ⟨by rw [HK]; rfl, b01.trans (b2.mono b01.size)⟩
            · rw [if_neg hn] at HK
              have hn2 : decide ((65536 : Int) < n) = true := by simp; omega
              go_wp2_with (go_at_call 78; refine HSz.mono ?_; rintro r w2 ⟨rfl, b2⟩)
              go_ret
              exact ⟨by rw [HK]; rfl, b01.trans (b2.mono b01.size)⟩
end Go.Proofs.YtgihmkgbkffgbaaGreat
namespace Go.Proofs.YtgihmkgbkffgbaaGreat
open Go.RowKit

set_option maxRecDepth 100000 in
set_option maxHeartbeats 4000000 in
theorem refCheck_marker (k p e : Int) (ad : Option Addr) (cap : Nat) (w : World) (hA : BArg w ⟨k, p, e, 0, false, []⟩ ad 0 cap) (hk : k = 2 ∨ k = 3) (a1 : 0 ≤ p) (a2 : p < 281474976710656) (a3 : 0 ≤ e) (a4 : e < 2147483648) :
    Calls Tryz.prog 42 #[.agg #[.int .i64 k, .int .i64 p, .int .i64 e, .int .i64 0, .bool false, .slice ad 0 cap]] w fun r w' => r = .returned (.int .i64 0) ∧ Below w.heap.size w w' := by
  have b0 : Below w.heap.size w (w.alloc (.cells #[.int .i64 k, .int .i64 p, .int .i64 e, .int .i64 0, .bool false, .slice ad 0 cap] 25)) := (Below.refl _ _).alloc (Nat.le_refl _) _
  have x0 : Hid (BBox (w.alloc (.cells #[.int .i64 k, .int .i64 p, .int .i64 e, .int .i64 0, .bool false, .slice ad 0 cap] 25)) w.heap.size k p e 0 false (.slice ad 0 cap)) := BBox.new w _ _ _ _ _ _
  have HA : Hid (BArg w ⟨k, p, e, 0, false, []⟩ ad 0 cap) := hA
  clear hA
  have hp : (p == -1) = false := by simp; omega
  have f2 : decide (p < 0) = false := by simp; omega
  have f3 : decide (281474976710656 ≤ p) = false := by simp; omega
  have f4 : decide (e < 0) = false := by simp; omega
  have f5 : decide (2147483648 ≤ e) = false := by simp; omega
  rcases hk with rfl | rfl
  · go_enter Tryz.func42, Tryz.ntmps42
    go_wp2
    refine wp_loop_rounds 1 ?_
    rw [rounds_succ]
    have c0 := x0.out.c0
    have c1 := x0.out.c1
    have c2 := x0.out.c2
    have c3 := x0.out.c3
    have c4 := x0.out.c4
    have c5 := x0.out.c5
    have BD : Hid (Below w.heap.size w (w.alloc (.cells #[.int .i64 _, .int .i64 p, .int .i64 e, .int .i64 0, .bool false, .slice ad 0 cap] 25)).drew) := b0.drew
    have Y0 : Hid (BBox (w.alloc (.cells #[.int .i64 _, .int .i64 p, .int .i64 e, .int .i64 0, .bool false, .slice ad 0 cap] 25)).drew w.heap.size _ p e 0 false (.slice ad 0 cap)) := x0.out
    go_wp2_with fail
    go_region_held3 (fun w' => w'.cell? ⟨w.heap.size, 0, none⟩ = some (.int .i64 2) ∧ w'.cell? ⟨w.heap.size, 1, none⟩ = some (.int .i64 p) ∧ w'.cell? ⟨w.heap.size, 2, none⟩ = some (.int .i64 e) ∧ w'.cell? ⟨w.heap.size, 3, none⟩ = some (.int .i64 0) ∧ w'.cell? ⟨w.heap.size, 4, none⟩ = some (.bool false) ∧ w'.cell? ⟨w.heap.size, 5, none⟩ = some (.slice ad 0 cap)) (first | exact ⟨c0, c1, c2, c3, c4, c5⟩ | exact hS)
      (first | (go_at_call 77; refine (refLen_any _ p e 0 false ad 0 cap _).mono ?_; rintro r w1 ⟨rfl, b1⟩; have z := Y0.out.later b1; have hS := And.intro z.c0 (And.intro z.c1 (And.intro z.c2 (And.intro z.c3 (And.intro z.c4 z.c5)))); clear z))
    have b01 : Below w.heap.size w w1 := BD.out.trans (b1.mono BD.out.size)
    obtain ⟨d0, d1, d2, d3, d4, d5⟩ := hS
    have HSz := refSize_any _ p e 0 false [] ad 0 cap w1 (HA.out.later b01) (by omega) (fun r hr => (by cases hr))
    rw [show 18 + recsSize [] = 18 from rfl] at HSz
    go_wp2_with (go_at_call 78; refine HSz.mono ?_; rintro r w2 ⟨rfl, b2⟩)
    go_ret
    exact ⟨rfl, b01.trans (b2.mono b01.size)⟩
  · go_enter Tryz.func42, Tryz.ntmps42
    go_wp2
    refine wp_loop_rounds 1 ?_
    rw [rounds_succ]
    have c0 := x0.out.c0
    have c1 := x0.out.c1
    have c2 := x0.out.c2
    have c3 := x0.out.c3
    have c4 := x0.out.c4
    have c5 := x0.out.c5
    have BD : Hid (Below w.heap.size w (w.alloc (.cells #[.int .i64 _, .int .i64 p, .int .i64 e, .int .i64 0, .bool false, .slice ad 0 cap] 25)).drew) := b0.drew
    have Y0 : Hid (BBox (w.alloc (.cells #[.int .i64 _, .int .i64 p, .int .i64 e, .int .i64 0, .bool false, .slice ad 0 cap] 25)).drew w.heap.size _ p e 0 false (.slice ad 0 cap)) := x0.out
    go_wp2_with fail
    go_region_held3 (fun w' => w'.cell? ⟨w.heap.size, 0, none⟩ = some (.int .i64 3) ∧ w'.cell? ⟨w.heap.size, 1, none⟩ = some (.int .i64 p) ∧ w'.cell? ⟨w.heap.size, 2, none⟩ = some (.int .i64 e) ∧ w'.cell? ⟨w.heap.size, 3, none⟩ = some (.int .i64 0) ∧ w'.cell? ⟨w.heap.size, 4, none⟩ = some (.bool false) ∧ w'.cell? ⟨w.heap.size, 5, none⟩ = some (.slice ad 0 cap)) (first | exact ⟨c0, c1, c2, c3, c4, c5⟩ | exact hS)
      (first | (go_at_call 77; refine (refLen_any _ p e 0 false ad 0 cap _).mono ?_; rintro r w1 ⟨rfl, b1⟩; have z := Y0.out.later b1; have hS := And.intro z.c0 (And.intro z.c1 (And.intro z.c2 (And.intro z.c3 (And.intro z.c4 z.c5)))); clear z))
    have b01 : Below w.heap.size w w1 := BD.out.trans (b1.mono BD.out.size)
    obtain ⟨d0, d1, d2, d3, d4, d5⟩ := hS
    have HSz := refSize_any _ p e 0 false [] ad 0 cap w1 (HA.out.later b01) (by omega) (fun r hr => (by cases hr))
    rw [show 18 + recsSize [] = 18 from rfl] at HSz
    go_wp2_with (go_at_call 78; refine HSz.mono ?_; rintro r w2 ⟨rfl, b2⟩)
    go_ret
    exact ⟨rfl, b01.trans (b2.mono b01.size)⟩
theorem refCheck_any (k p e s : Int) (t : Bool) (rs : List Rec) (ad : Option Addr) (len cap : Nat) (w : World) (h : BArg w ⟨k, p, e, s, t, rs⟩ ad len cap) :
    Calls Tryz.prog 42 #[.agg #[.int .i64 k, .int .i64 p, .int .i64 e, .int .i64 s, .bool t, .slice ad len cap]] w fun r w' => r = .returned (.int .i64 (checkN ⟨k, p, e, s, t, rs⟩)) ∧ Below w.heap.size w w' := by
  have hl : rs.length = len := h.len_eq
  cases ha : argOk ⟨k, p, e, s, t, rs⟩ with
  | false =>
    rw [checkN_arg _ ha]
    exact refCheck_arg k p e s t rs ad len cap w ha
  | true =>
    cases hm : manyOk ⟨k, p, e, s, t, rs⟩ with
    | false =>
      rw [checkN_many _ ha hm]
      exact refCheck_many k p e s t rs ad len cap w hl ha hm
    | true =>
      have hm2 := hm
      simp only [manyOk, Bat.marker, hl] at hm2
      rcases argOk_yes k p e s t rs ha with ⟨rfl, -⟩ | ⟨rfl, -⟩ | ⟨hk, a1, a2, a3, a4, rfl, rfl⟩
      · exact refCheck_plain p e s t rs ad len cap w h ha (by simp at hm2; omega) (by simp at hm2; omega)
      · exact refCheck_plain p e s t rs ad len cap w h ha (by simp at hm2; omega) (by simp at hm2; omega)
      · have h0 : len = 0 := by rcases hk with rfl | rfl <;> (simp at hm2; exact hm2)
        subst h0
        obtain rfl : rs = [] := List.eq_nil_of_length_eq_zero hl
        have hmk : (Bat.marker ⟨k, p, e, 0, false, []⟩) = true := by rcases hk with rfl | rfl <;> rfl
        rw [checkN_size ha hm rfl (by simp only [seqOk, lenN, hmk]; rfl), if_pos (by show (18 + 0 : Nat) ≤ 65536; omega)]
        exact refCheck_marker k p e ad cap w h hk a1 a2 a3 a4
end Go.Proofs.YtgihmkgbkffgbaaGreat
