/- The questions that package batch asks of a batch, and what the document says: the same. What the Go function batch.Check answers: what the document says (checkN). -/
import Derived.Test.YtfgamkcnnijloaaGreatPZRec
import Derived.Test.YtfgamkcnnijloaaGreatPZAsked
import Derived.Laws.EntriesVeiled
namespace Go.Proofs.YtfgamkcnnijloaaGreat

/-- What the question number j answers of b. -/
def ansN (b : Bat) (j : Nat) : Bool :=
  match j with
  | 0 => b.kind != 1 && !b.marker
  | 1 => if b.prod == -1 then b.marker else decide (b.prod < 0) || decide (281474976710656 ≤ b.prod)
  | 2 => if b.prod == -1 then b.epoch != 0 else decide (b.epoch < 0) || decide (2147483647 < b.epoch)
  | 3 => b.txn && (b.marker || b.prod == -1)
  | 4 => b.seq != 0 && (b.marker || b.prod == -1)
  | 5 => if b.marker then decide ((0 : Int) < b.recs.length) else decide ((b.recs.length : Int) < 1) || decide ((64 : Int) < b.recs.length)
  | 6 => !b.recs.all recOk
  | 7 => decide (b.seq < 0) || decide (2147483648 - lenN b < b.seq)
  | _ => decide ((65536 : Int) < (sizeN b : Int))
/-- Its error. -/
def errN (j : Nat) : Int := if j < 5 then 1 else if j = 7 then 53 else 6
theorem ans_arg (b : Bat) : argOk b = (!ansN b 0 && !ansN b 1 && !ansN b 2 && !ansN b 3 && !ansN b 4) := by
  obtain ⟨k, p, e, s, t, rs⟩ := b
  simp only [argOk, ansN, Bat.marker]
  generalize hm : (k == 2 || k == 3) = m
  by_cases hp : p = -1
  · subst hp
    cases t <;> cases m <;> cases h1 : (k == 1) <;> cases h2 : (e == 0) <;> cases h3 : (s == 0) <;> simp_all
  · have hp' : (p == -1) = false := by simpa using hp
    rw [hp']
    by_cases h0 : p < 0
    · have : ¬ (0 ≤ p) := by omega
      simp [h0, this]
    · by_cases h1 : 281474976710656 ≤ p
      · have : ¬ (p < 281474976710656) := by omega
        simp [h1, this]
      · by_cases h2 : e < 0
        · have : ¬ (0 ≤ e) := by omega
          simp [h2, this]
        · by_cases h3 : 2147483647 < e
          · have : ¬ (e < 2147483648) := by omega
            simp [h3, this]
          · have a0 : 0 ≤ p := by omega
            have a1 : p < 281474976710656 := by omega
            have a2 : 0 ≤ e := by omega
            have a3 : e < 2147483648 := by omega
            cases t <;> cases m <;> cases h1 : (k == 1) <;> cases h3 : (s == 0) <;> simp_all
theorem ans_many (b : Bat) : manyOk b = !ansN b 5 := by
  simp only [manyOk, ansN]
  generalize b.recs.length = n
  cases b.marker
  · simp only [Bool.false_eq_true, if_false]
    by_cases h1 : n = 0
    · subst h1; rfl
    · by_cases h2 : n ≤ 64
      · have h3 : ¬ ((n : Int) < 1) := by omega
        have h4 : ¬ ((64 : Int) < n) := by omega
        simp [h1, h2, h3, h4]
      · have h4 : (64 : Int) < n := by omega
        simp [h2, h4]
  · simp only [if_true]
    cases n with
    | zero => rfl
    | succ n =>
      have h3 : (0 : Int) < ((n + 1 : Nat) : Int) := by omega
      simp only [decide_eq_true h3]; rfl
theorem ans_seq (b : Bat) : seqOk b = !ansN b 7 := by
  simp only [seqOk, ansN]
  rw [Bool.eq_iff_iff]; simp
theorem ans_all (b : Bat) : b.recs.all recOk = !ansN b 6 := by simp [ansN]
theorem ans_size (b : Bat) : decide (sizeN b ≤ 65536) = !ansN b 8 := by
  simp only [ansN]
  rw [Bool.eq_iff_iff]; simp; omega
/-- The first question that is answered yes has the error. -/
theorem check_hit (b : Bat) (j : Nat) (hj : j < 9) (h0 : ∀ i, i < j → ansN b i = false) (h : ansN b j = true) : checkN b = errN j := by
  have h1 := ans_arg b
  have h2 := ans_many b
  have h3 := ans_seq b
  have h4 := ans_all b
  have h5 := ans_size b
  unfold checkN
  rcases (show j = 0 ∨ j = 1 ∨ j = 2 ∨ j = 3 ∨ j = 4 ∨ j = 5 ∨ j = 6 ∨ j = 7 ∨ j = 8 by omega) with rfl | rfl | rfl | rfl | rfl | rfl | rfl | rfl | rfl
  · simp [h1, h, errN]
  · simp [h1, h, errN]
  · simp [h1, h, errN]
  · simp [h1, h, errN]
  · simp [h1, h, errN]
  · simp [h1, h2, h, h0, errN]
  · simp [h1, h2, h4, h, h0, errN]
  · simp [h1, h2, h3, h4, h, h0, errN]
  · rw [h] at h5
    have h6 : ¬ sizeN b ≤ 65536 := by simpa using h5
    simp [h1, h2, h3, h4, h6, h0, errN]
theorem check_none (b : Bat) (h0 : ∀ i, i < 9 → ansN b i = false) : checkN b = 0 := by
  have h1 := ans_arg b
  have h2 := ans_many b
  have h3 := ans_seq b
  have h4 := ans_all b
  have h5 := ans_size b
  rw [h0 8 (by omega)] at h5
  have h6 : sizeN b ≤ 65536 := by simpa using h5
  unfold checkN
  simp [h1, h2, h3, h4, h6, h0]
end Go.Proofs.YtfgamkcnnijloaaGreat
namespace Go.Proofs.YtfgamkcnnijloaaGreat
open Go.RowKit

theorem ans_few {b : Bat} (h : ansN b 5 = false) : b.recs.length ≤ 64 := by
  have h2 := ans_many b
  rw [h] at h2
  unfold manyOk at h2
  cases hm : b.marker with
  | true => rw [hm] at h2; simp at h2; rw [h2]; simp
  | false => rw [hm] at h2; simp at h2; exact h2.2
theorem ans_ok {b : Bat} (h : ansN b 6 = false) : ∀ r ∈ b.recs, recOk r = true := by
  have h2 := ans_all b
  rw [h] at h2
  exact List.all_eq_true.1 h2
theorem asks_at0 (B M N : Nat) (w : World) : (Instr.index 127 (.agg (asks B M N)) (.int .i64 0)).run Tryz.prog w = .ok (.agg #[.int .i64 1, (.func (.func 99) #[] #[.pointer (some ⟨B, 0, none⟩), .pointer (some ⟨M, 0, none⟩)])]) w := by kernel_rfl
theorem asks_at1 (B M N : Nat) (w : World) : (Instr.index 127 (.agg (asks B M N)) (.int .i64 1)).run Tryz.prog w = .ok (.agg #[.int .i64 1, (.func (.func 100) #[] #[.pointer (some ⟨N, 0, none⟩), .pointer (some ⟨M, 0, none⟩), .pointer (some ⟨B, 0, none⟩)])]) w := by kernel_rfl
theorem asks_at2 (B M N : Nat) (w : World) : (Instr.index 127 (.agg (asks B M N)) (.int .i64 2)).run Tryz.prog w = .ok (.agg #[.int .i64 1, (.func (.func 101) #[] #[.pointer (some ⟨N, 0, none⟩), .pointer (some ⟨B, 0, none⟩)])]) w := by kernel_rfl
theorem asks_at3 (B M N : Nat) (w : World) : (Instr.index 127 (.agg (asks B M N)) (.int .i64 3)).run Tryz.prog w = .ok (.agg #[.int .i64 1, (.func (.func 102) #[] #[.pointer (some ⟨B, 0, none⟩), .pointer (some ⟨M, 0, none⟩), .pointer (some ⟨N, 0, none⟩)])]) w := by kernel_rfl
theorem asks_at4 (B M N : Nat) (w : World) : (Instr.index 127 (.agg (asks B M N)) (.int .i64 4)).run Tryz.prog w = .ok (.agg #[.int .i64 1, (.func (.func 103) #[] #[.pointer (some ⟨B, 0, none⟩), .pointer (some ⟨M, 0, none⟩), .pointer (some ⟨N, 0, none⟩)])]) w := by kernel_rfl
theorem asks_at5 (B M N : Nat) (w : World) : (Instr.index 127 (.agg (asks B M N)) (.int .i64 5)).run Tryz.prog w = .ok (.agg #[.int .i64 6, (.func (.func 104) #[] #[.pointer (some ⟨M, 0, none⟩), .pointer (some ⟨B, 0, none⟩)])]) w := by kernel_rfl
theorem asks_at6 (B M N : Nat) (w : World) : (Instr.index 127 (.agg (asks B M N)) (.int .i64 6)).run Tryz.prog w = .ok (.agg #[.int .i64 6, (.func (.func 105) #[] #[.pointer (some ⟨B, 0, none⟩)])]) w := by kernel_rfl
theorem asks_at7 (B M N : Nat) (w : World) : (Instr.index 127 (.agg (asks B M N)) (.int .i64 7)).run Tryz.prog w = .ok (.agg #[.int .i64 53, (.func (.func 108) #[] #[.pointer (some ⟨B, 0, none⟩)])]) w := by kernel_rfl
theorem asks_at8 (B M N : Nat) (w : World) : (Instr.index 127 (.agg (asks B M N)) (.int .i64 8)).run Tryz.prog w = .ok (.agg #[.int .i64 6, (.func (.func 109) #[] #[.pointer (some ⟨B, 0, none⟩)])]) w := by kernel_rfl
set_option maxHeartbeats 4000000 in
theorem check_any (k p e s : Int) (t : Bool) (rs : List Rec) (ad : Option Addr) (len cap : Nat) (w : World) (h : BArg w ⟨k, p, e, s, t, rs⟩ ad len cap) :
    Calls Tryz.prog 43 #[.agg #[.int .i64 k, .int .i64 p, .int .i64 e, .int .i64 s, .bool t, .slice ad len cap]] w fun r w' => r = .returned (.int .i64 (checkN ⟨k, p, e, s, t, rs⟩)) ∧ Below w.heap.size w w' := by
  have HA : Hid (BArg w ⟨k, p, e, s, t, rs⟩ ad len cap) := h
  have HL : Hid (rs.length = len) := h.len_eq
  clear h
  have b0 : Below w.heap.size w (w.alloc (.cells #[.int .i64 k, .int .i64 p, .int .i64 e, .int .i64 s, .bool t, .slice ad len cap] 30)) := (Below.refl _ _).alloc (Nat.le_refl _) _
  go_enter Tryz.func43, Tryz.ntmps43
  go_wp2_with (go_at_call 69; refine (questions_any k p e s t (.slice ad len cap) _).mono ?_; rintro r w1 ⟨B, M, N, rfl, hx, hm, hn, b1⟩)
  have b01 : Below w.heap.size w w1 := b0.trans (b1.mono b0.size)
  clear b0 b1
  go_loopw [7] (fun i wr => ∃ j : Nat, j ≤ 9 ∧ i = .int .i64 j ∧ Hid (∀ i, i < j → ansN ⟨k, p, e, s, t, rs⟩ i = false) ∧ Below w.heap.size w wr ∧ Hid (BBox wr B k p e s t (.slice ad len cap)) ∧ Hid (TBox wr M (k == 2 || k == 3)) ∧ Hid (TBox wr N (p == -1))) (fun i _ => 9 - (intOf i).toNat)
  case atStart => exact ⟨0, by omega, rfl, (show Hid _ from fun i hi => absurd hi (Nat.not_lt_zero _)), b01, hx, hm, hn⟩
  case round =>
    clear b01 hx hm hn
    obtain ⟨j, hj, rfl, HF, hb, HX, HM, HN⟩ := hrel
    rcases (show j = 0 ∨ j = 1 ∨ j = 2 ∨ j = 3 ∨ j = 4 ∨ j = 5 ∨ j = 6 ∨ j = 7 ∨ j = 8 ∨ j = 9 by omega) with rfl | rfl | rfl | rfl | rfl | rfl | rfl | rfl | rfl | rfl
    · have ba : Below wr.heap.size wr (wr.alloc (.cells #[.int .i64 1, (.func (.func 99) #[] #[.pointer (some ⟨B, 0, none⟩), .pointer (some ⟨M, 0, none⟩)])] 126)) := (Below.refl _ _).alloc (Nat.le_refl _) _
      have hX := HX.out.later ba
      have hM := HM.out.later ba
      have hN := HN.out.later ba
      have hA := HA.out.later (hb.trans (ba.mono hb.size))
      have HC : Calls Tryz.prog 99 #[.pointer (some ⟨B, 0, none⟩), .pointer (some ⟨M, 0, none⟩)] (wr.alloc (.cells #[.int .i64 1, (.func (.func 99) #[] #[.pointer (some ⟨B, 0, none⟩), .pointer (some ⟨M, 0, none⟩)])] 126)) fun r w' => r = .returned (.bool (ansN ⟨k, p, e, s, t, rs⟩ 0)) ∧ Below (wr.alloc (.cells #[.int .i64 1, (.func (.func 99) #[] #[.pointer (some ⟨B, 0, none⟩), .pointer (some ⟨M, 0, none⟩)])] 126)).heap.size (wr.alloc (.cells #[.int .i64 1, (.func (.func 99) #[] #[.pointer (some ⟨B, 0, none⟩), .pointer (some ⟨M, 0, none⟩)])] 126)) w' := by
        refine (ask1 hX hM).mono ?_
        rintro r w' ⟨rfl, hb⟩
        exact ⟨by rfl, hb⟩
      have q0 : (wr.alloc (.cells #[.int .i64 1, (.func (.func 99) #[] #[.pointer (some ⟨B, 0, none⟩), .pointer (some ⟨M, 0, none⟩)])] 126)).cell? ⟨wr.heap.size, 0, none⟩ = some (.int .i64 1) := by rw [cell_of_row _ _ 0 _ _ _ (heap_alloc_new wr _)]; rfl
      have hlt : wr.heap.size < (wr.alloc (.cells #[.int .i64 1, (.func (.func 99) #[] #[.pointer (some ⟨B, 0, none⟩), .pointer (some ⟨M, 0, none⟩)])] 126)).heap.size := by simp
      have HI := asks_at0 B M N
      have BA : Hid (Below wr.heap.size wr (wr.alloc (.cells #[.int .i64 1, (.func (.func 99) #[] #[.pointer (some ⟨B, 0, none⟩), .pointer (some ⟨M, 0, none⟩)])] 126))) := ba
      have HX2 : Hid (BBox (wr.alloc (.cells #[.int .i64 1, (.func (.func 99) #[] #[.pointer (some ⟨B, 0, none⟩), .pointer (some ⟨M, 0, none⟩)])] 126)) B k p e s t (.slice ad len cap)) := hX
      have HM2 : Hid (TBox (wr.alloc (.cells #[.int .i64 1, (.func (.func 99) #[] #[.pointer (some ⟨B, 0, none⟩), .pointer (some ⟨M, 0, none⟩)])] 126)) M (k == 2 || k == 3)) := hM
      have HN2 : Hid (TBox (wr.alloc (.cells #[.int .i64 1, (.func (.func 99) #[] #[.pointer (some ⟨B, 0, none⟩), .pointer (some ⟨M, 0, none⟩)])] 126)) N (p == -1)) := hN
      clear hX hM hN hA ba HX HM HN
      cases hq : ansN ⟨k, p, e, s, t, rs⟩ 0 with
      | true =>
        have he := check_hit ⟨k, p, e, s, t, rs⟩ 0 (by omega) HF.out hq
        rw [hq] at HC
        go_wp2_with (go_at_call 99; refine HC.mono ?_; rintro r w3 ⟨rfl, b3⟩; have q1 := (b3.cell (p := ⟨wr.heap.size, 0, none⟩) hlt).trans q0; clear q0)
        go_ret
        exact ⟨by rw [he]; rfl, hb.trans ((BA.out.trans (b3.mono BA.out.size)).mono hb.size)⟩
      | false =>
        have HF2 : Hid (∀ i, i < 0 + 1 → ansN ⟨k, p, e, s, t, rs⟩ i = false) := fun i hi => by
          rcases Nat.lt_or_ge i 0 with h | h
          · exact HF.out i h
          · obtain rfl : i = 0 := by omega
            exact hq
        rw [hq] at HC
        go_wp2_with (go_at_call 99; refine HC.mono ?_; rintro r w3 ⟨rfl, b3⟩)
        go_roundw
        case rel => exact ⟨1, by omega, by go_num, HF2, hb.trans ((BA.out.trans (b3.mono BA.out.size)).mono hb.size), HX2.out.later b3, HM2.out.later b3, HN2.out.later b3⟩
        case measure => simp [intOf]
    · have ba : Below wr.heap.size wr (wr.alloc (.cells #[.int .i64 1, (.func (.func 100) #[] #[.pointer (some ⟨N, 0, none⟩), .pointer (some ⟨M, 0, none⟩), .pointer (some ⟨B, 0, none⟩)])] 126)) := (Below.refl _ _).alloc (Nat.le_refl _) _
      have hX := HX.out.later ba
      have hM := HM.out.later ba
      have hN := HN.out.later ba
      have hA := HA.out.later (hb.trans (ba.mono hb.size))
      have HC : Calls Tryz.prog 100 #[.pointer (some ⟨N, 0, none⟩), .pointer (some ⟨M, 0, none⟩), .pointer (some ⟨B, 0, none⟩)] (wr.alloc (.cells #[.int .i64 1, (.func (.func 100) #[] #[.pointer (some ⟨N, 0, none⟩), .pointer (some ⟨M, 0, none⟩), .pointer (some ⟨B, 0, none⟩)])] 126)) fun r w' => r = .returned (.bool (ansN ⟨k, p, e, s, t, rs⟩ 1)) ∧ Below (wr.alloc (.cells #[.int .i64 1, (.func (.func 100) #[] #[.pointer (some ⟨N, 0, none⟩), .pointer (some ⟨M, 0, none⟩), .pointer (some ⟨B, 0, none⟩)])] 126)).heap.size (wr.alloc (.cells #[.int .i64 1, (.func (.func 100) #[] #[.pointer (some ⟨N, 0, none⟩), .pointer (some ⟨M, 0, none⟩), .pointer (some ⟨B, 0, none⟩)])] 126)) w' := by
        refine (ask2 hX hM hN).mono ?_
        rintro r w' ⟨rfl, hb⟩
        exact ⟨by rfl, hb⟩
      have q0 : (wr.alloc (.cells #[.int .i64 1, (.func (.func 100) #[] #[.pointer (some ⟨N, 0, none⟩), .pointer (some ⟨M, 0, none⟩), .pointer (some ⟨B, 0, none⟩)])] 126)).cell? ⟨wr.heap.size, 0, none⟩ = some (.int .i64 1) := by rw [cell_of_row _ _ 0 _ _ _ (heap_alloc_new wr _)]; rfl
      have hlt : wr.heap.size < (wr.alloc (.cells #[.int .i64 1, (.func (.func 100) #[] #[.pointer (some ⟨N, 0, none⟩), .pointer (some ⟨M, 0, none⟩), .pointer (some ⟨B, 0, none⟩)])] 126)).heap.size := by simp
      have HI := asks_at1 B M N
      have BA : Hid (Below wr.heap.size wr (wr.alloc (.cells #[.int .i64 1, (.func (.func 100) #[] #[.pointer (some ⟨N, 0, none⟩), .pointer (some ⟨M, 0, none⟩), .pointer (some ⟨B, 0, none⟩)])] 126))) := ba
      have HX2 : Hid (BBox (wr.alloc (.cells #[.int .i64 1, (.func (.func 100) #[] #[.pointer (some ⟨N, 0, none⟩), .pointer (some ⟨M, 0, none⟩), .pointer (some ⟨B, 0, none⟩)])] 126)) B k p e s t (.slice ad len cap)) := hX
      have HM2 : Hid (TBox (wr.alloc (.cells #[.int .i64 1, (.func (.func 100) #[] #[.pointer (some ⟨N, 0, none⟩), .pointer (some ⟨M, 0, none⟩), .pointer (some ⟨B, 0, none⟩)])] 126)) M (k == 2 || k == 3)) := hM
      have HN2 : Hid (TBox (wr.alloc (.cells #[.int .i64 1, (.func (.func 100) #[] #[.pointer (some ⟨N, 0, none⟩), .pointer (some ⟨M, 0, none⟩), .pointer (some ⟨B, 0, none⟩)])] 126)) N (p == -1)) := hN
      clear hX hM hN hA ba HX HM HN
      cases hq : ansN ⟨k, p, e, s, t, rs⟩ 1 with
      | true =>
        have he := check_hit ⟨k, p, e, s, t, rs⟩ 1 (by omega) HF.out hq
        rw [hq] at HC
        go_wp2_with (go_at_call 100; refine HC.mono ?_; rintro r w3 ⟨rfl, b3⟩; have q1 := (b3.cell (p := ⟨wr.heap.size, 0, none⟩) hlt).trans q0; clear q0)
        go_ret
        exact ⟨by rw [he]; rfl, hb.trans ((BA.out.trans (b3.mono BA.out.size)).mono hb.size)⟩
      | false =>
        have HF2 : Hid (∀ i, i < 1 + 1 → ansN ⟨k, p, e, s, t, rs⟩ i = false) := fun i hi => by
          rcases Nat.lt_or_ge i 1 with h | h
          · exact HF.out i h
          · obtain rfl : i = 1 := by omega
            exact hq
        rw [hq] at HC
        go_wp2_with (go_at_call 100; refine HC.mono ?_; rintro r w3 ⟨rfl, b3⟩)
        go_roundw
        case rel => exact ⟨2, by omega, by go_num, HF2, hb.trans ((BA.out.trans (b3.mono BA.out.size)).mono hb.size), HX2.out.later b3, HM2.out.later b3, HN2.out.later b3⟩
        case measure => simp [intOf]
    · have ba : Below wr.heap.size wr (wr.alloc (.cells #[.int .i64 1, (.func (.func 101) #[] #[.pointer (some ⟨N, 0, none⟩), .pointer (some ⟨B, 0, none⟩)])] 126)) := (Below.refl _ _).alloc (Nat.le_refl _) _
      have hX := HX.out.later ba
      have hM := HM.out.later ba
      have hN := HN.out.later ba
      have hA := HA.out.later (hb.trans (ba.mono hb.size))
      have HC : Calls Tryz.prog 101 #[.pointer (some ⟨N, 0, none⟩), .pointer (some ⟨B, 0, none⟩)] (wr.alloc (.cells #[.int .i64 1, (.func (.func 101) #[] #[.pointer (some ⟨N, 0, none⟩), .pointer (some ⟨B, 0, none⟩)])] 126)) fun r w' => r = .returned (.bool (ansN ⟨k, p, e, s, t, rs⟩ 2)) ∧ Below (wr.alloc (.cells #[.int .i64 1, (.func (.func 101) #[] #[.pointer (some ⟨N, 0, none⟩), .pointer (some ⟨B, 0, none⟩)])] 126)).heap.size (wr.alloc (.cells #[.int .i64 1, (.func (.func 101) #[] #[.pointer (some ⟨N, 0, none⟩), .pointer (some ⟨B, 0, none⟩)])] 126)) w' := by
        refine (ask3 hX hN).mono ?_
        rintro r w' ⟨rfl, hb⟩
        exact ⟨by rfl, hb⟩
      have q0 : (wr.alloc (.cells #[.int .i64 1, (.func (.func 101) #[] #[.pointer (some ⟨N, 0, none⟩), .pointer (some ⟨B, 0, none⟩)])] 126)).cell? ⟨wr.heap.size, 0, none⟩ = some (.int .i64 1) := by rw [cell_of_row _ _ 0 _ _ _ (heap_alloc_new wr _)]; rfl
      have hlt : wr.heap.size < (wr.alloc (.cells #[.int .i64 1, (.func (.func 101) #[] #[.pointer (some ⟨N, 0, none⟩), .pointer (some ⟨B, 0, none⟩)])] 126)).heap.size := by simp
      have HI := asks_at2 B M N
      have BA : Hid (Below wr.heap.size wr (wr.alloc (.cells #[.int .i64 1, (.func (.func 101) #[] #[.pointer (some ⟨N, 0, none⟩), .pointer (some ⟨B, 0, none⟩)])] 126))) := ba
      have HX2 : Hid (BBox (wr.alloc (.cells #[.int .i64 1, (.func (.func 101) #[] #[.pointer (some ⟨N, 0, none⟩), .pointer (some ⟨B, 0, none⟩)])] 126)) B k p e s t (.slice ad len cap)) := hX
      have HM2 : Hid (TBox (wr.alloc (.cells #[.int .i64 1, (.func (.func 101) #[] #[.pointer (some ⟨N, 0, none⟩), .pointer (some ⟨B, 0, none⟩)])] 126)) M (k == 2 || k == 3)) := hM
      have HN2 : Hid (TBox (wr.alloc (.cells #[.int .i64 1, (.func (.func 101) #[] #[.pointer (some ⟨N, 0, none⟩), .pointer (some ⟨B, 0, none⟩)])] 126)) N (p == -1)) := hN
      clear hX hM hN hA ba HX HM HN
      cases hq : ansN ⟨k, p, e, s, t, rs⟩ 2 with
      | true =>
        have he := check_hit ⟨k, p, e, s, t, rs⟩ 2 (by omega) HF.out hq
        rw [hq] at HC
        go_wp2_with (go_at_call 101; refine HC.mono ?_; rintro r w3 ⟨rfl, b3⟩; have q1 := (b3.cell (p := ⟨wr.heap.size, 0, none⟩) hlt).trans q0; clear q0)
        go_ret
        exact ⟨by rw [he]; rfl, hb.trans ((BA.out.trans (b3.mono BA.out.size)).mono hb.size)⟩
      | false =>
        have HF2 : Hid (∀ i, i < 2 + 1 → ansN ⟨k, p, e, s, t, rs⟩ i = false) := fun i hi => by
          rcases Nat.lt_or_ge i 2 with h | h
          · exact HF.out i h
          · obtain rfl : i = 2 := by omega
            exact hq
        rw [hq] at HC
        go_wp2_with (go_at_call 101; refine HC.mono ?_; rintro r w3 ⟨rfl, b3⟩)
        go_roundw
        case rel => exact ⟨3, by omega, by go_num, HF2, hb.trans ((BA.out.trans (b3.mono BA.out.size)).mono hb.size), HX2.out.later b3, HM2.out.later b3, HN2.out.later b3⟩
        case measure => simp [intOf]
    · have ba : Below wr.heap.size wr (wr.alloc (.cells #[.int .i64 1, (.func (.func 102) #[] #[.pointer (some ⟨B, 0, none⟩), .pointer (some ⟨M, 0, none⟩), .pointer (some ⟨N, 0, none⟩)])] 126)) := (Below.refl _ _).alloc (Nat.le_refl _) _
      have hX := HX.out.later ba
      have hM := HM.out.later ba
      have hN := HN.out.later ba
      have hA := HA.out.later (hb.trans (ba.mono hb.size))
      have HC : Calls Tryz.prog 102 #[.pointer (some ⟨B, 0, none⟩), .pointer (some ⟨M, 0, none⟩), .pointer (some ⟨N, 0, none⟩)] (wr.alloc (.cells #[.int .i64 1, (.func (.func 102) #[] #[.pointer (some ⟨B, 0, none⟩), .pointer (some ⟨M, 0, none⟩), .pointer (some ⟨N, 0, none⟩)])] 126)) fun r w' => r = .returned (.bool (ansN ⟨k, p, e, s, t, rs⟩ 3)) ∧ Below (wr.alloc (.cells #[.int .i64 1, (.func (.func 102) #[] #[.pointer (some ⟨B, 0, none⟩), .pointer (some ⟨M, 0, none⟩), .pointer (some ⟨N, 0, none⟩)])] 126)).heap.size (wr.alloc (.cells #[.int .i64 1, (.func (.func 102) #[] #[.pointer (some ⟨B, 0, none⟩), .pointer (some ⟨M, 0, none⟩), .pointer (some ⟨N, 0, none⟩)])] 126)) w' := by
        refine (ask4 hX hM hN).mono ?_
        rintro r w' ⟨rfl, hb⟩
        exact ⟨by rfl, hb⟩
      have q0 : (wr.alloc (.cells #[.int .i64 1, (.func (.func 102) #[] #[.pointer (some ⟨B, 0, none⟩), .pointer (some ⟨M, 0, none⟩), .pointer (some ⟨N, 0, none⟩)])] 126)).cell? ⟨wr.heap.size, 0, none⟩ = some (.int .i64 1) := by rw [cell_of_row _ _ 0 _ _ _ (heap_alloc_new wr _)]; rfl
      have hlt : wr.heap.size < (wr.alloc (.cells #[.int .i64 1, (.func (.func 102) #[] #[.pointer (some ⟨B, 0, none⟩), .pointer (some ⟨M, 0, none⟩), .pointer (some ⟨N, 0, none⟩)])] 126)).heap.size := by simp
      have HI := asks_at3 B M N
      have BA : Hid (Below wr.heap.size wr (wr.alloc (.cells #[.int .i64 1, (.func (.func 102) #[] #[.pointer (some ⟨B, 0, none⟩), .pointer (some ⟨M, 0, none⟩), .pointer (some ⟨N, 0, none⟩)])] 126))) := ba
      have HX2 : Hid (BBox (wr.alloc (.cells #[.int .i64 1, (.func (.func 102) #[] #[.pointer (some ⟨B, 0, none⟩), .pointer (some ⟨M, 0, none⟩), .pointer (some ⟨N, 0, none⟩)])] 126)) B k p e s t (.slice ad len cap)) := hX
      have HM2 : Hid (TBox (wr.alloc (.cells #[.int .i64 1, (.func (.func 102) #[] #[.pointer (some ⟨B, 0, none⟩), .pointer (some ⟨M, 0, none⟩), .pointer (some ⟨N, 0, none⟩)])] 126)) M (k == 2 || k == 3)) := hM
      have HN2 : Hid (TBox (wr.alloc (.cells #[.int .i64 1, (.func (.func 102) #[] #[.pointer (some ⟨B, 0, none⟩), .pointer (some ⟨M, 0, none⟩), .pointer (some ⟨N, 0, none⟩)])] 126)) N (p == -1)) := hN
      clear hX hM hN hA ba HX HM HN
      cases hq : ansN ⟨k, p, e, s, t, rs⟩ 3 with
      | true =>
        have he := check_hit ⟨k, p, e, s, t, rs⟩ 3 (by omega) HF.out hq
        rw [hq] at HC
        go_wp2_with (go_at_call 102; refine HC.mono ?_; rintro r w3 ⟨rfl, b3⟩; have q1 := (b3.cell (p := ⟨wr.heap.size, 0, none⟩) hlt).trans q0; clear q0)
        go_ret
        exact ⟨by rw [he]; rfl, hb.trans ((BA.out.trans (b3.mono BA.out.size)).mono hb.size)⟩
      | false =>
        have HF2 : Hid (∀ i, i < 3 + 1 → ansN ⟨k, p, e, s, t, rs⟩ i = false) := fun i hi => by
          rcases Nat.lt_or_ge i 3 with h | h
          · exact HF.out i h
          · obtain rfl : i = 3 := by omega
            exact hq
        rw [hq] at HC
        go_wp2_with (go_at_call 102; refine HC.mono ?_; rintro r w3 ⟨rfl, b3⟩)
        go_roundw
        case rel => exact ⟨4, by omega, by go_num, HF2, hb.trans ((BA.out.trans (b3.mono BA.out.size)).mono hb.size), HX2.out.later b3, HM2.out.later b3, HN2.out.later b3⟩
        case measure => simp [intOf]
    · have ba : Below wr.heap.size wr (wr.alloc (.cells #[.int .i64 1, (.func (.func 103) #[] #[.pointer (some ⟨B, 0, none⟩), .pointer (some ⟨M, 0, none⟩), .pointer (some ⟨N, 0, none⟩)])] 126)) := (Below.refl _ _).alloc (Nat.le_refl _) _
      have hX := HX.out.later ba
      have hM := HM.out.later ba
      have hN := HN.out.later ba
      have hA := HA.out.later (hb.trans (ba.mono hb.size))
      have HC : Calls Tryz.prog 103 #[.pointer (some ⟨B, 0, none⟩), .pointer (some ⟨M, 0, none⟩), .pointer (some ⟨N, 0, none⟩)] (wr.alloc (.cells #[.int .i64 1, (.func (.func 103) #[] #[.pointer (some ⟨B, 0, none⟩), .pointer (some ⟨M, 0, none⟩), .pointer (some ⟨N, 0, none⟩)])] 126)) fun r w' => r = .returned (.bool (ansN ⟨k, p, e, s, t, rs⟩ 4)) ∧ Below (wr.alloc (.cells #[.int .i64 1, (.func (.func 103) #[] #[.pointer (some ⟨B, 0, none⟩), .pointer (some ⟨M, 0, none⟩), .pointer (some ⟨N, 0, none⟩)])] 126)).heap.size (wr.alloc (.cells #[.int .i64 1, (.func (.func 103) #[] #[.pointer (some ⟨B, 0, none⟩), .pointer (some ⟨M, 0, none⟩), .pointer (some ⟨N, 0, none⟩)])] 126)) w' := by
        refine (ask5 hX hM hN).mono ?_
        rintro r w' ⟨rfl, hb⟩
        exact ⟨by rfl, hb⟩
      have q0 : (wr.alloc (.cells #[.int .i64 1, (.func (.func 103) #[] #[.pointer (some ⟨B, 0, none⟩), .pointer (some ⟨M, 0, none⟩), .pointer (some ⟨N, 0, none⟩)])] 126)).cell? ⟨wr.heap.size, 0, none⟩ = some (.int .i64 1) := by rw [cell_of_row _ _ 0 _ _ _ (heap_alloc_new wr _)]; rfl
      have hlt : wr.heap.size < (wr.alloc (.cells #[.int .i64 1, (.func (.func 103) #[] #[.pointer (some ⟨B, 0, none⟩), .pointer (some ⟨M, 0, none⟩), .pointer (some ⟨N, 0, none⟩)])] 126)).heap.size := by simp
      have HI := asks_at4 B M N
      have BA : Hid (Below wr.heap.size wr (wr.alloc (.cells #[.int .i64 1, (.func (.func 103) #[] #[.pointer (some ⟨B, 0, none⟩), .pointer (some ⟨M, 0, none⟩), .pointer (some ⟨N, 0, none⟩)])] 126))) := ba
      have HX2 : Hid (BBox (wr.alloc (.cells #[.int .i64 1, (.func (.func 103) #[] #[.pointer (some ⟨B, 0, none⟩), .pointer (some ⟨M, 0, none⟩), .pointer (some ⟨N, 0, none⟩)])] 126)) B k p e s t (.slice ad len cap)) := hX
      have HM2 : Hid (TBox (wr.alloc (.cells #[.int .i64 1, (.func (.func 103) #[] #[.pointer (some ⟨B, 0, none⟩), .pointer (some ⟨M, 0, none⟩), .pointer (some ⟨N, 0, none⟩)])] 126)) M (k == 2 || k == 3)) := hM
      have HN2 : Hid (TBox (wr.alloc (.cells #[.int .i64 1, (.func (.func 103) #[] #[.pointer (some ⟨B, 0, none⟩), .pointer (some ⟨M, 0, none⟩), .pointer (some ⟨N, 0, none⟩)])] 126)) N (p == -1)) := hN
      clear hX hM hN hA ba HX HM HN
      cases hq : ansN ⟨k, p, e, s, t, rs⟩ 4 with
      | true =>
        have he := check_hit ⟨k, p, e, s, t, rs⟩ 4 (by omega) HF.out hq
        rw [hq] at HC
        go_wp2_with (go_at_call 103; refine HC.mono ?_; rintro r w3 ⟨rfl, b3⟩; have q1 := (b3.cell (p := ⟨wr.heap.size, 0, none⟩) hlt).trans q0; clear q0)
        go_ret
        exact ⟨by rw [he]; rfl, hb.trans ((BA.out.trans (b3.mono BA.out.size)).mono hb.size)⟩
      | false =>
        have HF2 : Hid (∀ i, i < 4 + 1 → ansN ⟨k, p, e, s, t, rs⟩ i = false) := fun i hi => by
          rcases Nat.lt_or_ge i 4 with h | h
          · exact HF.out i h
          · obtain rfl : i = 4 := by omega
            exact hq
        rw [hq] at HC
        go_wp2_with (go_at_call 103; refine HC.mono ?_; rintro r w3 ⟨rfl, b3⟩)
        go_roundw
        case rel => exact ⟨5, by omega, by go_num, HF2, hb.trans ((BA.out.trans (b3.mono BA.out.size)).mono hb.size), HX2.out.later b3, HM2.out.later b3, HN2.out.later b3⟩
        case measure => simp [intOf]
    · have ba : Below wr.heap.size wr (wr.alloc (.cells #[.int .i64 6, (.func (.func 104) #[] #[.pointer (some ⟨M, 0, none⟩), .pointer (some ⟨B, 0, none⟩)])] 126)) := (Below.refl _ _).alloc (Nat.le_refl _) _
      have hX := HX.out.later ba
      have hM := HM.out.later ba
      have hN := HN.out.later ba
      have hA := HA.out.later (hb.trans (ba.mono hb.size))
      have HC : Calls Tryz.prog 104 #[.pointer (some ⟨M, 0, none⟩), .pointer (some ⟨B, 0, none⟩)] (wr.alloc (.cells #[.int .i64 6, (.func (.func 104) #[] #[.pointer (some ⟨M, 0, none⟩), .pointer (some ⟨B, 0, none⟩)])] 126)) fun r w' => r = .returned (.bool (ansN ⟨k, p, e, s, t, rs⟩ 5)) ∧ Below (wr.alloc (.cells #[.int .i64 6, (.func (.func 104) #[] #[.pointer (some ⟨M, 0, none⟩), .pointer (some ⟨B, 0, none⟩)])] 126)).heap.size (wr.alloc (.cells #[.int .i64 6, (.func (.func 104) #[] #[.pointer (some ⟨M, 0, none⟩), .pointer (some ⟨B, 0, none⟩)])] 126)) w' := by
        refine (ask6 hX hM).mono ?_
        rintro r w' ⟨rfl, hb⟩
        exact ⟨by rw [← HL.out]; rfl, hb⟩
      have q0 : (wr.alloc (.cells #[.int .i64 6, (.func (.func 104) #[] #[.pointer (some ⟨M, 0, none⟩), .pointer (some ⟨B, 0, none⟩)])] 126)).cell? ⟨wr.heap.size, 0, none⟩ = some (.int .i64 6) := by rw [cell_of_row _ _ 0 _ _ _ (heap_alloc_new wr _)]; rfl
      have hlt : wr.heap.size < (wr.alloc (.cells #[.int .i64 6, (.func (.func 104) #[] #[.pointer (some ⟨M, 0, none⟩), .pointer (some ⟨B, 0, none⟩)])] 126)).heap.size := by simp
      have HI := asks_at5 B M N
      have BA : Hid (Below wr.heap.size wr (wr.alloc (.cells #[.int .i64 6, (.func (.func 104) #[] #[.pointer (some ⟨M, 0, none⟩), .pointer (some ⟨B, 0, none⟩)])] 126))) := ba
      have HX2 : Hid (BBox (wr.alloc (.cells #[.int .i64 6, (.func (.func 104) #[] #[.pointer (some ⟨M, 0, none⟩), .pointer (some ⟨B, 0, none⟩)])] 126)) B k p e s t (.slice ad len cap)) := hX
      have HM2 : Hid (TBox (wr.alloc (.cells #[.int .i64 6, (.func (.func 104) #[] #[.pointer (some ⟨M, 0, none⟩), .pointer (some ⟨B, 0, none⟩)])] 126)) M (k == 2 || k == 3)) := hM
      have HN2 : Hid (TBox (wr.alloc (.cells #[.int .i64 6, (.func (.func 104) #[] #[.pointer (some ⟨M, 0, none⟩), .pointer (some ⟨B, 0, none⟩)])] 126)) N (p == -1)) := hN
      clear hX hM hN hA ba HX HM HN
      cases hq : ansN ⟨k, p, e, s, t, rs⟩ 5 with
      | true =>
        have he := check_hit ⟨k, p, e, s, t, rs⟩ 5 (by omega) HF.out hq
        rw [hq] at HC
        go_wp2_with (go_at_call 104; refine HC.mono ?_; rintro r w3 ⟨rfl, b3⟩; have q1 := (b3.cell (p := ⟨wr.heap.size, 0, none⟩) hlt).trans q0; clear q0)
        go_ret
        exact ⟨by rw [he]; rfl, hb.trans ((BA.out.trans (b3.mono BA.out.size)).mono hb.size)⟩
      | false =>
        have HF2 : Hid (∀ i, i < 5 + 1 → ansN ⟨k, p, e, s, t, rs⟩ i = false) := fun i hi => by
          rcases Nat.lt_or_ge i 5 with h | h
          · exact HF.out i h
          · obtain rfl : i = 5 := by omega
            exact hq
        rw [hq] at HC
        go_wp2_with (go_at_call 104; refine HC.mono ?_; rintro r w3 ⟨rfl, b3⟩)
        go_roundw
        case rel => exact ⟨6, by omega, by go_num, HF2, hb.trans ((BA.out.trans (b3.mono BA.out.size)).mono hb.size), HX2.out.later b3, HM2.out.later b3, HN2.out.later b3⟩
        case measure => simp [intOf]
    · have ba : Below wr.heap.size wr (wr.alloc (.cells #[.int .i64 6, (.func (.func 105) #[] #[.pointer (some ⟨B, 0, none⟩)])] 126)) := (Below.refl _ _).alloc (Nat.le_refl _) _
      have hX := HX.out.later ba
      have hM := HM.out.later ba
      have hN := HN.out.later ba
      have hA := HA.out.later (hb.trans (ba.mono hb.size))
      have HC : Calls Tryz.prog 105 #[.pointer (some ⟨B, 0, none⟩)] (wr.alloc (.cells #[.int .i64 6, (.func (.func 105) #[] #[.pointer (some ⟨B, 0, none⟩)])] 126)) fun r w' => r = .returned (.bool (ansN ⟨k, p, e, s, t, rs⟩ 6)) ∧ Below (wr.alloc (.cells #[.int .i64 6, (.func (.func 105) #[] #[.pointer (some ⟨B, 0, none⟩)])] 126)).heap.size (wr.alloc (.cells #[.int .i64 6, (.func (.func 105) #[] #[.pointer (some ⟨B, 0, none⟩)])] 126)) w' := by
        refine (ask7 hX hA).mono ?_
        rintro r w' ⟨rfl, hb⟩
        exact ⟨by rfl, hb⟩
      have q0 : (wr.alloc (.cells #[.int .i64 6, (.func (.func 105) #[] #[.pointer (some ⟨B, 0, none⟩)])] 126)).cell? ⟨wr.heap.size, 0, none⟩ = some (.int .i64 6) := by rw [cell_of_row _ _ 0 _ _ _ (heap_alloc_new wr _)]; rfl
      have hlt : wr.heap.size < (wr.alloc (.cells #[.int .i64 6, (.func (.func 105) #[] #[.pointer (some ⟨B, 0, none⟩)])] 126)).heap.size := by simp
      have HI := asks_at6 B M N
      have BA : Hid (Below wr.heap.size wr (wr.alloc (.cells #[.int .i64 6, (.func (.func 105) #[] #[.pointer (some ⟨B, 0, none⟩)])] 126))) := ba
      have HX2 : Hid (BBox (wr.alloc (.cells #[.int .i64 6, (.func (.func 105) #[] #[.pointer (some ⟨B, 0, none⟩)])] 126)) B k p e s t (.slice ad len cap)) := hX
      have HM2 : Hid (TBox (wr.alloc (.cells #[.int .i64 6, (.func (.func 105) #[] #[.pointer (some ⟨B, 0, none⟩)])] 126)) M (k == 2 || k == 3)) := hM
      have HN2 : Hid (TBox (wr.alloc (.cells #[.int .i64 6, (.func (.func 105) #[] #[.pointer (some ⟨B, 0, none⟩)])] 126)) N (p == -1)) := hN
      clear hX hM hN hA ba HX HM HN
      cases hq : ansN ⟨k, p, e, s, t, rs⟩ 6 with
      | true =>
        have he := check_hit ⟨k, p, e, s, t, rs⟩ 6 (by omega) HF.out hq
        rw [hq] at HC
        go_wp2_with (go_at_call 105; refine HC.mono ?_; rintro r w3 ⟨rfl, b3⟩; have q1 := (b3.cell (p := ⟨wr.heap.size, 0, none⟩) hlt).trans q0; clear q0)
        go_ret
        exact ⟨by rw [he]; rfl, hb.trans ((BA.out.trans (b3.mono BA.out.size)).mono hb.size)⟩
      | false =>
        have HF2 : Hid (∀ i, i < 6 + 1 → ansN ⟨k, p, e, s, t, rs⟩ i = false) := fun i hi => by
          rcases Nat.lt_or_ge i 6 with h | h
          · exact HF.out i h
          · obtain rfl : i = 6 := by omega
            exact hq
        rw [hq] at HC
        go_wp2_with (go_at_call 105; refine HC.mono ?_; rintro r w3 ⟨rfl, b3⟩)
        go_roundw
        case rel => exact ⟨7, by omega, by go_num, HF2, hb.trans ((BA.out.trans (b3.mono BA.out.size)).mono hb.size), HX2.out.later b3, HM2.out.later b3, HN2.out.later b3⟩
        case measure => simp [intOf]
    · have ba : Below wr.heap.size wr (wr.alloc (.cells #[.int .i64 53, (.func (.func 108) #[] #[.pointer (some ⟨B, 0, none⟩)])] 126)) := (Below.refl _ _).alloc (Nat.le_refl _) _
      have hX := HX.out.later ba
      have hM := HM.out.later ba
      have hN := HN.out.later ba
      have hA := HA.out.later (hb.trans (ba.mono hb.size))
      have hl64 : len ≤ 64 := by rw [← HL.out]; exact ans_few (b := ⟨k, p, e, s, t, rs⟩) (HF.out 5 (by omega))
      have HC : Calls Tryz.prog 108 #[.pointer (some ⟨B, 0, none⟩)] (wr.alloc (.cells #[.int .i64 53, (.func (.func 108) #[] #[.pointer (some ⟨B, 0, none⟩)])] 126)) fun r w' => r = .returned (.bool (ansN ⟨k, p, e, s, t, rs⟩ 7)) ∧ Below (wr.alloc (.cells #[.int .i64 53, (.func (.func 108) #[] #[.pointer (some ⟨B, 0, none⟩)])] 126)).heap.size (wr.alloc (.cells #[.int .i64 53, (.func (.func 108) #[] #[.pointer (some ⟨B, 0, none⟩)])] 126)) w' := by
        refine (ask8 hX hl64).mono ?_
        rintro r w' ⟨rfl, hb⟩
        exact ⟨by rw [← HL.out]; rfl, hb⟩
      have q0 : (wr.alloc (.cells #[.int .i64 53, (.func (.func 108) #[] #[.pointer (some ⟨B, 0, none⟩)])] 126)).cell? ⟨wr.heap.size, 0, none⟩ = some (.int .i64 53) := by rw [cell_of_row _ _ 0 _ _ _ (heap_alloc_new wr _)]; rfl
      have hlt : wr.heap.size < (wr.alloc (.cells #[.int .i64 53, (.func (.func 108) #[] #[.pointer (some ⟨B, 0, none⟩)])] 126)).heap.size := by simp
      have HI := asks_at7 B M N
      have BA : Hid (Below wr.heap.size wr (wr.alloc (.cells #[.int .i64 53, (.func (.func 108) #[] #[.pointer (some ⟨B, 0, none⟩)])] 126))) := ba
      have HX2 : Hid (BBox (wr.alloc (.cells #[.int .i64 53, (.func (.func 108) #[] #[.pointer (some ⟨B, 0, none⟩)])] 126)) B k p e s t (.slice ad len cap)) := hX
      have HM2 : Hid (TBox (wr.alloc (.cells #[.int .i64 53, (.func (.func 108) #[] #[.pointer (some ⟨B, 0, none⟩)])] 126)) M (k == 2 || k == 3)) := hM
      have HN2 : Hid (TBox (wr.alloc (.cells #[.int .i64 53, (.func (.func 108) #[] #[.pointer (some ⟨B, 0, none⟩)])] 126)) N (p == -1)) := hN
      clear hX hM hN hA ba HX HM HN
      cases hq : ansN ⟨k, p, e, s, t, rs⟩ 7 with
      | true =>
        have he := check_hit ⟨k, p, e, s, t, rs⟩ 7 (by omega) HF.out hq
        rw [hq] at HC
        go_wp2_with (go_at_call 108; refine HC.mono ?_; rintro r w3 ⟨rfl, b3⟩; have q1 := (b3.cell (p := ⟨wr.heap.size, 0, none⟩) hlt).trans q0; clear q0)
        go_ret
        exact ⟨by rw [he]; rfl, hb.trans ((BA.out.trans (b3.mono BA.out.size)).mono hb.size)⟩
      | false =>
        have HF2 : Hid (∀ i, i < 7 + 1 → ansN ⟨k, p, e, s, t, rs⟩ i = false) := fun i hi => by
          rcases Nat.lt_or_ge i 7 with h | h
          · exact HF.out i h
          · obtain rfl : i = 7 := by omega
            exact hq
        rw [hq] at HC
        go_wp2_with (go_at_call 108; refine HC.mono ?_; rintro r w3 ⟨rfl, b3⟩)
        go_roundw
        case rel => exact ⟨8, by omega, by go_num, HF2, hb.trans ((BA.out.trans (b3.mono BA.out.size)).mono hb.size), HX2.out.later b3, HM2.out.later b3, HN2.out.later b3⟩
        case measure => simp [intOf]
    · have ba : Below wr.heap.size wr (wr.alloc (.cells #[.int .i64 6, (.func (.func 109) #[] #[.pointer (some ⟨B, 0, none⟩)])] 126)) := (Below.refl _ _).alloc (Nat.le_refl _) _
      have hX := HX.out.later ba
      have hM := HM.out.later ba
      have hN := HN.out.later ba
      have hA := HA.out.later (hb.trans (ba.mono hb.size))
      have hl64 : len ≤ 64 := by rw [← HL.out]; exact ans_few (b := ⟨k, p, e, s, t, rs⟩) (HF.out 5 (by omega))
      have hok := ans_ok (b := ⟨k, p, e, s, t, rs⟩) (HF.out 6 (by omega))
      have HC : Calls Tryz.prog 109 #[.pointer (some ⟨B, 0, none⟩)] (wr.alloc (.cells #[.int .i64 6, (.func (.func 109) #[] #[.pointer (some ⟨B, 0, none⟩)])] 126)) fun r w' => r = .returned (.bool (ansN ⟨k, p, e, s, t, rs⟩ 8)) ∧ Below (wr.alloc (.cells #[.int .i64 6, (.func (.func 109) #[] #[.pointer (some ⟨B, 0, none⟩)])] 126)).heap.size (wr.alloc (.cells #[.int .i64 6, (.func (.func 109) #[] #[.pointer (some ⟨B, 0, none⟩)])] 126)) w' := by
        refine (ask9 hX hA hl64 hok).mono ?_
        rintro r w' ⟨rfl, hb⟩
        exact ⟨by rfl, hb⟩
      have q0 : (wr.alloc (.cells #[.int .i64 6, (.func (.func 109) #[] #[.pointer (some ⟨B, 0, none⟩)])] 126)).cell? ⟨wr.heap.size, 0, none⟩ = some (.int .i64 6) := by rw [cell_of_row _ _ 0 _ _ _ (heap_alloc_new wr _)]; rfl
      have hlt : wr.heap.size < (wr.alloc (.cells #[.int .i64 6, (.func (.func 109) #[] #[.pointer (some ⟨B, 0, none⟩)])] 126)).heap.size := by simp
      have HI := asks_at8 B M N
      have BA : Hid (Below wr.heap.size wr (wr.alloc (.cells #[.int .i64 6, (.func (.func 109) #[] #[.pointer (some ⟨B, 0, none⟩)])] 126))) := ba
      have HX2 : Hid (BBox (wr.alloc (.cells #[.int .i64 6, (.func (.func 109) #[] #[.pointer (some ⟨B, 0, none⟩)])] 126)) B k p e s t (.slice ad len cap)) := hX
      have HM2 : Hid (TBox (wr.alloc (.cells #[.int .i64 6, (.func (.func 109) #[] #[.pointer (some ⟨B, 0, none⟩)])] 126)) M (k == 2 || k == 3)) := hM
      have HN2 : Hid (TBox (wr.alloc (.cells #[.int .i64 6, (.func (.func 109) #[] #[.pointer (some ⟨B, 0, none⟩)])] 126)) N (p == -1)) := hN
      clear hX hM hN hA ba HX HM HN
      cases hq : ansN ⟨k, p, e, s, t, rs⟩ 8 with
      | true =>
        have he := check_hit ⟨k, p, e, s, t, rs⟩ 8 (by omega) HF.out hq
        rw [hq] at HC
        go_wp2_with (go_at_call 109; refine HC.mono ?_; rintro r w3 ⟨rfl, b3⟩; have q1 := (b3.cell (p := ⟨wr.heap.size, 0, none⟩) hlt).trans q0; clear q0)
        go_ret
        exact ⟨by rw [he]; rfl, hb.trans ((BA.out.trans (b3.mono BA.out.size)).mono hb.size)⟩
      | false =>
        have HF2 : Hid (∀ i, i < 8 + 1 → ansN ⟨k, p, e, s, t, rs⟩ i = false) := fun i hi => by
          rcases Nat.lt_or_ge i 8 with h | h
          · exact HF.out i h
          · obtain rfl : i = 8 := by omega
            exact hq
        rw [hq] at HC
        go_wp2_with (go_at_call 109; refine HC.mono ?_; rintro r w3 ⟨rfl, b3⟩)
        go_roundw
        case rel => exact ⟨9, by omega, by go_num, HF2, hb.trans ((BA.out.trans (b3.mono BA.out.size)).mono hb.size), HX2.out.later b3, HM2.out.later b3, HN2.out.later b3⟩
        case measure => simp [intOf]
    · have he := check_none ⟨k, p, e, s, t, rs⟩ HF.out
      go_wp2
      go_ret
      exact ⟨by rw [he]; rfl, hb⟩
end Go.Proofs.YtfgamkcnnijloaaGreat
