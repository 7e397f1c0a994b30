/- What the Go function batch.Check answers: what the document says (checkN). -/
import Derived.Test.YtdifchlbnilenaaGreatQuestions
import Derived.Test.YtdifchlbnilenaaGreatCheckMath
import Derived.Laws.EntriesVeiled
namespace Go.Proofs.YtdifchlbnilenaaGreat
open Go.RowKit

theorem ans_few {b : Bat} (h : ansN b 5 = false) : b.recs.length ≤ 64 := by
  have h2 := ans_many b
  rw [h] at h2
  unfold manyOk at h2
  cases hm : b.marker with
  | true => rw [hm] at h2; simp at h2; rw [h2]; simp
  | false => rw [hm] at h2; simp at h2; exact h2.2
theorem ans_ok {b : Bat} (h : ansN b 6 = false) : ∀ r ∈ b.recs, recOk r = true := by
  have h2 := ans_all b
  rw [h] at h2
  exact List.all_eq_true.1 h2
theorem asks_at0 (B M N : Nat) (w : World) : (Instr.index 181 (.agg (asks B M N)) (.int .i64 0)).run Tryz.prog w = .ok (.agg #[.int .i64 1, (.func (.func 145) #[] #[.pointer (some ⟨B, 0, none⟩), .pointer (some ⟨M, 0, none⟩)])]) w := by kernel_rfl
theorem asks_at1 (B M N : Nat) (w : World) : (Instr.index 181 (.agg (asks B M N)) (.int .i64 1)).run Tryz.prog w = .ok (.agg #[.int .i64 1, (.func (.func 146) #[] #[.pointer (some ⟨N, 0, none⟩), .pointer (some ⟨M, 0, none⟩), .pointer (some ⟨B, 0, none⟩)])]) w := by kernel_rfl
theorem asks_at2 (B M N : Nat) (w : World) : (Instr.index 181 (.agg (asks B M N)) (.int .i64 2)).run Tryz.prog w = .ok (.agg #[.int .i64 1, (.func (.func 147) #[] #[.pointer (some ⟨N, 0, none⟩), .pointer (some ⟨B, 0, none⟩)])]) w := by kernel_rfl
theorem asks_at3 (B M N : Nat) (w : World) : (Instr.index 181 (.agg (asks B M N)) (.int .i64 3)).run Tryz.prog w = .ok (.agg #[.int .i64 1, (.func (.func 148) #[] #[.pointer (some ⟨B, 0, none⟩), .pointer (some ⟨M, 0, none⟩), .pointer (some ⟨N, 0, none⟩)])]) w := by kernel_rfl
theorem asks_at4 (B M N : Nat) (w : World) : (Instr.index 181 (.agg (asks B M N)) (.int .i64 4)).run Tryz.prog w = .ok (.agg #[.int .i64 1, (.func (.func 149) #[] #[.pointer (some ⟨B, 0, none⟩), .pointer (some ⟨M, 0, none⟩), .pointer (some ⟨N, 0, none⟩)])]) w := by kernel_rfl
theorem asks_at5 (B M N : Nat) (w : World) : (Instr.index 181 (.agg (asks B M N)) (.int .i64 5)).run Tryz.prog w = .ok (.agg #[.int .i64 6, (.func (.func 150) #[] #[.pointer (some ⟨M, 0, none⟩), .pointer (some ⟨B, 0, none⟩)])]) w := by kernel_rfl
theorem asks_at6 (B M N : Nat) (w : World) : (Instr.index 181 (.agg (asks B M N)) (.int .i64 6)).run Tryz.prog w = .ok (.agg #[.int .i64 6, (.func (.func 151) #[] #[.pointer (some ⟨B, 0, none⟩)])]) w := by kernel_rfl
theorem asks_at7 (B M N : Nat) (w : World) : (Instr.index 181 (.agg (asks B M N)) (.int .i64 7)).run Tryz.prog w = .ok (.agg #[.int .i64 53, (.func (.func 154) #[] #[.pointer (some ⟨B, 0, none⟩)])]) w := by kernel_rfl
theorem asks_at8 (B M N : Nat) (w : World) : (Instr.index 181 (.agg (asks B M N)) (.int .i64 8)).run Tryz.prog w = .ok (.agg #[.int .i64 6, (.func (.func 155) #[] #[.pointer (some ⟨B, 0, none⟩)])]) w := by kernel_rfl
set_option maxHeartbeats 4000000 in
theorem check_any (k p e s : Int) (t : Bool) (rs : List Rec) (ad : Option Addr) (len cap : Nat) (w : World) (h : BArg w ⟨k, p, e, s, t, rs⟩ ad len cap) :
    Calls Tryz.prog 69 #[.agg #[.int .i64 k, .int .i64 p, .int .i64 e, .int .i64 s, .bool t, .slice ad len cap]] w fun r w' => r = .returned (.int .i64 (checkN ⟨k, p, e, s, t, rs⟩)) ∧ Below w.heap.size w w' := by
  have HA : Hid (BArg w ⟨k, p, e, s, t, rs⟩ ad len cap) := h
  have HL : Hid (rs.length = len) := h.len_eq
  clear h
  have b0 : Below w.heap.size w (w.alloc (.cells #[.int .i64 k, .int .i64 p, .int .i64 e, .int .i64 s, .bool t, .slice ad len cap] 24)) := (Below.refl _ _).alloc (Nat.le_refl _) _
  go_enter Tryz.func69, Tryz.ntmps69
  go_wp2_with (go_at_call 110; refine (questions_any k p e s t (.slice ad len cap) _).mono ?_; rintro r w1 ⟨B, M, N, rfl, hx, hm, hn, b1⟩)
  have b01 : Below w.heap.size w w1 := b0.trans (b1.mono b0.size)
  clear b0 b1
  go_loopw [7] (fun i wr => ∃ j : Nat, j ≤ 9 ∧ i = .int .i64 j ∧ Hid (∀ i, i < j → ansN ⟨k, p, e, s, t, rs⟩ i = false) ∧ Below w.heap.size w wr ∧ Hid (BBox wr B k p e s t (.slice ad len cap)) ∧ Hid (TBox wr M (k == 2 || k == 3)) ∧ Hid (TBox wr N (p == -1))) (fun i _ => 9 - (intOf i).toNat)
  case atStart => exact ⟨0, by omega, rfl, (show Hid _ from fun i hi => absurd hi (Nat.not_lt_zero _)), b01, hx, hm, hn⟩
  case round =>
    clear b01 hx hm hn
    obtain ⟨j, hj, rfl, HF, hb, HX, HM, HN⟩ := hrel
    rcases (show j = 0 ∨ j = 1 ∨ j = 2 ∨ j = 3 ∨ j = 4 ∨ j = 5 ∨ j = 6 ∨ j = 7 ∨ j = 8 ∨ j = 9 by omega) with rfl | rfl | rfl | rfl | rfl | rfl | rfl | rfl | rfl | rfl
    · have ba : Below wr.heap.size wr (wr.alloc (.cells #[.int .i64 1, (.func (.func 145) #[] #[.pointer (some ⟨B, 0, none⟩), .pointer (some ⟨M, 0, none⟩)])] 180)) := (Below.refl _ _).alloc (Nat.le_refl _) _
      have hX := HX.out.later ba
      have hM := HM.out.later ba
      have hN := HN.out.later ba
      have hA := HA.out.later (hb.trans (ba.mono hb.size))
      have HC : Calls Tryz.prog 145 #[.pointer (some ⟨B, 0, none⟩), .pointer (some ⟨M, 0, none⟩)] (wr.alloc (.cells #[.int .i64 1, (.func (.func 145) #[] #[.pointer (some ⟨B, 0, none⟩), .pointer (some ⟨M, 0, none⟩)])] 180)) fun r w' => r = .returned (.bool (ansN ⟨k, p, e, s, t, rs⟩ 0)) ∧ Below (wr.alloc (.cells #[.int .i64 1, (.func (.func 145) #[] #[.pointer (some ⟨B, 0, none⟩), .pointer (some ⟨M, 0, none⟩)])] 180)).heap.size (wr.alloc (.cells #[.int .i64 1, (.func (.func 145) #[] #[.pointer (some ⟨B, 0, none⟩), .pointer (some ⟨M, 0, none⟩)])] 180)) w' := by
        refine (ask1 hX hM).mono ?_
        rintro r w' ⟨rfl, hb⟩
        exact ⟨by rfl, hb⟩
      have q0 : (wr.alloc (.cells #[.int .i64 1, (.func (.func 145) #[] #[.pointer (some ⟨B, 0, none⟩), .pointer (some ⟨M, 0, none⟩)])] 180)).cell? ⟨wr.heap.size, 0, none⟩ = some (.int .i64 1) := by rw [cell_of_row _ _ 0 _ _ _ (heap_alloc_new wr _)]; rfl
      have hlt : wr.heap.size < (wr.alloc (.cells #[.int .i64 1, (.func (.func 145) #[] #[.pointer (some ⟨B, 0, none⟩), .pointer (some ⟨M, 0, none⟩)])] 180)).heap.size := by simp
      have HI := asks_at0 B M N
      have BA : Hid (Below wr.heap.size wr (wr.alloc (.cells #[.int .i64 1, (.func (.func 145) #[] #[.pointer (some ⟨B, 0, none⟩), .pointer (some ⟨M, 0, none⟩)])] 180))) := ba
      have HX2 : Hid (BBox (wr.alloc (.cells #[.int .i64 1, (.func (.func 145) #[] #[.pointer (some ⟨B, 0, none⟩), .pointer (some ⟨M, 0, none⟩)])] 180)) B k p e s t (.slice ad len cap)) := hX
      have HM2 : Hid (TBox (wr.alloc (.cells #[.int .i64 1, (.func (.func 145) #[] #[.pointer (some ⟨B, 0, none⟩), .pointer (some ⟨M, 0, none⟩)])] 180)) M (k == 2 || k == 3)) := hM
      have HN2 : Hid (TBox (wr.alloc (.cells #[.int .i64 1, (.func (.func 145) #[] #[.pointer (some ⟨B, 0, none⟩), .pointer (some ⟨M, 0, none⟩)])] 180)) N (p == -1)) := hN
      clear hX hM hN hA ba HX HM HN
      cases hq : ansN ⟨k, p, e, s, t, rs⟩ 0 with
      | true =>
        have he := check_hit ⟨k, p, e, s, t, rs⟩ 0 (by omega) HF.out hq
        rw [hq] at HC
        go_wp2_with (go_at_call 145; refine HC.mono ?_; rintro r w3 ⟨rfl, b3⟩; have q1 := (b3.cell (p := ⟨wr.heap.size, 0, none⟩) hlt).trans q0; clear q0)
        go_ret
        exact ⟨by rw [he]; rfl, hb.trans ((BA.out.trans (b3.mono BA.out.size)).mono hb.size)⟩
      | false =>
        have HF2 : Hid (∀ i, i < 0 + 1 → ansN ⟨k, p, e, s, t, rs⟩ i = false) := fun i hi => by
          rcases Nat.lt_or_ge i 0 with h | h
          · exact HF.out i h
          · obtain rfl : i = 0 := by omega
            exact hq
        rw [hq] at HC
        go_wp2_with (go_at_call 145; refine HC.mono ?_; rintro r w3 ⟨rfl, b3⟩)
        go_roundw
        case rel => exact ⟨1, by omega, by go_num, HF2, hb.trans ((BA.out.trans (b3.mono BA.out.size)).mono hb.size), HX2.out.later b3, HM2.out.later b3, HN2.out.later b3⟩
        case measure => simp [intOf]
    · have ba : Below wr.heap.size wr (wr.alloc (.cells #[.int .i64 1, (.func (.func 146) #[] #[.pointer (some ⟨N, 0, none⟩), .pointer (some ⟨M, 0, none⟩), .pointer (some ⟨B, 0, none⟩)])] 180)) := (Below.refl _ _).alloc (Nat.le_refl _) _
      have hX := HX.out.later ba
      have hM := HM.out.later ba
      have hN := HN.out.later ba
      have hA := HA.out.later (hb.trans (ba.mono hb.size))
      have HC : Calls Tryz.prog 146 #[.pointer (some ⟨N, 0, none⟩), .pointer (some ⟨M, 0, none⟩), .pointer (some ⟨B, 0, none⟩)] (wr.alloc (.cells #[.int .i64 1, (.func (.func 146) #[] #[.pointer (some ⟨N, 0, none⟩), .pointer (some ⟨M, 0, none⟩), .pointer (some ⟨B, 0, none⟩)])] 180)) fun r w' => r = .returned (.bool (ansN ⟨k, p, e, s, t, rs⟩ 1)) ∧ Below (wr.alloc (.cells #[.int .i64 1, (.func (.func 146) #[] #[.pointer (some ⟨N, 0, none⟩), .pointer (some ⟨M, 0, none⟩), .pointer (some ⟨B, 0, none⟩)])] 180)).heap.size (wr.alloc (.cells #[.int .i64 1, (.func (.func 146) #[] #[.pointer (some ⟨N, 0, none⟩), .pointer (some ⟨M, 0, none⟩), .pointer (some ⟨B, 0, none⟩)])] 180)) w' := by
        refine (ask2 hX hM hN).mono ?_
        rintro r w' ⟨rfl, hb⟩
        exact ⟨by rfl, hb⟩
      have q0 : (wr.alloc (.cells #[.int .i64 1, (.func (.func 146) #[] #[.pointer (some ⟨N, 0, none⟩), .pointer (some ⟨M, 0, none⟩), .pointer (some ⟨B, 0, none⟩)])] 180)).cell? ⟨wr.heap.size, 0, none⟩ = some (.int .i64 1) := by rw [cell_of_row _ _ 0 _ _ _ (heap_alloc_new wr _)]; rfl
      have hlt : wr.heap.size < (wr.alloc (.cells #[.int .i64 1, (.func (.func 146) #[] #[.pointer (some ⟨N, 0, none⟩), .pointer (some ⟨M, 0, none⟩), .pointer (some ⟨B, 0, none⟩)])] 180)).heap.size := by simp
      have HI := asks_at1 B M N
      have BA : Hid (Below wr.heap.size wr (wr.alloc (.cells #[.int .i64 1, (.func (.func 146) #[] #[.pointer (some ⟨N, 0, none⟩), .pointer (some ⟨M, 0, none⟩), .pointer (some ⟨B, 0, none⟩)])] 180))) := ba
      have HX2 : Hid (BBox (wr.alloc (.cells #[.int .i64 1, (.func (.func 146) #[] #[.pointer (some ⟨N, 0, none⟩), .pointer (some ⟨M, 0, none⟩), .pointer (some ⟨B, 0, none⟩)])] 180)) B k p e s t (.slice ad len cap)) := hX
      have HM2 : Hid (TBox (wr.alloc (.cells #[.int .i64 1, (.func (.func 146) #[] #[.pointer (some ⟨N, 0, none⟩), .pointer (some ⟨M, 0, none⟩), .pointer (some ⟨B, 0, none⟩)])] 180)) M (k == 2 || k == 3)) := hM
      have HN2 : Hid (TBox (wr.alloc (.cells #[.int .i64 1, (.func (.func 146) #[] #[.pointer (some ⟨N, 0, none⟩), .pointer (some ⟨M, 0, none⟩), .pointer (some ⟨B, 0, none⟩)])] 180)) N (p == -1)) := hN
      clear hX hM hN hA ba HX HM HN
      cases hq : ansN ⟨k, p, e, s, t, rs⟩ 1 with
      | true =>
        have he := check_hit ⟨k, p, e, s, t, rs⟩ 1 (by omega) HF.out hq
        rw [hq] at HC
        go_wp2_with (go_at_call 146; refine HC.mono ?_; rintro r w3 ⟨rfl, b3⟩; have q1 := (b3.cell (p := ⟨wr.heap.size, 0, none⟩) hlt).trans q0; clear q0)
        go_ret
        exact ⟨by rw [he]; rfl, hb.trans ((BA.out.trans (b3.mono BA.out.size)).mono hb.size)⟩
      | false =>
        have HF2 : Hid (∀ i, i < 1 + 1 → ansN ⟨k, p, e, s, t, rs⟩ i = false) := fun i hi => by
          rcases Nat.lt_or_ge i 1 with h | h
          · exact HF.out i h
          · obtain rfl : i = 1 := by omega
            exact hq
        rw [hq] at HC
        go_wp2_with (go_at_call 146; refine HC.mono ?_; rintro r w3 ⟨rfl, b3⟩)
        go_roundw
        case rel => exact ⟨2, by omega, by go_num, HF2, hb.trans ((BA.out.trans (b3.mono BA.out.size)).mono hb.size), HX2.out.later b3, HM2.out.later b3, HN2.out.later b3⟩
        case measure => simp [intOf]
    · have ba : Below wr.heap.size wr (wr.alloc (.cells #[.int .i64 1, (.func (.func 147) #[] #[.pointer (some ⟨N, 0, none⟩), .pointer (some ⟨B, 0, none⟩)])] 180)) := (Below.refl _ _).alloc (Nat.le_refl _) _
      have hX := HX.out.later ba
      have hM := HM.out.later ba
      have hN := HN.out.later ba
      have hA := HA.out.later (hb.trans (ba.mono hb.size))
      have HC : Calls Tryz.prog 147 #[.pointer (some ⟨N, 0, none⟩), .pointer (some ⟨B, 0, none⟩)] (wr.alloc (.cells #[.int .i64 1, (.func (.func 147) #[] #[.pointer (some ⟨N, 0, none⟩), .pointer (some ⟨B, 0, none⟩)])] 180)) fun r w' => r = .returned (.bool (ansN ⟨k, p, e, s, t, rs⟩ 2)) ∧ Below (wr.alloc (.cells #[.int .i64 1, (.func (.func 147) #[] #[.pointer (some ⟨N, 0, none⟩), .pointer (some ⟨B, 0, none⟩)])] 180)).heap.size (wr.alloc (.cells #[.int .i64 1, (.func (.func 147) #[] #[.pointer (some ⟨N, 0, none⟩), .pointer (some ⟨B, 0, none⟩)])] 180)) w' := by
        refine (ask3 hX hN).mono ?_
        rintro r w' ⟨rfl, hb⟩
        exact ⟨by rfl, hb⟩
      have q0 : (wr.alloc (.cells #[.int .i64 1, (.func (.func 147) #[] #[.pointer (some ⟨N, 0, none⟩), .pointer (some ⟨B, 0, none⟩)])] 180)).cell? ⟨wr.heap.size, 0, none⟩ = some (.int .i64 1) := by rw [cell_of_row _ _ 0 _ _ _ (heap_alloc_new wr _)]; rfl
      have hlt : wr.heap.size < (wr.alloc (.cells #[.int .i64 1, (.func (.func 147) #[] #[.pointer (some ⟨N, 0, none⟩), .pointer (some ⟨B, 0, none⟩)])] 180)).heap.size := by simp
      have HI := asks_at2 B M N
      have BA : Hid (Below wr.heap.size wr (wr.alloc (.cells #[.int .i64 1, (.func (.func 147) #[] #[.pointer (some ⟨N, 0, none⟩), .pointer (some ⟨B, 0, none⟩)])] 180))) := ba
      have HX2 : Hid (BBox (wr.alloc (.cells #[.int .i64 1, (.func (.func 147) #[] #[.pointer (some ⟨N, 0, none⟩), .pointer (some ⟨B, 0, none⟩)])] 180)) B k p e s t (.slice ad len cap)) := hX
      have HM2 : Hid (TBox (wr.alloc (.cells #[.int .i64 1, (.func (.func 147) #[] #[.pointer (some ⟨N, 0, none⟩), .pointer (some ⟨B, 0, none⟩)])] 180)) M (k == 2 || k == 3)) := hM
      have HN2 : Hid (TBox (wr.alloc (.cells #[.int .i64 1, (.func (.func 147) #[] #[.pointer (some ⟨N, 0, none⟩), .pointer (some ⟨B, 0, none⟩)])] 180)) N (p == -1)) := hN
      clear hX hM hN hA ba HX HM HN
      cases hq : ansN ⟨k, p, e, s, t, rs⟩ 2 with
      | true =>
        have he := check_hit ⟨k, p, e, s, t, rs⟩ 2 (by omega) HF.out hq
        rw [hq] at HC
        go_wp2_with (go_at_call 147; refine HC.mono ?_; rintro r w3 ⟨rfl, b3⟩; have q1 := (b3.cell (p := ⟨wr.heap.size, 0, none⟩) hlt).trans q0; clear q0)
        go_ret
        exact ⟨by rw [he]; rfl, hb.trans ((BA.out.trans (b3.mono BA.out.size)).mono hb.size)⟩
      | false =>
        have HF2 : Hid (∀ i, i < 2 + 1 → ansN ⟨k, p, e, s, t, rs⟩ i = false) := fun i hi => by
          rcases Nat.lt_or_ge i 2 with h | h
          · exact HF.out i h
          · obtain rfl : i = 2 := by omega
            exact hq
        rw [hq] at HC
        go_wp2_with (go_at_call 147; refine HC.mono ?_; rintro r w3 ⟨rfl, b3⟩)
        go_roundw
        case rel => exact ⟨3, by omega, by go_num, HF2, hb.trans ((BA.out.trans (b3.mono BA.out.size)).mono hb.size), HX2.out.later b3, HM2.out.later b3, HN2.out.later b3⟩
        case measure => simp [intOf]
    · have ba : Below wr.heap.size wr (wr.alloc (.cells #[.int .i64 1, (.func (.func 148) #[] #[.pointer (some ⟨B, 0, none⟩), .pointer (some ⟨M, 0, none⟩), .pointer (some ⟨N, 0, none⟩)])] 180)) := (Below.refl _ _).alloc (Nat.le_refl _) _
      have hX := HX.out.later ba
      have hM := HM.out.later ba
      have hN := HN.out.later ba
      have hA := HA.out.later (hb.trans (ba.mono hb.size))
      have HC : Calls Tryz.prog 148 #[.pointer (some ⟨B, 0, none⟩), .pointer (some ⟨M, 0, none⟩), .pointer (some ⟨N, 0, none⟩)] (wr.alloc (.cells #[.int .i64 1, (.func (.func 148) #[] #[.pointer (some ⟨B, 0, none⟩), .pointer (some ⟨M, 0, none⟩), .pointer (some ⟨N, 0, none⟩)])] 180)) fun r w' => r = .returned (.bool (ansN ⟨k, p, e, s, t, rs⟩ 3)) ∧ Below (wr.alloc (.cells #[.int .i64 1, (.func (.func 148) #[] #[.pointer (some ⟨B, 0, none⟩), .pointer (some ⟨M, 0, none⟩), .pointer (some ⟨N, 0, none⟩)])] 180)).heap.size (wr.alloc (.cells #[.int .i64 1, (.func (.func 148) #[] #[.pointer (some ⟨B, 0, none⟩), .pointer (some ⟨M, 0, none⟩), .pointer (some ⟨N, 0, none⟩)])] 180)) w' := by
        refine (ask4 hX hM hN).mono ?_
        rintro r w' ⟨rfl, hb⟩
        exact ⟨by rfl, hb⟩
      have q0 : (wr.alloc (.cells #[.int .i64 1, (.func (.func 148) #[] #[.pointer (some ⟨B, 0, none⟩), .pointer (some ⟨M, 0, none⟩), .pointer (some ⟨N, 0, none⟩)])] 180)).cell? ⟨wr.heap.size, 0, none⟩ = some (.int .i64 1) := by rw [cell_of_row _ _ 0 _ _ _ (heap_alloc_new wr _)]; rfl
      have hlt : wr.heap.size < (wr.alloc (.cells #[.int .i64 1, (.func (.func 148) #[] #[.pointer (some ⟨B, 0, none⟩), .pointer (some ⟨M, 0, none⟩), .pointer (some ⟨N, 0, none⟩)])] 180)).heap.size := by simp
      have HI := asks_at3 B M N
      have BA : Hid (Below wr.heap.size wr (wr.alloc (.cells #[.int .i64 1, (.func (.func 148) #[] #[.pointer (some ⟨B, 0, none⟩), .pointer (some ⟨M, 0, none⟩), .pointer (some ⟨N, 0, none⟩)])] 180))) := ba
      have HX2 : Hid (BBox (wr.alloc (.cells #[.int .i64 1, (.func (.func 148) #[] #[.pointer (some ⟨B, 0, none⟩), .pointer (some ⟨M, 0, none⟩), .pointer (some ⟨N, 0, none⟩)])] 180)) B k p e s t (.slice ad len cap)) := hX
      have HM2 : Hid (TBox (wr.alloc (.cells #[.int .i64 1, (.func (.func 148) #[] #[.pointer (some ⟨B, 0, none⟩), .pointer (some ⟨M, 0, none⟩), .pointer (some ⟨N, 0, none⟩)])] 180)) M (k == 2 || k == 3)) := hM
      have HN2 : Hid (TBox (wr.alloc (.cells #[.int .i64 1, (.func (.func 148) #[] #[.pointer (some ⟨B, 0, none⟩), .pointer (some ⟨M, 0, none⟩), .pointer (some ⟨N, 0, none⟩)])] 180)) N (p == -1)) := hN
      clear hX hM hN hA ba HX HM HN
      cases hq : ansN ⟨k, p, e, s, t, rs⟩ 3 with
      | true =>
        have he := check_hit ⟨k, p, e, s, t, rs⟩ 3 (by omega) HF.out hq
        rw [hq] at HC
        go_wp2_with (go_at_call 148; refine HC.mono ?_; rintro r w3 ⟨rfl, b3⟩; have q1 := (b3.cell (p := ⟨wr.heap.size, 0, none⟩) hlt).trans q0; clear q0)
        go_ret
        exact ⟨by rw [he]; rfl, hb.trans ((BA.out.trans (b3.mono BA.out.size)).mono hb.size)⟩
      | false =>
        have HF2 : Hid (∀ i, i < 3 + 1 → ansN ⟨k, p, e, s, t, rs⟩ i = false) := fun i hi => by
          rcases Nat.lt_or_ge i 3 with h | h
          · exact HF.out i h
          · obtain rfl : i = 3 := by omega
            exact hq
        rw [hq] at HC
        go_wp2_with (go_at_call 148; refine HC.mono ?_; rintro r w3 ⟨rfl, b3⟩)
        go_roundw
        case rel => exact ⟨4, by omega, by go_num, HF2, hb.trans ((BA.out.trans (b3.mono BA.out.size)).mono hb.size), HX2.out.later b3, HM2.out.later b3, HN2.out.later b3⟩
        case measure => simp [intOf]
    · have ba : Below wr.heap.size wr (wr.alloc (.cells #[.int .i64 1, (.func (.func 149) #[] #[.pointer (some ⟨B, 0, none⟩), .pointer (some ⟨M, 0, none⟩), .pointer (some ⟨N, 0, none⟩)])] 180)) := (Below.refl _ _).alloc (Nat.le_refl _) _
      have hX := HX.out.later ba
      have hM := HM.out.later ba
      have hN := HN.out.later ba
      have hA := HA.out.later (hb.trans (ba.mono hb.size))
      have HC : Calls Tryz.prog 149 #[.pointer (some ⟨B, 0, none⟩), .pointer (some ⟨M, 0, none⟩), .pointer (some ⟨N, 0, none⟩)] (wr.alloc (.cells #[.int .i64 1, (.func (.func 149) #[] #[.pointer (some ⟨B, 0, none⟩), .pointer (some ⟨M, 0, none⟩), .pointer (some ⟨N, 0, none⟩)])] 180)) fun r w' => r = .returned (.bool (ansN ⟨k, p, e, s, t, rs⟩ 4)) ∧ Below (wr.alloc (.cells #[.int .i64 1, (.func (.func 149) #[] #[.pointer (some ⟨B, 0, none⟩), .pointer (some ⟨M, 0, none⟩), .pointer (some ⟨N, 0, none⟩)])] 180)).heap.size (wr.alloc (.cells #[.int .i64 1, (.func (.func 149) #[] #[.pointer (some ⟨B, 0, none⟩), .pointer (some ⟨M, 0, none⟩), .pointer (some ⟨N, 0, none⟩)])] 180)) w' := by
        refine (ask5 hX hM hN).mono ?_
        rintro r w' ⟨rfl, hb⟩
        exact ⟨by rfl, hb⟩
      have q0 : (wr.alloc (.cells #[.int .i64 1, (.func (.func 149) #[] #[.pointer (some ⟨B, 0, none⟩), .pointer (some ⟨M, 0, none⟩), .pointer (some ⟨N, 0, none⟩)])] 180)).cell? ⟨wr.heap.size, 0, none⟩ = some (.int .i64 1) := by rw [cell_of_row _ _ 0 _ _ _ (heap_alloc_new wr _)]; rfl
      have hlt : wr.heap.size < (wr.alloc (.cells #[.int .i64 1, (.func (.func 149) #[] #[.pointer (some ⟨B, 0, none⟩), .pointer (some ⟨M, 0, none⟩), .pointer (some ⟨N, 0, none⟩)])] 180)).heap.size := by simp
      have HI := asks_at4 B M N
      have BA : Hid (Below wr.heap.size wr (wr.alloc (.cells #[.int .i64 1, (.func (.func 149) #[] #[.pointer (some ⟨B, 0, none⟩), .pointer (some ⟨M, 0, none⟩), .pointer (some ⟨N, 0, none⟩)])] 180))) := ba
      have HX2 : Hid (BBox (wr.alloc (.cells #[.int .i64 1, (.func (.func 149) #[] #[.pointer (some ⟨B, 0, none⟩), .pointer (some ⟨M, 0, none⟩), .pointer (some ⟨N, 0, none⟩)])] 180)) B k p e s t (.slice ad len cap)) := hX
      have HM2 : Hid (TBox (wr.alloc (.cells #[.int .i64 1, (.func (.func 149) #[] #[.pointer (some ⟨B, 0, none⟩), .pointer (some ⟨M, 0, none⟩), .pointer (some ⟨N, 0, none⟩)])] 180)) M (k == 2 || k == 3)) := hM
      have HN2 : Hid (TBox (wr.alloc (.cells #[.int .i64 1, (.func (.func 149) #[] #[.pointer (some ⟨B, 0, none⟩), .pointer (some ⟨M, 0, none⟩), .pointer (some ⟨N, 0, none⟩)])] 180)) N (p == -1)) := hN
      clear hX hM hN hA ba HX HM HN
      cases hq : ansN ⟨k, p, e, s, t, rs⟩ 4 with
      | true =>
        have he := check_hit ⟨k, p, e, s, t, rs⟩ 4 (by omega) HF.out hq
        rw [hq] at HC
        go_wp2_with (go_at_call 149; refine HC.mono ?_; rintro r w3 ⟨rfl, b3⟩; have q1 := (b3.cell (p := ⟨wr.heap.size, 0, none⟩) hlt).trans q0; clear q0)
        go_ret
        exact ⟨by rw [he]; rfl, hb.trans ((BA.out.trans (b3.mono BA.out.size)).mono hb.size)⟩
      | false =>
        have HF2 : Hid (∀ i, i < 4 + 1 → ansN ⟨k, p, e, s, t, rs⟩ i = false) := fun i hi => by
          rcases Nat.lt_or_ge i 4 with h | h
          · exact HF.out i h
          · obtain rfl : i = 4 := by omega
            exact hq
        rw [hq] at HC
        go_wp2_with (go_at_call 149; refine HC.mono ?_; rintro r w3 ⟨rfl, b3⟩)
        go_roundw
        case rel => exact ⟨5, by omega, by go_num, HF2, hb.trans ((BA.out.trans (b3.mono BA.out.size)).mono hb.size), HX2.out.later b3, HM2.out.later b3, HN2.out.later b3⟩
        case measure => simp [intOf]
    · have ba : Below wr.heap.size wr (wr.alloc (.cells #[.int .i64 6, (.func (.func 150) #[] #[.pointer (some ⟨M, 0, none⟩), .pointer (some ⟨B, 0, none⟩)])] 180)) := (Below.refl _ _).alloc (Nat.le_refl _) _
      have hX := HX.out.later ba
      have hM := HM.out.later ba
      have hN := HN.out.later ba
      have hA := HA.out.later (hb.trans (ba.mono hb.size))
      have HC : Calls Tryz.prog 150 #[.pointer (some ⟨M, 0, none⟩), .pointer (some ⟨B, 0, none⟩)] (wr.alloc (.cells #[.int .i64 6, (.func (.func 150) #[] #[.pointer (some ⟨M, 0, none⟩), .pointer (some ⟨B, 0, none⟩)])] 180)) fun r w' => r = .returned (.bool (ansN ⟨k, p, e, s, t, rs⟩ 5)) ∧ Below (wr.alloc (.cells #[.int .i64 6, (.func (.func 150) #[] #[.pointer (some ⟨M, 0, none⟩), .pointer (some ⟨B, 0, none⟩)])] 180)).heap.size (wr.alloc (.cells #[.int .i64 6, (.func (.func 150) #[] #[.pointer (some ⟨M, 0, none⟩), .pointer (some ⟨B, 0, none⟩)])] 180)) w' := by
        refine (ask6 hX hM).mono ?_
        rintro r w' ⟨rfl, hb⟩
        exact ⟨by rw [← HL.out]; rfl, hb⟩
      have q0 : (wr.alloc (.cells #[.int .i64 6, (.func (.func 150) #[] #[.pointer (some ⟨M, 0, none⟩), .pointer (some ⟨B, 0, none⟩)])] 180)).cell? ⟨wr.heap.size, 0, none⟩ = some (.int .i64 6) := by rw [cell_of_row _ _ 0 _ _ _ (heap_alloc_new wr _)]; rfl
      have hlt : wr.heap.size < (wr.alloc (.cells #[.int .i64 6, (.func (.func 150) #[] #[.pointer (some ⟨M, 0, none⟩), .pointer (some ⟨B, 0, none⟩)])] 180)).heap.size := by simp
      have HI := asks_at5 B M N
      have BA : Hid (Below wr.heap.size wr (wr.alloc (.cells #[.int .i64 6, (.func (.func 150) #[] #[.pointer (some ⟨M, 0, none⟩), .pointer (some ⟨B, 0, none⟩)])] 180))) := ba
      have HX2 : Hid (BBox (wr.alloc (.cells #[.int .i64 6, (.func (.func 150) #[] #[.pointer (some ⟨M, 0, none⟩), .pointer (some ⟨B, 0, none⟩)])] 180)) B k p e s t (.slice ad len cap)) := hX
      have HM2 : Hid (TBox (wr.alloc (.cells #[.int .i64 6, (.func (.func 150) #[] #[.pointer (some ⟨M, 0, none⟩), .pointer (some ⟨B, 0, none⟩)])] 180)) M (k == 2 || k == 3)) := hM
      have HN2 : Hid (TBox (wr.alloc (.cells #[.int .i64 6, (.func (.func 150) #[] #[.pointer (some ⟨M, 0, none⟩), .pointer (some ⟨B, 0, none⟩)])] 180)) N (p == -1)) := hN
      clear hX hM hN hA ba HX HM HN
      cases hq : ansN ⟨k, p, e, s, t, rs⟩ 5 with
      | true =>
        have he := check_hit ⟨k, p, e, s, t, rs⟩ 5 (by omega) HF.out hq
        rw [hq] at HC
        go_wp2_with (go_at_call 150; refine HC.mono ?_; rintro r w3 ⟨rfl, b3⟩; have q1 := (b3.cell (p := ⟨wr.heap.size, 0, none⟩) hlt).trans q0; clear q0)
        go_ret
        exact ⟨by rw [he]; rfl, hb.trans ((BA.out.trans (b3.mono BA.out.size)).mono hb.size)⟩
      | false =>
        have HF2 : Hid (∀ i, i < 5 + 1 → ansN ⟨k, p, e, s, t, rs⟩ i = false) := fun i hi => by
          rcases Nat.lt_or_ge i 5 with h | h
          · exact HF.out i h
          · obtain rfl : i = 5 := by omega
            exact hq
        rw [hq] at HC
        go_wp2_with (go_at_call 150; refine HC.mono ?_; rintro r w3 ⟨rfl, b3⟩)
        go_roundw
        case rel => exact ⟨6, by omega, by go_num, HF2, hb.trans ((BA.out.trans (b3.mono BA.out.size)).mono hb.size), HX2.out.later b3, HM2.out.later b3, HN2.out.later b3⟩
        case measure => simp [intOf]
    · have ba : Below wr.heap.size wr (wr.alloc (.cells #[.int .i64 6, (.func (.func 151) #[] #[.pointer (some ⟨B, 0, none⟩)])] 180)) := (Below.refl _ _).alloc (Nat.le_refl _) _
      have hX := HX.out.later ba
      have hM := HM.out.later ba
      have hN := HN.out.later ba
      have hA := HA.out.later (hb.trans (ba.mono hb.size))
      have HC : Calls Tryz.prog 151 #[.pointer (some ⟨B, 0, none⟩)] (wr.alloc (.cells #[.int .i64 6, (.func (.func 151) #[] #[.pointer (some ⟨B, 0, none⟩)])] 180)) fun r w' => r = .returned (.bool (ansN ⟨k, p, e, s, t, rs⟩ 6)) ∧ Below (wr.alloc (.cells #[.int .i64 6, (.func (.func 151) #[] #[.pointer (some ⟨B, 0, none⟩)])] 180)).heap.size (wr.alloc (.cells #[.int .i64 6, (.func (.func 151) #[] #[.pointer (some ⟨B, 0, none⟩)])] 180)) w' := by
        refine (ask7 hX hA).mono ?_
        rintro r w' ⟨rfl, hb⟩
        exact ⟨by rfl, hb⟩
      have q0 : (wr.alloc (.cells #[.int .i64 6, (.func (.func 151) #[] #[.pointer (some ⟨B, 0, none⟩)])] 180)).cell? ⟨wr.heap.size, 0, none⟩ = some (.int .i64 6) := by rw [cell_of_row _ _ 0 _ _ _ (heap_alloc_new wr _)]; rfl
      have hlt : wr.heap.size < (wr.alloc (.cells #[.int .i64 6, (.func (.func 151) #[] #[.pointer (some ⟨B, 0, none⟩)])] 180)).heap.size := by simp
      have HI := asks_at6 B M N
      have BA : Hid (Below wr.heap.size wr (wr.alloc (.cells #[.int .i64 6, (.func (.func 151) #[] #[.pointer (some ⟨B, 0, none⟩)])] 180))) := ba
      have HX2 : Hid (BBox (wr.alloc (.cells #[.int .i64 6, (.func (.func 151) #[] #[.pointer (some ⟨B, 0, none⟩)])] 180)) B k p e s t (.slice ad len cap)) := hX
      have HM2 : Hid (TBox (wr.alloc (.cells #[.int .i64 6, (.func (.func 151) #[] #[.pointer (some ⟨B, 0, none⟩)])] 180)) M (k == 2 || k == 3)) := hM
      have HN2 : Hid (TBox (wr.alloc (.cells #[.int .i64 6, (.func (.func 151) #[] #[.pointer (some ⟨B, 0, none⟩)])] 180)) N (p == -1)) := hN
      clear hX hM hN hA ba HX HM HN
      cases hq : ansN ⟨k, p, e, s, t, rs⟩ 6 with
      | true =>
        have he := check_hit ⟨k, p, e, s, t, rs⟩ 6 (by omega) HF.out hq
        rw [hq] at HC
        go_wp2_with (go_at_call 151; refine HC.mono ?_; rintro r w3 ⟨rfl, b3⟩; have q1 := (b3.cell (p := ⟨wr.heap.size, 0, none⟩) hlt).trans q0; clear q0)
        go_ret
        exact ⟨by rw [he]; rfl, hb.trans ((BA.out.trans (b3.mono BA.out.size)).mono hb.size)⟩
      | false =>
        have HF2 : Hid (∀ i, i < 6 + 1 → ansN ⟨k, p, e, s, t, rs⟩ i = false) := fun i hi => by
          rcases Nat.lt_or_ge i 6 with h | h
          · exact HF.out i h
          · obtain rfl : i = 6 := by omega
            exact hq
        rw [hq] at HC
        go_wp2_with (go_at_call 151; refine HC.mono ?_; rintro r w3 ⟨rfl, b3⟩)
        go_roundw
        case rel => exact ⟨7, by omega, by go_num, HF2, hb.trans ((BA.out.trans (b3.mono BA.out.size)).mono hb.size), HX2.out.later b3, HM2.out.later b3, HN2.out.later b3⟩
        case measure => simp [intOf]
    · have ba : Below wr.heap.size wr (wr.alloc (.cells #[.int .i64 53, (.func (.func 154) #[] #[.pointer (some ⟨B, 0, none⟩)])] 180)) := (Below.refl _ _).alloc (Nat.le_refl _) _
      have hX := HX.out.later ba
      have hM := HM.out.later ba
      have hN := HN.out.later ba
      have hA := HA.out.later (hb.trans (ba.mono hb.size))
      have hl64 : len ≤ 64 := by rw [← HL.out]; exact ans_few (b := ⟨k, p, e, s, t, rs⟩) (HF.out 5 (by omega))
      have HC : Calls Tryz.prog 154 #[.pointer (some ⟨B, 0, none⟩)] (wr.alloc (.cells #[.int .i64 53, (.func (.func 154) #[] #[.pointer (some ⟨B, 0, none⟩)])] 180)) fun r w' => r = .returned (.bool (ansN ⟨k, p, e, s, t, rs⟩ 7)) ∧ Below (wr.alloc (.cells #[.int .i64 53, (.func (.func 154) #[] #[.pointer (some ⟨B, 0, none⟩)])] 180)).heap.size (wr.alloc (.cells #[.int .i64 53, (.func (.func 154) #[] #[.pointer (some ⟨B, 0, none⟩)])] 180)) w' := by
        refine (ask8 hX hl64).mono ?_
        rintro r w' ⟨rfl, hb⟩
        exact ⟨by rw [← HL.out]; rfl, hb⟩
      have q0 : (wr.alloc (.cells #[.int .i64 53, (.func (.func 154) #[] #[.pointer (some ⟨B, 0, none⟩)])] 180)).cell? ⟨wr.heap.size, 0, none⟩ = some (.int .i64 53) := by rw [cell_of_row _ _ 0 _ _ _ (heap_alloc_new wr _)]; rfl
      have hlt : wr.heap.size < (wr.alloc (.cells #[.int .i64 53, (.func (.func 154) #[] #[.pointer (some ⟨B, 0, none⟩)])] 180)).heap.size := by simp
      have HI := asks_at7 B M N
      have BA : Hid (Below wr.heap.size wr (wr.alloc (.cells #[.int .i64 53, (.func (.func 154) #[] #[.pointer (some ⟨B, 0, none⟩)])] 180))) := ba
      have HX2 : Hid (BBox (wr.alloc (.cells #[.int .i64 53, (.func (.func 154) #[] #[.pointer (some ⟨B, 0, none⟩)])] 180)) B k p e s t (.slice ad len cap)) := hX
      have HM2 : Hid (TBox (wr.alloc (.cells #[.int .i64 53, (.func (.func 154) #[] #[.pointer (some ⟨B, 0, none⟩)])] 180)) M (k == 2 || k == 3)) := hM
      have HN2 : Hid (TBox (wr.alloc (.cells #[.int .i64 53, (.func (.func 154) #[] #[.pointer (some ⟨B, 0, none⟩)])] 180)) N (p == -1)) := hN
      clear hX hM hN hA ba HX HM HN
      cases hq : ansN ⟨k, p, e, s, t, rs⟩ 7 with
      | true =>
        have he := check_hit ⟨k, p, e, s, t, rs⟩ 7 (by omega) HF.out hq
        rw [hq] at HC
        go_wp2_with (go_at_call 154; refine HC.mono ?_; rintro r w3 ⟨rfl, b3⟩; have q1 := (b3.cell (p := ⟨wr.heap.size, 0, none⟩) hlt).trans q0; clear q0)
        go_ret
        exact ⟨by rw [he]; rfl, hb.trans ((BA.out.trans (b3.mono BA.out.size)).mono hb.size)⟩
      | false =>
        have HF2 : Hid (∀ i, i < 7 + 1 → ansN ⟨k, p, e, s, t, rs⟩ i = false) := fun i hi => by
          rcases Nat.lt_or_ge i 7 with h | h
          · exact HF.out i h
          · obtain rfl : i = 7 := by omega
            exact hq
        rw [hq] at HC
        go_wp2_with (go_at_call 154; refine HC.mono ?_; rintro r w3 ⟨rfl, b3⟩)
        go_roundw
        case rel => exact ⟨8, by omega, by go_num, HF2, hb.trans ((BA.out.trans (b3.mono BA.out.size)).mono hb.size), HX2.out.later b3, HM2.out.later b3, HN2.out.later b3⟩
        case measure => simp [intOf]
    · have ba : Below wr.heap.size wr (wr.alloc (.cells #[.int .i64 6, (.func (.func 155) #[] #[.pointer (some ⟨B, 0, none⟩)])] 180)) := (Below.refl _ _).alloc (Nat.le_refl _) _
      have hX := HX.out.later ba
      have hM := HM.out.later ba
      have hN := HN.out.later ba
      have hA := HA.out.later (hb.trans (ba.mono hb.size))
      have hl64 : len ≤ 64 := by rw [← HL.out]; exact ans_few (b := ⟨k, p, e, s, t, rs⟩) (HF.out 5 (by omega))
      have hok := ans_ok (b := ⟨k, p, e, s, t, rs⟩) (HF.out 6 (by omega))
      have HC : Calls Tryz.prog 155 #[.pointer (some ⟨B, 0, none⟩)] (wr.alloc (.cells #[.int .i64 6, (.func (.func 155) #[] #[.pointer (some ⟨B, 0, none⟩)])] 180)) fun r w' => r = .returned (.bool (ansN ⟨k, p, e, s, t, rs⟩ 8)) ∧ Below (wr.alloc (.cells #[.int .i64 6, (.func (.func 155) #[] #[.pointer (some ⟨B, 0, none⟩)])] 180)).heap.size (wr.alloc (.cells #[.int .i64 6, (.func (.func 155) #[] #[.pointer (some ⟨B, 0, none⟩)])] 180)) w' := by
        refine (ask9 hX hA hl64 hok).mono ?_
        rintro r w' ⟨rfl, hb⟩
        exact ⟨by rfl, hb⟩
      have q0 : (wr.alloc (.cells #[.int .i64 6, (.func (.func 155) #[] #[.pointer (some ⟨B, 0, none⟩)])] 180)).cell? ⟨wr.heap.size, 0, none⟩ = some (.int .i64 6) := by rw [cell_of_row _ _ 0 _ _ _ (heap_alloc_new wr _)]; rfl
      have hlt : wr.heap.size < (wr.alloc (.cells #[.int .i64 6, (.func (.func 155) #[] #[.pointer (some ⟨B, 0, none⟩)])] 180)).heap.size := by simp
      have HI := asks_at8 B M N
      have BA : Hid (Below wr.heap.size wr (wr.alloc (.cells #[.int .i64 6, (.func (.func 155) #[] #[.pointer (some ⟨B, 0, none⟩)])] 180))) := ba
      have HX2 : Hid (BBox (wr.alloc (.cells #[.int .i64 6, (.func (.func 155) #[] #[.pointer (some ⟨B, 0, none⟩)])] 180)) B k p e s t (.slice ad len cap)) := hX
      have HM2 : Hid (TBox (wr.alloc (.cells #[.int .i64 6, (.func (.func 155) #[] #[.pointer (some ⟨B, 0, none⟩)])] 180)) M (k == 2 || k == 3)) := hM
      have HN2 : Hid (TBox (wr.alloc (.cells #[.int .i64 6, (.func (.func 155) #[] #[.pointer (some ⟨B, 0, none⟩)])] 180)) N (p == -1)) := hN
      clear hX hM hN hA ba HX HM HN
      cases hq : ansN ⟨k, p, e, s, t, rs⟩ 8 with
      | true =>
        have he := check_hit ⟨k, p, e, s, t, rs⟩ 8 (by omega) HF.out hq
        rw [hq] at HC
        go_wp2_with (go_at_call 155; refine HC.mono ?_; rintro r w3 ⟨rfl, b3⟩; have q1 := (b3.cell (p := ⟨wr.heap.size, 0, none⟩) hlt).trans q0; clear q0)
        go_ret
        exact ⟨by rw [he]; rfl, hb.trans ((BA.out.trans (b3.mono BA.out.size)).mono hb.size)⟩
      | false =>
        have HF2 : Hid (∀ i, i < 8 + 1 → ansN ⟨k, p, e, s, t, rs⟩ i = false) := fun i hi => by
          rcases Nat.lt_or_ge i 8 with h | h
          · exact HF.out i h
          · obtain rfl : i = 8 := by omega
            exact hq
        rw [hq] at HC
        go_wp2_with (go_at_call 155; refine HC.mono ?_; rintro r w3 ⟨rfl, b3⟩)
        go_roundw
        case rel => exact ⟨9, by omega, by go_num, HF2, hb.trans ((BA.out.trans (b3.mono BA.out.size)).mono hb.size), HX2.out.later b3, HM2.out.later b3, HN2.out.later b3⟩
        case measure => simp [intOf]
    · have he := check_none ⟨k, p, e, s, t, rs⟩ HF.out
      go_wp2
      go_ret
      exact ⟨by rw [he]; rfl, hb⟩
end Go.Proofs.YtdifchlbnilenaaGreat
