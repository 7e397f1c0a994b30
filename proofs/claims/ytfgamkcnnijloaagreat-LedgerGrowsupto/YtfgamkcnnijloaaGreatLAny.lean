/- A ledger that a caller made: Apply and Decide of any entry, Start, End. -/
import Derived.Test.YtfgamkcnnijloaaGreatLAppA
import Derived.Test.YtfgamkcnnijloaaGreatLGrowM
import Derived.Test.YtfgamkcnnijloaaGreatLKnows
namespace Go.Proofs.YtfgamkcnnijloaaGreat
open Go.RowKit Go.Shelf
variable {w w' : World} {L t M n N : Nat} {vr vo va : Value} {g : Lg} {B : Nat}

theorem startL_any (h : LPic0 w L t M n N vr vo va g) : Calls Tryz.prog 18 #[.pointer (some ⟨L, 0, none⟩)] w fun r w' => r = .returned (.int .i64 g.start) ∧ w' = w := by
  have c1 := h.c1
  have lq := h.lt
  have HM := hid (madeL_any h.c0)
  clear h
  go_enter Tryz.func18, Tryz.ntmps18
  go_wp2_with (go_at_call 23; (with_reducible_and_instances (refine HM.out.mono ?_)); rintro x w1 ⟨rfl, hw1⟩; obtain rfl := hw1.symm)
  go_ret
  exact ⟨rfl, rfl⟩
theorem endL_any (h : LPic0 w L t M n N vr vo va g) : Calls Tryz.prog 10 #[.pointer (some ⟨L, 0, none⟩)] w fun r w' => r = .returned (.int .i64 g.fin) ∧ w' = w := by
  have c2 := h.c2
  have lq := h.lt
  have HM := hid (madeL_any h.c0)
  clear h
  go_enter Tryz.func10, Tryz.ntmps10
  go_wp2_with (go_at_call 23; (with_reducible_and_instances (refine HM.out.mono ?_)); rintro x w1 ⟨rfl, hw1⟩; obtain rfl := hw1.symm)
  go_ret
  exact ⟨rfl, rfl⟩
theorem LOf.start (h : LOf B w L n g) : Calls Tryz.prog 18 #[.pointer (some ⟨L, 0, none⟩)] w fun r w' => r = .returned (.int .i64 g.start) ∧ w' = w := by
  obtain ⟨t, M, vr, vo, va, n', h0, h1, h2, h3⟩ := h.ex
  exact startL_any h1.toLPic0
theorem LOf.fin (h : LOf B w L n g) : Calls Tryz.prog 10 #[.pointer (some ⟨L, 0, none⟩)] w fun r w' => r = .returned (.int .i64 g.fin) ∧ w' = w := by
  obtain ⟨t, M, vr, vo, va, n', h0, h1, h2, h3⟩ := h.ex
  exact endL_any h1.toLPic0
theorem LOf.ok (h : LOf B w L n g) : LgOk g := by
  obtain ⟨t, M, vr, vo, va, n', h0, h1, h2, h3⟩ := h.ex
  exact h1.ok
theorem LFew.room (h : LFew g n) (hn : n ≤ 1048576) : LRoom g := by
  have h1 := h.rows
  have h2 := h.opn
  have h3 := h.gone
  unfold maxLen at *
  exact ⟨by omega, ⟨by unfold maxLen; omega, by omega⟩, ⟨by unfold maxLen; omega, by omega⟩⟩
theorem mayE_kind {kd nn : Int} {b : Bat} (h : mayE ⟨kd, nn, b⟩ = true) (h1 : kd ≠ 1) : kd = 2 ∨ kd = 3 := by
  unfold mayE at h
  dsimp only at h
  rw [if_neg h1] at h
  by_cases h2 : kd = 2 ∨ kd = 3
  · exact h2
  · rw [if_neg h2] at h; cases h
theorem LOf.applyA (h : LOf B w L n g) (hf : LFew g n) (hn : n ≤ 1048576) (kd nn k p e q : Int) (tx : Bool) (rs : List Rec) (ad : Option Addr) (len cap : Nat) (hB : BArg w ⟨k, p, e, q, tx, rs⟩ ad len cap) (hT : RTyp w ad len) (G : Lg) (hG : G = appG g ⟨kd, nn, ⟨k, p, e, q, tx, rs⟩⟩) :
    Calls Tryz.prog 12 #[.pointer (some ⟨L, 0, none⟩), .agg #[.int .i64 kd, .int .i64 nn, .int .i64 k, .int .i64 p, .int .i64 e, .int .i64 q, .bool tx, .slice ad len cap]] w fun x w' => x = .returned (.tuple #[.int .i64 (decE g ⟨kd, nn, ⟨k, p, e, q, tx, rs⟩⟩).1, .int .i64 (decE g ⟨kd, nn, ⟨k, p, e, q, tx, rs⟩⟩).2.2]) ∧ LOf B w' L (n + 1) G ∧ Below B w w' := by
  obtain ⟨⟨o, dd, er⟩, hd⟩ : ∃ d, decE g ⟨kd, nn, ⟨k, p, e, q, tx, rs⟩⟩ = d := ⟨_, rfl⟩
  rw [hd]
  have hr := hf.room hn
  by_cases hk : kd = 1 ∨ mayE ⟨kd, nn, ⟨k, p, e, q, tx, rs⟩⟩ = false
  · exact h.apply (by omega) hr kd nn k p e q tx rs ad len cap hB hT hk o dd er hd G hG
  · have hm : mayE ⟨kd, nn, ⟨k, p, e, q, tx, rs⟩⟩ = true := by
      cases hm : mayE ⟨kd, nn, ⟨k, p, e, q, tx, rs⟩⟩ with
      | true => rfl
      | false => exact absurd (Or.inr hm) hk
    have hkd := mayE_kind hm (fun e => hk (Or.inl e))
    obtain ⟨t, M, vr, vo, va, n', h0, h1, h2, h3⟩ := h.ex
    have hro := hr.rows
    have hgo := hr.gone
    refine (ApplyL_keep h1 h.b (by omega) hf.keys (by omega) kd nn k p e q tx rs ad len cap hB hkd hm o dd er hd G hG).mono ?_
    rintro x w' ⟨rfl, hm2⟩
    have hb := LMv.base h1 hm2 h.l h3 (Nat.le_refl _) h.b
    obtain ⟨n2, vr', vo', va', e1, e2, -⟩ := hm2
    exact ⟨rfl, ⟨⟨t, M, vr', vo', va', n2, by omega, e2, h2, h3⟩, h.l, Nat.le_trans h.b hb.size⟩, hb⟩
theorem LOf.decideA (h : LOf B w L n g) (hf : LFew g n) (hn : n ≤ 1048576) (kd nn k p e q : Int) (tx : Bool) (rs : List Rec) (ad : Option Addr) (len cap : Nat) (hB : BArg w ⟨k, p, e, q, tx, rs⟩ ad len cap) :
    Calls Tryz.prog 11 #[.pointer (some ⟨L, 0, none⟩), .agg #[.int .i64 kd, .int .i64 nn, .int .i64 k, .int .i64 p, .int .i64 e, .int .i64 q, .bool tx, .slice ad len cap]] w fun x w' => x = .returned (decV (decE g ⟨kd, nn, ⟨k, p, e, q, tx, rs⟩⟩)) ∧ Below w.heap.size w w' := by
  have hr := (hf.room hn).rows
  obtain ⟨t, M, vr, vo, va, n', h0, h1, h2, h3⟩ := h.ex
  by_cases hk : kd = 1 ∨ mayE ⟨kd, nn, ⟨k, p, e, q, tx, rs⟩⟩ = false
  · exact DecideL_batch h1 (by omega) kd nn k p e q tx rs ad len cap hB hk
  · have hm : mayE ⟨kd, nn, ⟨k, p, e, q, tx, rs⟩⟩ = true := by
      cases hm : mayE ⟨kd, nn, ⟨k, p, e, q, tx, rs⟩⟩ with
      | true => rfl
      | false => exact absurd (Or.inr hm) hk
    have hkd := mayE_kind hm (fun e => hk (Or.inl e))
    exact DecideL_keep h1 hf.keys (by omega) kd nn k p e q tx rs ad len cap hB hkd hm
end Go.Proofs.YtfgamkcnnijloaaGreat
