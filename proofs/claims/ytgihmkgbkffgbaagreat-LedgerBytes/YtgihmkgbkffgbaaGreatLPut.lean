/- PutEntry of package ledger: an entry as bytes. -/
import Derived.Test.YtgihmkgbkffgbaaGreatPZGt
import Derived.Test.YtgihmkgbkffgbaaGreatPZFd
import Derived.Test.YtgihmkgbkffgbaaGreatPZJoin
import Derived.Test.YtgihmkgbkffgbaaGreatPZEnc
namespace Go.Proofs.YtgihmkgbkffgbaaGreat
open Go.RowKit
variable {w w' : World}

/-- P1302, PutEntry: the error's number and the bytes. -/
def putE (x : Et) : Int × List Nat := if mayE x = false then (1, []) else frameN (x.kind + 15) (if x.kind = 1 then (encodeN x.b).2 else tell13 x.n)
theorem mayE_nums {kd nn : Int} {b : Bat} (h : mayE ⟨kd, nn, b⟩ = true) : (kd = 1 ∨ kd = 2 ∨ kd = 3) ∧ 0 ≤ nn ∧ nn ≤ 281474976710656 ∧ (kd = 1 → checkN b = 0) := by
  unfold mayE at h
  dsimp only at h
  by_cases h1 : kd = 1
  · rw [if_pos h1] at h
    simp only [Bool.and_eq_true, beq_iff_eq] at h
    exact ⟨Or.inl h1, by omega, by omega, fun _ => h.2⟩
  · rw [if_neg h1] at h
    by_cases h2 : kd = 2 ∨ kd = 3
    · rw [if_pos h2] at h
      simp only [Bool.and_eq_true, decide_eq_true_eq] at h
      exact ⟨Or.inr h2, h.1.1, h.1.2, fun h3 => absurd h3 h1⟩
    · rw [if_neg h2] at h; cases h
theorem writeN_small {b : Bat} (h : checkN b = 0) : (encodeN b).2.length ≤ 9223372036854775807 := by
  unfold encodeN
  rw [if_pos h]
  have h1 := writeN_length b
  have h2 := (checkN_ok h).2.2.2.2
  show (writeN b).length ≤ _
  omega
set_option maxRecDepth 20000 in
set_option maxHeartbeats 2000000 in
theorem putEntry_any (kd nn k p e q : Int) (tx : Bool) (rs : List Rec) (ad : Option Addr) (len cap : Nat) (w : World) (h : BArg w ⟨k, p, e, q, tx, rs⟩ ad len cap) : Calls Tryz.prog 11 #[.agg #[.int .i64 kd, .int .i64 nn, .int .i64 k, .int .i64 p, .int .i64 e, .int .i64 q, .bool tx, .slice ad len cap]] w fun x w' => ∃ v, x = .returned (.tuple #[v, .int .i64 (putE ⟨kd, nn, ⟨k, p, e, q, tx, rs⟩⟩).1]) ∧ Own w' w.heap.size v (putE ⟨kd, nn, ⟨k, p, e, q, tx, rs⟩⟩).2 ∧ Below w.heap.size w w' := by
  obtain ⟨W0, hW0⟩ : ∃ W0, w.alloc (.cells #[.int .i64 kd, .int .i64 nn, .int .i64 k, .int .i64 p, .int .i64 e, .int .i64 q, .bool tx, .slice ad len cap] 27) = W0 := ⟨_, rfl⟩
  have b0 : Below w.heap.size w W0 := by rw [← hW0]; exact (Below.refl _ _).alloc (Nat.le_refl _) _
  have X0 : Blk W0 w.heap.size #[.int .i64 kd, .int .i64 nn, .int .i64 k, .int .i64 p, .int .i64 e, .int .i64 q, .bool tx, .slice ad len cap] 27 := by rw [← hW0]; exact heap_alloc_new w _
  have HMy := hid (mayBe13_any kd nn k p e q tx rs ad len cap W0 (h.later b0))
  have HBa := hid (h.later b0)
  have HB0 := hid b0
  have HX := hid X0
  have lx := X0.lt
  have c0 := X0.cell 0
  have c1 := X0.cell 1
  have c2 := X0.cell 2
  have c3 := X0.cell 3
  have c4 := X0.cell 4
  have c5 := X0.cell 5
  have c6 := X0.cell 6
  have c7 := X0.cell 7
  simp only [List.getElem?_toArray, List.getElem?_cons_zero, List.getElem?_cons_succ] at c0 c1 c2 c3 c4 c5 c6 c7
  clear h b0 X0
  cases hm : mayE ⟨kd, nn, ⟨k, p, e, q, tx, rs⟩⟩ with
  | false =>
    have HP : Hid (putE ⟨kd, nn, ⟨k, p, e, q, tx, rs⟩⟩ = (1, [])) := if_pos hm
    rw [hm] at HMy
    clear hm
    go_enter Tryz.func11, Tryz.ntmps11
    go_wp2_with (go_at_call 28; (with_reducible_and_instances (refine HMy.out.mono ?_)); rintro x W1 ⟨rfl, hb1⟩; have HB1 := hid (HB0.out.trans (hb1.mono HB0.out.size)); clear hb1)
    refine bodyPost_ret (results_tmp2 Tryz.results11 _ _ _) rfl ⟨_, by rw [HP.out]; rfl, by rw [HP.out]; exact Own.nil _ _, HB1.out⟩
  | true =>
    obtain ⟨hkd, hn0, hn1, hck⟩ := mayE_nums hm
    rw [hm] at HMy
    by_cases hk : kd = 1
    · subst hk
      have HP : Hid (putE ⟨1, nn, ⟨k, p, e, q, tx, rs⟩⟩ = frameN 16 (encodeN ⟨k, p, e, q, tx, rs⟩).2) := by unfold putE; rw [if_neg (by rw [hm]; simp)]; exact rfl
      have hbl := writeN_small (hck rfl)
      obtain ⟨mb, hmb⟩ : ∃ mb, (encodeN ⟨k, p, e, q, tx, rs⟩).2.length = mb := ⟨_, rfl⟩
      rw [hmb] at hbl
      have HMb := hid hmb
      clear hm hkd hck hmb
      go_enter Tryz.func11, Tryz.ntmps11
      go_wp2_with (first
        | (go_at_call 28; (with_reducible_and_instances (refine HMy.out.mono ?_)); rintro x W1 ⟨rfl, hb1⟩; have hx1 := HX.out.later hb1; have d0 := hx1.cell 0; have d1 := hx1.cell 1; have d2 := hx1.cell 2; have d3 := hx1.cell 3; have d4 := hx1.cell 4; have d5 := hx1.cell 5; have d6 := hx1.cell 6; have d7 := hx1.cell 7; simp only [List.getElem?_toArray, List.getElem?_cons_zero, List.getElem?_cons_succ] at d0 d1 d2 d3 d4 d5 d6 d7; have lx1 := hx1.lt; have HX1 := hid hx1; have HB1 := hid hb1; have HT1 := hid (tellNumber_any nn (by omega) (by omega) W1); clear hx1 hb1)
        | (go_at_call 29; (with_reducible_and_instances (refine HT1.out.mono ?_)); rintro x W2 ⟨v2, rfl, ho2, hb2⟩; have hx2 := HX1.out.later hb2; have f0 := hx2.cell 0; have f1 := hx2.cell 1; have f2 := hx2.cell 2; have f3 := hx2.cell 3; have f4 := hx2.cell 4; have f5 := hx2.cell 5; have f6 := hx2.cell 6; have f7 := hx2.cell 7; simp only [List.getElem?_toArray, List.getElem?_cons_zero, List.getElem?_cons_succ] at f0 f1 f2 f3 f4 f5 f6 f7; have lx2 := hx2.lt; have HB2 := hid (HB1.out.trans (hb2.mono HB1.out.size)); have HEn := hid (encode_any k p e q tx rs ad len cap W2 (HBa.out.later HB2.out)); clear ho2; clear hx2 hb2 d0 d1 d2 d3 d4 d5 d6 d7)
        | (go_at_call 30; (with_reducible_and_instances (refine HEn.out.mono ?_)); rintro x W3 ⟨v3, rfl, ho3, hb3⟩; obtain ⟨a3, c3, hv3, hq3, -, -⟩ := ho3.slice mb HMb.out; subst hv3; have HF3 := hid (frame_any 16 a3 mb c3 _ W3 hq3 (by unfold maxLen; omega)); have HB3 := hid (HB2.out.trans (hb3.mono HB2.out.size)); have hx3 := (HX.out.later HB3.out); have g0 := hx3.cell 0; simp only [List.getElem?_toArray, List.getElem?_cons_zero] at g0; have lx3 := hx3.lt; clear ho3 hb3 hq3 hx3 HEn)
        | (go_at_call 31; (with_reducible_and_instances (refine HF3.out.mono ?_)); rintro x W4 ⟨v4, rfl, ho4, hb4⟩; have HO4 := hid ho4; have HB4 := hid (HB0.out.trans ((HB3.out.trans (hb4.mono HB3.out.size)).mono HB0.out.size)); have hsz := HB3.out.size; clear ho4 hb4))
      refine bodyPost_ret (results_tmp2 Tryz.results11 _ _ _) rfl ⟨_, by rw [HP.out]; rfl, by rw [HP.out]; exact HO4.out.down (by have := HB0.out.size; omega), HB4.out⟩
    · have HP : Hid (putE ⟨kd, nn, ⟨k, p, e, q, tx, rs⟩⟩ = frameN (kd + 15) (tell13 nn)) := by unfold putE; rw [if_neg (by rw [hm]; simp), if_neg hk]; exact rfl
      have hk' : (kd == 1) = false := by simpa using hk
      have hwk : IntKind.i64.wrap (kd + 15) = kd + 15 := by rw [IntKind.wrap_i64]; omega
      obtain ⟨mb, hmb⟩ : ∃ mb, (tell13 nn).length = mb := ⟨_, rfl⟩
      have hbl : mb ≤ 7 := by rw [← hmb]; unfold tell13; split; exact Nat.le_refl _; rw [spellN_length]; omega
      have HMb := hid hmb
      clear hm hkd hck hmb
      go_enter Tryz.func11, Tryz.ntmps11
      go_wp2_with (first
        | (go_at_call 28; (with_reducible_and_instances (refine HMy.out.mono ?_)); rintro x W1 ⟨rfl, hb1⟩; have hx1 := HX.out.later hb1; have d0 := hx1.cell 0; have d1 := hx1.cell 1; have d2 := hx1.cell 2; have d3 := hx1.cell 3; have d4 := hx1.cell 4; have d5 := hx1.cell 5; have d6 := hx1.cell 6; have d7 := hx1.cell 7; simp only [List.getElem?_toArray, List.getElem?_cons_zero, List.getElem?_cons_succ] at d0 d1 d2 d3 d4 d5 d6 d7; have lx1 := hx1.lt; have HX1 := hid hx1; have HB1 := hid hb1; have HT1 := hid (tellNumber_any nn (by omega) (by omega) W1); clear hx1 hb1)
        | (go_at_call 29; (with_reducible_and_instances (refine HT1.out.mono ?_)); rintro x W2 ⟨v2, rfl, ho2, hb2⟩; have hx2 := HX1.out.later hb2; have f0 := hx2.cell 0; have f1 := hx2.cell 1; have f2 := hx2.cell 2; have f3 := hx2.cell 3; have f4 := hx2.cell 4; have f5 := hx2.cell 5; have f6 := hx2.cell 6; have f7 := hx2.cell 7; simp only [List.getElem?_toArray, List.getElem?_cons_zero, List.getElem?_cons_succ] at f0 f1 f2 f3 f4 f5 f6 f7; have lx2 := hx2.lt; have HB2 := hid (HB1.out.trans (hb2.mono HB1.out.size)); obtain ⟨a3, c3, hv3, hq3, -, -⟩ := ho2.slice mb HMb.out; subst hv3; have HF3 := hid (frame_any (kd + 15) a3 mb c3 _ W2 hq3 (by unfold maxLen; omega)); clear ho2 hq3; clear hx2 hb2 d0 d1 d2 d3 d4 d5 d6 d7)
        | (go_at_call 31; (with_reducible_and_instances (refine HF3.out.mono ?_)); rintro x W4 ⟨v4, rfl, ho4, hb4⟩; have HO4 := hid ho4; have HB4 := hid (HB0.out.trans ((HB2.out.trans (hb4.mono HB2.out.size)).mono HB0.out.size)); have hsz := HB2.out.size; clear ho4 hb4))
      refine bodyPost_ret (results_tmp2 Tryz.results11 _ _ _) rfl ⟨_, by rw [HP.out]; rfl, by rw [HP.out]; exact HO4.out.down (by have := HB0.out.size; omega), HB4.out⟩
end Go.Proofs.YtgihmkgbkffgbaaGreat
