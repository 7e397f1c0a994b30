/- PutEntry of package ledger: an entry as bytes. P1307 over plain data: an entry that was put is got as it was. -/
import Derived.Test.YtfgamkcnnijloaaGreatPZGt
import Derived.Test.YtfgamkcnnijloaaGreatPZFd
import Derived.Test.YtfgamkcnnijloaaGreatPZJoin
import Derived.Test.YtfgamkcnnijloaaGreatPZEnc
namespace Go.Proofs.YtfgamkcnnijloaaGreat
open Go.RowKit
variable {w w' : World}

/-- P1302, PutEntry: the error's number and the bytes. -/
def putE (x : Et) : Int × List Nat := if mayE x = false then (1, []) else frameN (x.kind + 15) (if x.kind = 1 then (encodeN x.b).2 else tell13 x.n)
theorem mayE_nums {kd nn : Int} {b : Bat} (h : mayE ⟨kd, nn, b⟩ = true) : (kd = 1 ∨ kd = 2 ∨ kd = 3) ∧ 0 ≤ nn ∧ nn ≤ 281474976710656 ∧ (kd = 1 → checkN b = 0) := by
  unfold mayE at h
  dsimp only at h
  by_cases h1 : kd = 1
  · rw [if_pos h1] at h
    simp only [Bool.and_eq_true, beq_iff_eq] at h
    exact ⟨Or.inl h1, by omega, by omega, fun _ => h.2⟩
  · rw [if_neg h1] at h
    by_cases h2 : kd = 2 ∨ kd = 3
    · rw [if_pos h2] at h
      simp only [Bool.and_eq_true, decide_eq_true_eq] at h
      exact ⟨Or.inr h2, h.1.1, h.1.2, fun h3 => absurd h3 h1⟩
    · rw [if_neg h2] at h; cases h
theorem writeN_small {b : Bat} (h : checkN b = 0) : (encodeN b).2.length ≤ 9223372036854775807 := by
  unfold encodeN
  rw [if_pos h]
  have h1 := writeN_length b
  have h2 := (checkN_ok h).2.2.2.2
  show (writeN b).length ≤ _
  omega
set_option maxRecDepth 20000 in
set_option maxHeartbeats 2000000 in
theorem putEntry_any (kd nn k p e q : Int) (tx : Bool) (rs : List Rec) (ad : Option Addr) (len cap : Nat) (w : World) (h : BArg w ⟨k, p, e, q, tx, rs⟩ ad len cap) : Calls Tryz.prog 16 #[.agg #[.int .i64 kd, .int .i64 nn, .int .i64 k, .int .i64 p, .int .i64 e, .int .i64 q, .bool tx, .slice ad len cap]] w fun x w' => ∃ v, x = .returned (.tuple #[v, .int .i64 (putE ⟨kd, nn, ⟨k, p, e, q, tx, rs⟩⟩).1]) ∧ Own w' w.heap.size v (putE ⟨kd, nn, ⟨k, p, e, q, tx, rs⟩⟩).2 ∧ Below w.heap.size w w' := by
  obtain ⟨W0, hW0⟩ : ∃ W0, w.alloc (.cells #[.int .i64 kd, .int .i64 nn, .int .i64 k, .int .i64 p, .int .i64 e, .int .i64 q, .bool tx, .slice ad len cap] 32) = W0 := ⟨_, rfl⟩
  have b0 : Below w.heap.size w W0 := by rw [← hW0]; exact (Below.refl _ _).alloc (Nat.le_refl _) _
  have X0 : Blk W0 w.heap.size #[.int .i64 kd, .int .i64 nn, .int .i64 k, .int .i64 p, .int .i64 e, .int .i64 q, .bool tx, .slice ad len cap] 32 := by rw [← hW0]; exact heap_alloc_new w _
  have HMy := hid (mayBe13_any kd nn k p e q tx rs ad len cap W0 (h.later b0))
  have HBa := hid (h.later b0)
  have HB0 := hid b0
  have HX := hid X0
  have lx := X0.lt
  have c0 := X0.cell 0
  have c1 := X0.cell 1
  have c2 := X0.cell 2
  have c3 := X0.cell 3
  have c4 := X0.cell 4
  have c5 := X0.cell 5
  have c6 := X0.cell 6
  have c7 := X0.cell 7
  simp only [List.getElem?_toArray, List.getElem?_cons_zero, List.getElem?_cons_succ] at c0 c1 c2 c3 c4 c5 c6 c7
  clear h b0 X0
  cases hm : mayE ⟨kd, nn, ⟨k, p, e, q, tx, rs⟩⟩ with
  | false =>
    have HP : Hid (putE ⟨kd, nn, ⟨k, p, e, q, tx, rs⟩⟩ = (1, [])) := if_pos hm
    rw [hm] at HMy
    clear hm
    go_enter Tryz.func16, Tryz.ntmps16
    go_wp2_with (go_at_call 24; (with_reducible_and_instances (refine HMy.out.mono ?_)); rintro x W1 ⟨rfl, hb1⟩; have HB1 := hid (HB0.out.trans (hb1.mono HB0.out.size)); clear hb1)
    refine bodyPost_ret (results_tmp2 Tryz.results16 _ _ _) rfl ⟨_, by rw [HP.out]; rfl, by rw [HP.out]; exact Own.nil _ _, HB1.out⟩
  | true =>
    obtain ⟨hkd, hn0, hn1, hck⟩ := mayE_nums hm
    rw [hm] at HMy
    by_cases hk : kd = 1
    · subst hk
      have HP : Hid (putE ⟨1, nn, ⟨k, p, e, q, tx, rs⟩⟩ = frameN 16 (encodeN ⟨k, p, e, q, tx, rs⟩).2) := by unfold putE; rw [if_neg (by rw [hm]; simp)]; exact rfl
      have hbl := writeN_small (hck rfl)
      obtain ⟨mb, hmb⟩ : ∃ mb, (encodeN ⟨k, p, e, q, tx, rs⟩).2.length = mb := ⟨_, rfl⟩
      rw [hmb] at hbl
      have HMb := hid hmb
      clear hm hkd hck hmb
      go_enter Tryz.func16, Tryz.ntmps16
      go_wp2_with (first
        | (go_at_call 24; (with_reducible_and_instances (refine HMy.out.mono ?_)); rintro x W1 ⟨rfl, hb1⟩; have hx1 := HX.out.later hb1; have d0 := hx1.cell 0; have d1 := hx1.cell 1; have d2 := hx1.cell 2; have d3 := hx1.cell 3; have d4 := hx1.cell 4; have d5 := hx1.cell 5; have d6 := hx1.cell 6; have d7 := hx1.cell 7; simp only [List.getElem?_toArray, List.getElem?_cons_zero, List.getElem?_cons_succ] at d0 d1 d2 d3 d4 d5 d6 d7; have lx1 := hx1.lt; have HX1 := hid hx1; have HB1 := hid hb1; have HT1 := hid (tellNumber_any nn (by omega) (by omega) W1); clear hx1 hb1)
        | (go_at_call 35; (with_reducible_and_instances (refine HT1.out.mono ?_)); rintro x W2 ⟨v2, rfl, ho2, hb2⟩; have hx2 := HX1.out.later hb2; have f0 := hx2.cell 0; have f1 := hx2.cell 1; have f2 := hx2.cell 2; have f3 := hx2.cell 3; have f4 := hx2.cell 4; have f5 := hx2.cell 5; have f6 := hx2.cell 6; have f7 := hx2.cell 7; simp only [List.getElem?_toArray, List.getElem?_cons_zero, List.getElem?_cons_succ] at f0 f1 f2 f3 f4 f5 f6 f7; have lx2 := hx2.lt; have HB2 := hid (HB1.out.trans (hb2.mono HB1.out.size)); have HEn := hid (encode_any k p e q tx rs ad len cap W2 (HBa.out.later HB2.out)); clear ho2; clear hx2 hb2 d0 d1 d2 d3 d4 d5 d6 d7)
        | (go_at_call 36; (with_reducible_and_instances (refine HEn.out.mono ?_)); rintro x W3 ⟨v3, rfl, ho3, hb3⟩; obtain ⟨a3, c3, hv3, hq3, -, -⟩ := ho3.slice mb HMb.out; subst hv3; have HF3 := hid (frame_any 16 a3 mb c3 _ W3 hq3 (by unfold maxLen; omega)); have HB3 := hid (HB2.out.trans (hb3.mono HB2.out.size)); have hx3 := (HX.out.later HB3.out); have g0 := hx3.cell 0; simp only [List.getElem?_toArray, List.getElem?_cons_zero] at g0; have lx3 := hx3.lt; clear ho3 hb3 hq3 hx3 HEn)
        | (go_at_call 37; (with_reducible_and_instances (refine HF3.out.mono ?_)); rintro x W4 ⟨v4, rfl, ho4, hb4⟩; have HO4 := hid ho4; have HB4 := hid (HB0.out.trans ((HB3.out.trans (hb4.mono HB3.out.size)).mono HB0.out.size)); have hsz := HB3.out.size; clear ho4 hb4))
      refine bodyPost_ret (results_tmp2 Tryz.results16 _ _ _) rfl ⟨_, by rw [HP.out]; rfl, by rw [HP.out]; exact HO4.out.down (by have := HB0.out.size; omega), HB4.out⟩
    · have HP : Hid (putE ⟨kd, nn, ⟨k, p, e, q, tx, rs⟩⟩ = frameN (kd + 15) (tell13 nn)) := by unfold putE; rw [if_neg (by rw [hm]; simp), if_neg hk]; exact rfl
      have hk' : (kd == 1) = false := by simpa using hk
      have hwk : IntKind.i64.wrap (kd + 15) = kd + 15 := by rw [IntKind.wrap_i64]; omega
      obtain ⟨mb, hmb⟩ : ∃ mb, (tell13 nn).length = mb := ⟨_, rfl⟩
      have hbl : mb ≤ 7 := by rw [← hmb]; unfold tell13; split; exact Nat.le_refl _; rw [spellN_length]; omega
      have HMb := hid hmb
      clear hm hkd hck hmb
      go_enter Tryz.func16, Tryz.ntmps16
      go_wp2_with (first
        | (go_at_call 24; (with_reducible_and_instances (refine HMy.out.mono ?_)); rintro x W1 ⟨rfl, hb1⟩; have hx1 := HX.out.later hb1; have d0 := hx1.cell 0; have d1 := hx1.cell 1; have d2 := hx1.cell 2; have d3 := hx1.cell 3; have d4 := hx1.cell 4; have d5 := hx1.cell 5; have d6 := hx1.cell 6; have d7 := hx1.cell 7; simp only [List.getElem?_toArray, List.getElem?_cons_zero, List.getElem?_cons_succ] at d0 d1 d2 d3 d4 d5 d6 d7; have lx1 := hx1.lt; have HX1 := hid hx1; have HB1 := hid hb1; have HT1 := hid (tellNumber_any nn (by omega) (by omega) W1); clear hx1 hb1)
        | (go_at_call 35; (with_reducible_and_instances (refine HT1.out.mono ?_)); rintro x W2 ⟨v2, rfl, ho2, hb2⟩; have hx2 := HX1.out.later hb2; have f0 := hx2.cell 0; have f1 := hx2.cell 1; have f2 := hx2.cell 2; have f3 := hx2.cell 3; have f4 := hx2.cell 4; have f5 := hx2.cell 5; have f6 := hx2.cell 6; have f7 := hx2.cell 7; simp only [List.getElem?_toArray, List.getElem?_cons_zero, List.getElem?_cons_succ] at f0 f1 f2 f3 f4 f5 f6 f7; have lx2 := hx2.lt; have HB2 := hid (HB1.out.trans (hb2.mono HB1.out.size)); obtain ⟨a3, c3, hv3, hq3, -, -⟩ := ho2.slice mb HMb.out; subst hv3; have HF3 := hid (frame_any (kd + 15) a3 mb c3 _ W2 hq3 (by unfold maxLen; omega)); clear ho2 hq3; clear hx2 hb2 d0 d1 d2 d3 d4 d5 d6 d7)
        | (go_at_call 37; (with_reducible_and_instances (refine HF3.out.mono ?_)); rintro x W4 ⟨v4, rfl, ho4, hb4⟩; have HO4 := hid ho4; have HB4 := hid (HB0.out.trans ((HB2.out.trans (hb4.mono HB2.out.size)).mono HB0.out.size)); have hsz := HB2.out.size; clear ho4 hb4))
      refine bodyPost_ret (results_tmp2 Tryz.results16 _ _ _) rfl ⟨_, by rw [HP.out]; rfl, by rw [HP.out]; exact HO4.out.down (by have := HB0.out.size; omega), HB4.out⟩
end Go.Proofs.YtfgamkcnnijloaaGreat
namespace Go.Proofs.YtfgamkcnnijloaaGreat
open Go.RowKit Crcm

theorem unframe_put (kind : Nat) (l : List Nat) (hk : kind ≤ 255) (hl : l.length ≤ 65536) : unframeN (frameBs kind l) 0 = ((kind : Int), l, ((frameBs kind l).length : Int), 0) := by
  have h := frame_back [] [] l kind 0 rfl hk hl
  rw [List.nil_append, List.append_nil, show ((0 : Nat) : Int) = 0 from rfl] at h
  rw [h, frameBs_length, Nat.zero_add]
theorem read_tell13 (n : Int) (h0 : 0 ≤ n) (h1 : n ≤ 281474976710656) : read13 (tell13 n) = (n, 0) := by
  by_cases h : n = 281474976710656
  · subst h
    have e : tell13 281474976710656 = [0, 0, 0, 0, 0, 0, 1] := if_pos rfl
    rw [e]
    exact if_pos rfl
  · obtain ⟨k, rfl⟩ := Int.eq_ofNat_of_zero_le h0
    have e : tell13 (k : Int) = spellN k 6 := if_neg h
    have hlen := spellN_length k 6
    rw [e]
    unfold read13
    have hg := getN_ok (spellN k 6) 0 6 (by omega) (by omega)
    rw [if_neg (by intro h2; rw [h2] at hlen; simp at hlen), show getN (spellN k 6) 0 6 = _ from hg]
    dsimp only
    rw [if_neg (by rintro ⟨-, h2⟩; rw [hlen] at h2; exact h2 rfl), List.drop_zero, List.take_of_length_le (by omega), valN_spellN, Nat.mod_eq_of_lt (by omega)]
theorem bare_is {b : Bat} (h : bareB b = true) : b = bat0 := by
  obtain ⟨k, p, e, s, t, rs⟩ := b
  unfold bareB at h
  simp only [Bool.and_eq_true, beq_iff_eq, Bool.not_eq_true', List.length_eq_zero_iff] at h
  obtain ⟨⟨⟨⟨⟨rfl, rfl⟩, rfl⟩, rfl⟩, rfl⟩, rfl⟩ := h
  rfl
theorem tell13_len (n : Int) : (tell13 n).length ≤ 65536 := by
  unfold tell13
  split
  · show 7 ≤ 65536; omega
  · rw [spellN_length]; omega
theorem get_put {x : Et} (h : mayE x = true) : getE (putE x).2 = (x, 0) := by
  obtain ⟨kd, nn, b⟩ := x
  unfold putE
  rw [if_neg (by rw [h]; simp)]
  unfold mayE at h
  dsimp only at h ⊢
  by_cases h1 : kd = 1
  · subst h1
    rw [if_pos rfl] at h ⊢
    simp only [Bool.and_eq_true, beq_iff_eq] at h
    obtain ⟨rfl, hc⟩ := h
    have hw : encodeN b = (0, writeN b) := by unfold encodeN; rw [if_pos hc]
    have hl : (writeN b).length ≤ 65536 := by
      have e1 := writeN_length b
      have e2 := (checkN_ok hc).2.2.2.2
      omega
    rw [hw, show (1 : Int) + 15 = ((16 : Nat) : Int) from rfl, frameN_ok 16 _ (by omega) hl]
    have hk16 : ((16 : Nat) : Int) = 16 := rfl
    have hu := unframe_put 16 (writeN b) (by omega) hl
    unfold getE
    rw [hu, if_neg (by simp)]
    dsimp only
    rw [hk16, if_pos rfl, decode_back b hc, if_neg (by simp)]
  · rw [if_neg h1] at h ⊢
    by_cases h2 : kd = 2 ∨ kd = 3
    · rw [if_pos h2] at h
      simp only [Bool.and_eq_true, decide_eq_true_eq] at h
      obtain ⟨⟨hn0, hn1⟩, hb⟩ := h
      obtain rfl := bare_is hb
      have hr := read_tell13 nn hn0 hn1
      rcases h2 with rfl | rfl
      · rw [show (2 : Int) + 15 = ((17 : Nat) : Int) from rfl, frameN_ok 17 _ (by omega) (tell13_len nn)]
        have hk17 : ((17 : Nat) : Int) = 17 := rfl
        have hu := unframe_put 17 (tell13 nn) (by omega) (tell13_len nn)
        unfold getE
        rw [hu, if_neg (by simp)]
        dsimp only
        rw [hk17, if_neg (by decide), if_pos (by decide), hr, if_neg (by simp)]
        rfl
      · rw [show (3 : Int) + 15 = ((18 : Nat) : Int) from rfl, frameN_ok 18 _ (by omega) (tell13_len nn)]
        have hk18 : ((18 : Nat) : Int) = 18 := rfl
        have hu := unframe_put 18 (tell13 nn) (by omega) (tell13_len nn)
        unfold getE
        rw [hu, if_neg (by simp)]
        dsimp only
        rw [hk18, if_neg (by decide), if_pos (by decide), hr, if_neg (by simp)]
        rfl
    · rw [if_neg h2] at h
      cases h
end Go.Proofs.YtfgamkcnnijloaaGreat
