/- What the writer's method head does of a batch that may be: the first 18 bytes. -/
import Derived.Test.YtmkdkclakndkpaaWriter
namespace Go.Proofs.Ytmkdkclakndkpaa
open Go.RowKit

set_option maxHeartbeats 4000000 in
theorem head_any (kn en sn : Nat) (p : Int) (t : Bool) (rs : List Rec) (ad : Option Addr) (len cap : Nat) (w : World) (N B : Nat) (v : Value) (h : Wr w N B v []) (hl : rs.length = len)
    (hk : kn ≤ 3) (hp : -1 ≤ p) (hp2 : p < 281474976710656) (he : en < 2147483648) (hs : sn ≤ 2147483648) (hlen : len ≤ 64) :
    Calls Try.prog 27 #[.pointer (some ⟨B, 0, none⟩), .agg #[.int .i64 kn, .int .i64 p, .int .i64 en, .int .i64 sn, .bool t, .slice ad len cap]] w fun x w' => ∃ v', x = .returned (.tuple #[]) ∧ Wr w' N B v' (headBs ⟨kn, p, en, sn, t, rs⟩) ∧ Keep N w w' := by
  have bA : Below w.heap.size w (w.alloc (.cells #[.int .i64 kn, .int .i64 p, .int .i64 en, .int .i64 sn, .bool t, .slice ad len cap] 24)) := (Below.refl _ _).alloc (Nat.le_refl _) _
  have X0 : Hid (Wr (w.alloc (.cells #[.int .i64 kn, .int .i64 p, .int .i64 en, .int .i64 sn, .bool t, .slice ad len cap] 24)) N B v []) := h.later bA
  have B0 : Hid (Keep N w (w.alloc (.cells #[.int .i64 kn, .int .i64 p, .int .i64 en, .int .i64 sn, .bool t, .slice ad len cap] 24))) := Keep.of bA (Nat.le_trans h.le (Nat.le_of_lt h.lt))
  have R0 : Hid (BBox (w.alloc (.cells #[.int .i64 kn, .int .i64 p, .int .i64 en, .int .i64 sn, .bool t, .slice ad len cap] 24)) w.heap.size kn p en sn t (.slice ad len cap)) := BBox.new _ _ _ _ _ _ _
  have HE : Hid (([] : List Nat) ++ spellN kn 1 ++ spellN (flagsN ⟨kn, p, en, sn, t, rs⟩) 1 ++ spellN (prodN ⟨kn, p, en, sn, t, rs⟩) 6 ++ spellN en 4 ++ spellN sn 4 ++ spellN len 2 = headBs ⟨kn, p, en, sn, t, rs⟩) := by
    show _ = _
    have hf : flagsN ⟨kn, p, en, sn, t, rs⟩ ≤ 255 := by unfold flagsN; split <;> split <;> omega
    rw [spell_one kn (by omega), spell_one _ hf, headBs]
    simp only [Int.toNat_natCast, hl, List.nil_append, List.append_assoc, List.cons_append]
  have hq : prodN ⟨kn, p, en, sn, t, rs⟩ < 2 ^ (8 * 6) := by
    unfold prodN
    simp only
    split
    · omega
    · omega
  have k1 : kn < 2 ^ (8 * 1) := by omega
  have k2 : en < 2 ^ (8 * 4) := by omega
  have k3 : sn < 2 ^ (8 * 4) := by omega
  have k4 : len < 2 ^ (8 * 2) := by omega
  have HK1 : Hid (kn < 2 ^ (8 * 1)) := k1
  have HK2 : Hid (en < 2 ^ (8 * 4)) := k2
  have HK3 : Hid (sn < 2 ^ (8 * 4)) := k3
  have HK4 : Hid (len < 2 ^ (8 * 2)) := k4
  have HK5 : Hid (prodN ⟨kn, p, en, sn, t, rs⟩ < 2 ^ (8 * 6)) := hq
  clear h bA hl k1 k2 k3 k4 hq
  by_cases hp1 : p = -1
  · subst hp1
    have HQ : Hid (prodN ⟨kn, -1, en, sn, t, rs⟩ = 0) := rfl
    rw [HQ.out] at HE HK5
    cases t
    · skip
      have HF : Hid (0 < 2 ^ (8 * 1)) := (show 0 < 2 ^ (8 * 1) by decide)
      have HG : Hid ((0 : Int) = ((0 : Nat) : Int)) := (show (0 : Int) = ((0 : Nat) : Int) by decide)
      rw [show flagsN ⟨kn, -1, en, sn, false, rs⟩ = 0 from rfl] at HE
      go_enter Try.func27, Try.ntmps27
      go_wp2_with fail
      refine (wnumber_at _ _ _ 1 _ N B v _ (by first | rfl | exact HG.out) (by rfl) X0.out (by omega) (by omega) HK1.out (by simp)).mono ?_
      rintro x w1 ⟨v1, rfl, W1, K1⟩
      have X1 : Hid (Wr w1 N B v1 _) := W1
      have B1 : Hid (Keep N w w1) := B0.out.trans K1
      have R1 : Hid (BBox w1 w.heap.size _ _ _ _ _ _) := K1.box R0.out
      clear W1 K1 X0 B0 R0
      go_wp2_with fail
      refine (wnumber_at _ _ _ 1 _ N B v1 _ (by first | rfl | exact HG.out) (by rfl) X1.out (by omega) (by omega) HF.out (by simp [spellN_length])).mono ?_
      rintro x w2 ⟨v2, rfl, W2, K2⟩
      have X2 : Hid (Wr w2 N B v2 _) := W2
      have B2 : Hid (Keep N w w2) := B1.out.trans K2
      have R2 : Hid (BBox w2 w.heap.size _ _ _ _ _ _) := K2.box R1.out
      clear W2 K2 X1 B1 R1
      go_wp2_with fail
      refine (wnumber_at _ _ _ 6 _ N B v2 _ (by first | rfl | exact HG.out) (by rfl) X2.out (by omega) (by omega) HK5.out (by simp [spellN_length])).mono ?_
      rintro x w3 ⟨v3, rfl, W3, K3⟩
      have X3 : Hid (Wr w3 N B v3 _) := W3
      have B3 : Hid (Keep N w w3) := B2.out.trans K3
      have R3 : Hid (BBox w3 w.heap.size _ _ _ _ _ _) := K3.box R2.out
      clear W3 K3 X2 B2 R2
      have c2 := R3.out.c2
      go_wp2_with fail
      refine (wnumber_at _ _ _ 4 _ N B v3 _ (by first | rfl | exact HG.out) (by rfl) X3.out (by omega) (by omega) HK2.out (by simp [spellN_length])).mono ?_
      rintro x w4 ⟨v4, rfl, W4, K4⟩
      have X4 : Hid (Wr w4 N B v4 _) := W4
      have B4 : Hid (Keep N w w4) := B3.out.trans K4
      have R4 : Hid (BBox w4 w.heap.size _ _ _ _ _ _) := K4.box R3.out
      clear W4 K4 X3 B3 R3
      have c3 := R4.out.c3
      go_wp2_with fail
      refine (wnumber_at _ _ _ 4 _ N B v4 _ (by first | rfl | exact HG.out) (by rfl) X4.out (by omega) (by omega) HK3.out (by simp [spellN_length])).mono ?_
      rintro x w5 ⟨v5, rfl, W5, K5⟩
      have X5 : Hid (Wr w5 N B v5 _) := W5
      have B5 : Hid (Keep N w w5) := B4.out.trans K5
      have R5 : Hid (BBox w5 w.heap.size _ _ _ _ _ _) := K5.box R4.out
      clear W5 K5 X4 B4 R4
      have c5 := R5.out.c5
      go_wp2_with fail
      refine (wnumber_at _ _ _ 2 _ N B v5 _ (by first | rfl | exact HG.out) (by rfl) X5.out (by omega) (by omega) HK4.out (by simp [spellN_length])).mono ?_
      rintro x w6 ⟨v6, rfl, W6, K6⟩
      rw [HE.out] at W6
      have X6 : Hid (Wr w6 N B v6 _) := W6
      have B6 : Hid (Keep N w w6) := B5.out.trans K6
      clear W6 K6 X5 B5 R5
      go_wp2
      go_end0
      exact ⟨_, rfl, X6.out, B6.out⟩
    · skip
      have HF : Hid (2 < 2 ^ (8 * 1)) := (show 2 < 2 ^ (8 * 1) by decide)
      have HG : Hid (bits .or .i64 0 2 = ((2 : Nat) : Int)) := (show bits .or .i64 0 2 = ((2 : Nat) : Int) by decide)
      rw [show flagsN ⟨kn, -1, en, sn, true, rs⟩ = 2 from rfl] at HE
      go_enter Try.func27, Try.ntmps27
      go_wp2_with fail
      refine (wnumber_at _ _ _ 1 _ N B v _ (by first | rfl | exact HG.out) (by rfl) X0.out (by omega) (by omega) HK1.out (by simp)).mono ?_
      rintro x w1 ⟨v1, rfl, W1, K1⟩
      have X1 : Hid (Wr w1 N B v1 _) := W1
      have B1 : Hid (Keep N w w1) := B0.out.trans K1
      have R1 : Hid (BBox w1 w.heap.size _ _ _ _ _ _) := K1.box R0.out
      clear W1 K1 X0 B0 R0
      go_wp2_with fail
      refine (wnumber_at _ _ _ 1 _ N B v1 _ (by first | rfl | exact HG.out) (by rfl) X1.out (by omega) (by omega) HF.out (by simp [spellN_length])).mono ?_
      rintro x w2 ⟨v2, rfl, W2, K2⟩
      have X2 : Hid (Wr w2 N B v2 _) := W2
      have B2 : Hid (Keep N w w2) := B1.out.trans K2
      have R2 : Hid (BBox w2 w.heap.size _ _ _ _ _ _) := K2.box R1.out
      clear W2 K2 X1 B1 R1
      go_wp2_with fail
      refine (wnumber_at _ _ _ 6 _ N B v2 _ (by first | rfl | exact HG.out) (by rfl) X2.out (by omega) (by omega) HK5.out (by simp [spellN_length])).mono ?_
      rintro x w3 ⟨v3, rfl, W3, K3⟩
      have X3 : Hid (Wr w3 N B v3 _) := W3
      have B3 : Hid (Keep N w w3) := B2.out.trans K3
      have R3 : Hid (BBox w3 w.heap.size _ _ _ _ _ _) := K3.box R2.out
      clear W3 K3 X2 B2 R2
      have c2 := R3.out.c2
      go_wp2_with fail
      refine (wnumber_at _ _ _ 4 _ N B v3 _ (by first | rfl | exact HG.out) (by rfl) X3.out (by omega) (by omega) HK2.out (by simp [spellN_length])).mono ?_
      rintro x w4 ⟨v4, rfl, W4, K4⟩
      have X4 : Hid (Wr w4 N B v4 _) := W4
      have B4 : Hid (Keep N w w4) := B3.out.trans K4
      have R4 : Hid (BBox w4 w.heap.size _ _ _ _ _ _) := K4.box R3.out
      clear W4 K4 X3 B3 R3
      have c3 := R4.out.c3
      go_wp2_with fail
      refine (wnumber_at _ _ _ 4 _ N B v4 _ (by first | rfl | exact HG.out) (by rfl) X4.out (by omega) (by omega) HK3.out (by simp [spellN_length])).mono ?_
      rintro x w5 ⟨v5, rfl, W5, K5⟩
      have X5 : Hid (Wr w5 N B v5 _) := W5
      have B5 : Hid (Keep N w w5) := B4.out.trans K5
      have R5 : Hid (BBox w5 w.heap.size _ _ _ _ _ _) := K5.box R4.out
      clear W5 K5 X4 B4 R4
      have c5 := R5.out.c5
      go_wp2_with fail
      refine (wnumber_at _ _ _ 2 _ N B v5 _ (by first | rfl | exact HG.out) (by rfl) X5.out (by omega) (by omega) HK4.out (by simp [spellN_length])).mono ?_
      rintro x w6 ⟨v6, rfl, W6, K6⟩
      rw [HE.out] at W6
      have X6 : Hid (Wr w6 N B v6 _) := W6
      have B6 : Hid (Keep N w w6) := B5.out.trans K6
      clear W6 K6 X5 B5 R5
      go_wp2
      go_end0
      exact ⟨_, rfl, X6.out, B6.out⟩
  · have hp3 : (p != -1) = true := by simpa using hp1
    obtain ⟨q, rfl⟩ := Int.eq_ofNat_of_zero_le (show 0 ≤ p by omega)
    have hp4 : ((q : Int) == -1) = false := by simp
    have HQ : Hid (prodN ⟨kn, q, en, sn, t, rs⟩ = q) := by
      show _ = _
      unfold prodN; simp only [hp4]; rfl
    rw [HQ.out] at HE HK5
    cases t
    · have HFF : Hid (flagsN ⟨kn, q, en, sn, false, rs⟩ = 1) := by
        show _ = _
        unfold flagsN; simp only [hp4]; rfl
      have HF : Hid (1 < 2 ^ (8 * 1)) := (show 1 < 2 ^ (8 * 1) by decide)
      have HG : Hid ((1 : Int) = ((1 : Nat) : Int)) := (show (1 : Int) = ((1 : Nat) : Int) by decide)
      rw [show flagsN ⟨kn, q, en, sn, false, rs⟩ = 1 from HFF.out] at HE
      go_enter Try.func27, Try.ntmps27
      go_wp2_with fail
      go_quiet (fail)
      go_wp2_with fail
      refine (wnumber_at _ _ _ 1 _ N B v _ (by first | rfl | exact HG.out) (by rfl) (X0.out.later (below_drewN' (Below.refl _ _) _)) (by omega) (by omega) HK1.out (by simp)).mono ?_
      rintro x w1 ⟨v1, rfl, W1, K1⟩
      have X1 : Hid (Wr w1 N B v1 _) := W1
      have B1 : Hid (Keep N w w1) := (B0.out.trans (Keep.of (below_drewN' (Below.refl _ _) _) (Nat.le_trans X0.out.le (Nat.le_of_lt X0.out.lt)))).trans K1
      have R1 : Hid (BBox w1 w.heap.size _ _ _ _ _ _) := K1.box (R0.out.drewN _)
      clear W1 K1 X0 B0 R0
      go_wp2_with fail
      refine (wnumber_at _ _ _ 1 _ N B v1 _ (by first | rfl | exact HG.out) (by rfl) X1.out (by omega) (by omega) HF.out (by simp [spellN_length])).mono ?_
      rintro x w2 ⟨v2, rfl, W2, K2⟩
      have X2 : Hid (Wr w2 N B v2 _) := W2
      have B2 : Hid (Keep N w w2) := B1.out.trans K2
      have R2 : Hid (BBox w2 w.heap.size _ _ _ _ _ _) := K2.box R1.out
      clear W2 K2 X1 B1 R1
      go_wp2_with fail
      refine (wnumber_at _ _ _ 6 _ N B v2 _ (by first | rfl | exact HG.out) (by rfl) X2.out (by omega) (by omega) HK5.out (by simp [spellN_length])).mono ?_
      rintro x w3 ⟨v3, rfl, W3, K3⟩
      have X3 : Hid (Wr w3 N B v3 _) := W3
      have B3 : Hid (Keep N w w3) := B2.out.trans K3
      have R3 : Hid (BBox w3 w.heap.size _ _ _ _ _ _) := K3.box R2.out
      clear W3 K3 X2 B2 R2
      have c2 := R3.out.c2
      go_wp2_with fail
      refine (wnumber_at _ _ _ 4 _ N B v3 _ (by first | rfl | exact HG.out) (by rfl) X3.out (by omega) (by omega) HK2.out (by simp [spellN_length])).mono ?_
      rintro x w4 ⟨v4, rfl, W4, K4⟩
      have X4 : Hid (Wr w4 N B v4 _) := W4
      have B4 : Hid (Keep N w w4) := B3.out.trans K4
      have R4 : Hid (BBox w4 w.heap.size _ _ _ _ _ _) := K4.box R3.out
      clear W4 K4 X3 B3 R3
      have c3 := R4.out.c3
      go_wp2_with fail
      refine (wnumber_at _ _ _ 4 _ N B v4 _ (by first | rfl | exact HG.out) (by rfl) X4.out (by omega) (by omega) HK3.out (by simp [spellN_length])).mono ?_
      rintro x w5 ⟨v5, rfl, W5, K5⟩
      have X5 : Hid (Wr w5 N B v5 _) := W5
      have B5 : Hid (Keep N w w5) := B4.out.trans K5
      have R5 : Hid (BBox w5 w.heap.size _ _ _ _ _ _) := K5.box R4.out
      clear W5 K5 X4 B4 R4
      have c5 := R5.out.c5
      go_wp2_with fail
      refine (wnumber_at _ _ _ 2 _ N B v5 _ (by first | rfl | exact HG.out) (by rfl) X5.out (by omega) (by omega) HK4.out (by simp [spellN_length])).mono ?_
      rintro x w6 ⟨v6, rfl, W6, K6⟩
      rw [HE.out] at W6
      have X6 : Hid (Wr w6 N B v6 _) := W6
      have B6 : Hid (Keep N w w6) := B5.out.trans K6
      clear W6 K6 X5 B5 R5
      go_wp2
      go_end0
      exact ⟨_, rfl, X6.out, B6.out⟩
    · have HFF : Hid (flagsN ⟨kn, q, en, sn, true, rs⟩ = 3) := by
        show _ = _
        unfold flagsN; simp only [hp4]; rfl
      have HF : Hid (3 < 2 ^ (8 * 1)) := (show 3 < 2 ^ (8 * 1) by decide)
      have HG : Hid (bits .or .i64 1 2 = ((3 : Nat) : Int)) := (show bits .or .i64 1 2 = ((3 : Nat) : Int) by decide)
      rw [show flagsN ⟨kn, q, en, sn, true, rs⟩ = 3 from HFF.out] at HE
      go_enter Try.func27, Try.ntmps27
      go_wp2_with fail
      go_quiet (fail)
      go_wp2_with fail
      refine (wnumber_at _ _ _ 1 _ N B v _ (by first | rfl | exact HG.out) (by rfl) (X0.out.later (below_drewN' (Below.refl _ _) _)) (by omega) (by omega) HK1.out (by simp)).mono ?_
      rintro x w1 ⟨v1, rfl, W1, K1⟩
      have X1 : Hid (Wr w1 N B v1 _) := W1
      have B1 : Hid (Keep N w w1) := (B0.out.trans (Keep.of (below_drewN' (Below.refl _ _) _) (Nat.le_trans X0.out.le (Nat.le_of_lt X0.out.lt)))).trans K1
      have R1 : Hid (BBox w1 w.heap.size _ _ _ _ _ _) := K1.box (R0.out.drewN _)
      clear W1 K1 X0 B0 R0
      go_wp2_with fail
      refine (wnumber_at _ _ _ 1 _ N B v1 _ (by first | rfl | exact HG.out) (by rfl) X1.out (by omega) (by omega) HF.out (by simp [spellN_length])).mono ?_
      rintro x w2 ⟨v2, rfl, W2, K2⟩
      have X2 : Hid (Wr w2 N B v2 _) := W2
      have B2 : Hid (Keep N w w2) := B1.out.trans K2
      have R2 : Hid (BBox w2 w.heap.size _ _ _ _ _ _) := K2.box R1.out
      clear W2 K2 X1 B1 R1
      go_wp2_with fail
      refine (wnumber_at _ _ _ 6 _ N B v2 _ (by first | rfl | exact HG.out) (by rfl) X2.out (by omega) (by omega) HK5.out (by simp [spellN_length])).mono ?_
      rintro x w3 ⟨v3, rfl, W3, K3⟩
      have X3 : Hid (Wr w3 N B v3 _) := W3
      have B3 : Hid (Keep N w w3) := B2.out.trans K3
      have R3 : Hid (BBox w3 w.heap.size _ _ _ _ _ _) := K3.box R2.out
      clear W3 K3 X2 B2 R2
      have c2 := R3.out.c2
      go_wp2_with fail
      refine (wnumber_at _ _ _ 4 _ N B v3 _ (by first | rfl | exact HG.out) (by rfl) X3.out (by omega) (by omega) HK2.out (by simp [spellN_length])).mono ?_
      rintro x w4 ⟨v4, rfl, W4, K4⟩
      have X4 : Hid (Wr w4 N B v4 _) := W4
      have B4 : Hid (Keep N w w4) := B3.out.trans K4
      have R4 : Hid (BBox w4 w.heap.size _ _ _ _ _ _) := K4.box R3.out
      clear W4 K4 X3 B3 R3
      have c3 := R4.out.c3
      go_wp2_with fail
      refine (wnumber_at _ _ _ 4 _ N B v4 _ (by first | rfl | exact HG.out) (by rfl) X4.out (by omega) (by omega) HK3.out (by simp [spellN_length])).mono ?_
      rintro x w5 ⟨v5, rfl, W5, K5⟩
      have X5 : Hid (Wr w5 N B v5 _) := W5
      have B5 : Hid (Keep N w w5) := B4.out.trans K5
      have R5 : Hid (BBox w5 w.heap.size _ _ _ _ _ _) := K5.box R4.out
      clear W5 K5 X4 B4 R4
      have c5 := R5.out.c5
      go_wp2_with fail
      refine (wnumber_at _ _ _ 2 _ N B v5 _ (by first | rfl | exact HG.out) (by rfl) X5.out (by omega) (by omega) HK4.out (by simp [spellN_length])).mono ?_
      rintro x w6 ⟨v6, rfl, W6, K6⟩
      rw [HE.out] at W6
      have X6 : Hid (Wr w6 N B v6 _) := W6
      have B6 : Hid (Keep N w w6) := B5.out.trans K6
      clear W6 K6 X5 B5 R5
      go_wp2
      go_end0
      exact ⟨_, rfl, X6.out, B6.out⟩
end Go.Proofs.Ytmkdkclakndkpaa
