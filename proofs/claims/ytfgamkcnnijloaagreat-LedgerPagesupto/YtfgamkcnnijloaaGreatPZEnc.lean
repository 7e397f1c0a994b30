/- What the Go function batch.Encode answers: the bytes that the document says, or the error. Two Records compared (of batch/Same, without the statements' Same). -/
import Derived.Test.YtfgamkcnnijloaaGreatPZWr
import Derived.Test.YtfgamkcnnijloaaGreatPZCheck
import Derived.Test.YtfgamkcnnijloaaGreatPZBM
import Derived.Test.YtfgamkcnnijloaaGreatPZRec
import Derived.Laws.StructEq
namespace Go.Proofs.YtfgamkcnnijloaaGreat
open Go.RowKit

theorem encode_not (k p e s : Int) (t : Bool) (rs : List Rec) (ad : Option Addr) (len cap : Nat) (w : World) (h : BArg w ⟨k, p, e, s, t, rs⟩ ad len cap) (hc : checkN ⟨k, p, e, s, t, rs⟩ ≠ 0) :
    Calls Tryz.prog 36 #[.agg #[.int .i64 k, .int .i64 p, .int .i64 e, .int .i64 s, .bool t, .slice ad len cap]] w fun r w' => r = .returned (.tuple #[.slice none 0 0, .int .i64 (checkN ⟨k, p, e, s, t, rs⟩)]) ∧ Below w.heap.size w w' := by
  have b0 : Below w.heap.size w (w.alloc (.cells #[.int .i64 k, .int .i64 p, .int .i64 e, .int .i64 s, .bool t, .slice ad len cap] 30)) := (Below.refl _ _).alloc (Nat.le_refl _) _
  have HA : Hid (BArg (w.alloc (.cells #[.int .i64 k, .int .i64 p, .int .i64 e, .int .i64 s, .bool t, .slice ad len cap] 30)) ⟨k, p, e, s, t, rs⟩ ad len cap) := h.later b0
  clear h
  generalize hcc : checkN ⟨k, p, e, s, t, rs⟩ = c at hc ⊢
  have hc2 : (c != 0) = true := by simpa using hc
  go_enter Tryz.func36, Tryz.ntmps36
  go_wp2_with (go_at_call 43; refine (check_any k p e s t rs ad len cap _ HA.out).mono ?_; rintro r w1 ⟨rfl, b1⟩; rw [hcc]; clear hcc)
  go_ret2
  exact ⟨rfl, b0.trans (b1.mono b0.size)⟩
set_option maxRecDepth 100000 in
set_option maxHeartbeats 1000000 in
theorem encode_ok (k p e s : Int) (t : Bool) (rs : List Rec) (ad : Option Addr) (len cap : Nat) (w : World) (h : BArg w ⟨k, p, e, s, t, rs⟩ ad len cap) (hc : checkN ⟨k, p, e, s, t, rs⟩ = 0) :
    Calls Tryz.prog 36 #[.agg #[.int .i64 k, .int .i64 p, .int .i64 e, .int .i64 s, .bool t, .slice ad len cap]] w fun r w' => ∃ v, r = .returned (.tuple #[v, .int .i64 0]) ∧ Own w' w.heap.size v (writeN ⟨k, p, e, s, t, rs⟩) ∧ Below w.heap.size w w' := by
  have b0 : Below w.heap.size w (w.alloc (.cells #[.int .i64 k, .int .i64 p, .int .i64 e, .int .i64 s, .bool t, .slice ad len cap] 30)) := (Below.refl _ _).alloc (Nat.le_refl _) _
  have HA : Hid (BArg (w.alloc (.cells #[.int .i64 k, .int .i64 p, .int .i64 e, .int .i64 s, .bool t, .slice ad len cap] 30)) ⟨k, p, e, s, t, rs⟩ ad len cap) := h.later b0
  have X0 : Hid (BBox (w.alloc (.cells #[.int .i64 k, .int .i64 p, .int .i64 e, .int .i64 s, .bool t, .slice ad len cap] 30)) w.heap.size k p e s t (.slice ad len cap)) := BBox.new w k p e s t _
  have HA0 : Hid (BArg w ⟨k, p, e, s, t, rs⟩ ad len cap) := h
  clear h
  go_enter Tryz.func36, Tryz.ntmps36
  go_wp2_with (go_at_call 43; refine (check_any k p e s t rs ad len cap _ HA.out).mono ?_; rintro r w1 ⟨rfl, b1⟩; rw [hc]; have A1 : Hid (BArg w1 ⟨k, p, e, s, t, rs⟩ ad len cap) := HA.out.later b1; have X1 : Hid (BBox w1 w.heap.size k p e s t (.slice ad len cap)) := X0.out.later b1; have b01 : Below w.heap.size w w1 := b0.trans (b1.mono b0.size); have Y1 := X1.out; have c0 := Y1.c0; have c1 := Y1.c1; have c2 := Y1.c2; have c3 := Y1.c3; have c4 := Y1.c4; have c5 := Y1.c5; clear b0 b1 HA X0 Y1)
  obtain ⟨hk, hp, hp2, he, he2, hs, hs2, hl64, -, -⟩ := checkN_nums hc
  obtain ⟨-, -, hok, -, hsz⟩ := checkN_ok hc
  simp only at hk hp hp2 he he2 hs hs2 hl64 hok
  have HL : Hid (rs.length = len) := A1.out.len_eq
  rw [HL.out] at hl64
  have HOK : Hid (∀ r ∈ rs, recOk r = true) := hok
  have hn : 18 + recsSize rs ≤ 65536 := hsz
  have HC : Hid (checkN ⟨k, p, e, s, t, rs⟩ = 0) := hc
  clear hc hok hsz
  refine (size_any k p e s t rs ad len cap _ A1.out hl64 HOK.out).mono ?_
  rintro r w2 ⟨rfl, b2⟩
  have A2 : Hid (BArg w2 ⟨k, p, e, s, t, rs⟩ ad len cap) := A1.out.later b2
  have X2 : Hid (BBox w2 w.heap.size k p e s t (.slice ad len cap)) := X1.out.later b2
  have b02 : Below w.heap.size w w2 := b01.trans (b2.mono b01.size)
  clear b2 b01 A1 X1 c0 c1 c2 c3 c4 c5
  obtain ⟨i0, hi, hz0, hz1, hz2⟩ := info_parts Tryz.info5
  generalize 18 + recsSize rs = n at *
  go_wp2_with (at_make; refine wpList_make_own _ rfl _ _ 53 rfl w.heap.size 5 i0 (.int .u8 0) 1 Tryz.underlying53 hi hz0 hz1 _ _ _ n rfl rfl (by omega) (by rw [hz2]; omega) (by unfold maxLen; omega) b02.size ?_; intro w3 hown3 hg3; have b3 : Below w2.heap.size w2 w3 := ((Below.refl _ _).grown hg3 (Nat.le_refl _) (by intro k hk; cases hk)); have b4 : Below w3.heap.size w3 (w3.alloc (.cells #[.slice (some ⟨w2.heap.size, 0, none⟩) 0 n] 110)) := ((Below.refl _ _).alloc (Nat.le_refl _) _); have X4 : Hid (BBox (w3.alloc (.cells #[.slice (some ⟨w2.heap.size, 0, none⟩) 0 n] 110)) w.heap.size k p e s t (.slice ad len cap)) := (X2.out.later b3).later b4; have A4 : Hid (BArg (w3.alloc (.cells #[.slice (some ⟨w2.heap.size, 0, none⟩) 0 n] 110)) ⟨k, p, e, s, t, rs⟩ ad len cap) := (A2.out.later b3).later b4; have b03 : Below w.heap.size w w3 := b02.trans (b3.mono b02.size); have b04 : Below w.heap.size w (w3.alloc (.cells #[.slice (some ⟨w2.heap.size, 0, none⟩) 0 n] 110)) := b03.trans (b4.mono b03.size); have W4 : Hid (Wr (w3.alloc (.cells #[.slice (some ⟨w2.heap.size, 0, none⟩) 0 n] 110)) w.heap.size w3.heap.size (.slice (some ⟨w2.heap.size, 0, none⟩) 0 n) []) := (⟨heap_alloc_new w3 _, b03.size, fun x hx => (by cases hx), hown3.alloc _⟩ : Wr _ _ _ _ _); have Y4 := X4.out; have c0 := Y4.c0; have c1 := Y4.c1; have c2 := Y4.c2; have c3 := Y4.c3; have c4 := Y4.c4; have c5 := Y4.c5; clear hg3 hown3 b3 b4 Y4)
  obtain ⟨kn, rfl⟩ := Int.eq_ofNat_of_zero_le (show 0 ≤ k by omega)
  obtain ⟨en, rfl⟩ := Int.eq_ofNat_of_zero_le he
  obtain ⟨sn, rfl⟩ := Int.eq_ofNat_of_zero_le hs
  refine (head_any kn en sn p t rs ad len cap _ w.heap.size w3.heap.size _ W4.out HL.out (by omega) hp hp2 (by omega) (by omega) hl64).mono ?_
  rintro r w5 ⟨v5, rfl, W5, K5⟩
  have X5 : Hid (BBox w5 w.heap.size kn p en sn t (.slice ad len cap)) := K5.box X4.out
  have V5 : Hid (Wr w5 w.heap.size w3.heap.size v5 (headBs ⟨kn, p, en, sn, t, rs⟩)) := W5
  have b05 : Below w.heap.size w w5 := b04.trans K5.below
  have c5' := X5.out.c5
  clear c0 c1 c2 c3 c4 c5 X4 A4 W4 b04 b03 W5
  go_wp2_with fail
  generalize w3.heap.size = B at *
  have V5' : Hid (Wr w5 w.heap.size B v5 (headBs ⟨kn, p, en, sn, t, rs⟩ ++ recsBs (rs.take 0))) := by
    show Wr _ _ _ _ _
    rw [List.take_zero, recsBs, List.append_nil]; exact V5.out
  clear V5
  have HH : Hid ((headBs ⟨kn, p, en, sn, t, rs⟩).length = 18) := headBs_length _
  have HE : Hid (headBs ⟨kn, p, en, sn, t, rs⟩ ++ recsBs rs = writeN ⟨kn, p, en, sn, t, rs⟩) := rfl
  have H0 : Hid (BArg w ⟨kn, p, en, sn, t, rs⟩ ad len cap) := HA0.out
  clear HA0 HC A2 X2
  generalize headBs ⟨kn, p, en, sn, t, rs⟩ = hd at *
  go_loopw [22] (fun i wr => ∃ (j : Nat) (v : Value), j ≤ len ∧ i = .int .i64 j ∧ Hid (Wr wr w.heap.size B v (hd ++ recsBs (rs.take j))) ∧ Below w.heap.size w wr) (fun i _ => len - (intOf i).toNat)
  case atStart => exact ⟨0, v5, Nat.zero_le _, rfl, V5', b05⟩
  case round =>
    clear V5' b05 c5' X5
    obtain ⟨j, v, hj, rfl, HW, hb⟩ := hrel
    by_cases hlt : j < len
    · obtain ⟨g, off, rfl, hg, hc⟩ := H0.out.cells (by omega)
      obtain ⟨q0, q1, q2⟩ := hc j hlt
      have r0 : wr.cell? ⟨g, off + j * 3, none⟩ = _ := (hb.cell (p := ⟨g, off + j * 3, none⟩) hg).trans q0
      have r1 : wr.cell? ⟨g, off + j * 3 + 1, none⟩ = _ := (hb.cell (p := ⟨g, off + j * 3 + 1, none⟩) hg).trans q1
      have r2 : wr.cell? ⟨g, off + j * 3 + 2, none⟩ = _ := (hb.cell (p := ⟨g, off + j * 3 + 2, none⟩) hg).trans q2
      clear hc q0 q1 q2
      simp only at r0 r1 r2
      have hz := recsSize_take_le rs HOK.out j
      rw [HL.out] at hz
      have HZ : Hid ((hd ++ recsBs (rs.take j)).length ≤ 900000) := by
        show _ ≤ _
        rw [List.length_append, HH.out, recsBs_length]; omega
      have HS : Hid (hd ++ recsBs (rs.take j) ++ recBs (rs.getD j rec0) = hd ++ recsBs (rs.take (j + 1))) := by
        show _ = _
        rw [take_snocR rs j (by rw [HL.out]; exact hlt), recsBs_append, recsBs_one, List.append_assoc]
      have HO : Hid ((rs.getD j rec0).key.size ≤ 1000 ∧ (rs.getD j rec0).val.size ≤ 4000) := recOk_parts (HOK.out _ (getD_mem rs j (by rw [HL.out]; exact hlt)))
      clear hz
      generalize rs.getD j rec0 = r at *
      have ba : Below wr.heap.size wr (wr.alloc (.cells #[.string r.key, .string r.val, .bool r.dead] 43)) := (Below.refl _ _).alloc (Nat.le_refl _) _
      have HC := record_any r (wr.alloc (.cells #[.string r.key, .string r.val, .bool r.dead] 43)) w.heap.size B v _ (HW.out.later ba) HO.out.1 HO.out.2 HZ.out
      have BA : Hid (Below w.heap.size w (wr.alloc (.cells #[.string r.key, .string r.val, .bool r.dead] 43))) := hb.trans (ba.mono hb.size)
      clear ba HW
      go_wp2_with (go_at_call 61; refine HC.mono ?_; rintro x w6 ⟨v6, rfl, W6, K6⟩; rw [HS.out] at W6; have V6 : Hid (Wr w6 w.heap.size B v6 _) := W6; clear W6)
      go_roundw
      case rel => exact ⟨j + 1, v6, by omega, by go_num, V6, BA.out.trans K6.below⟩
      case measure => simp [intOf]; omega
    · obtain rfl : j = len := by omega
      have HV : Hid (rs.take j = rs) := List.take_of_length_le (by rw [HL.out]; omega)
      have HO : Hid (Own wr w.heap.size v (writeN ⟨kn, p, en, sn, t, rs⟩)) := by
        have h := HW.out.own
        rw [HV.out, HE.out] at h
        exact h
      have c0 := HW.out.c0
      obtain ⟨a9, n9, hv9, -⟩ := HO.out.form
      generalize (writeN ⟨kn, p, en, sn, t, rs⟩).length = m9 at hv9
      subst hv9
      clear HW HV
      go_wp2
      go_ret2
      exact ⟨_, rfl, HO.out, hb⟩
theorem encode_any (k p e s : Int) (t : Bool) (rs : List Rec) (ad : Option Addr) (len cap : Nat) (w : World) (h : BArg w ⟨k, p, e, s, t, rs⟩ ad len cap) :
    Calls Tryz.prog 36 #[.agg #[.int .i64 k, .int .i64 p, .int .i64 e, .int .i64 s, .bool t, .slice ad len cap]] w fun r w' => ∃ v, r = .returned (.tuple #[v, .int .i64 (encodeN ⟨k, p, e, s, t, rs⟩).1]) ∧ Own w' w.heap.size v (encodeN ⟨k, p, e, s, t, rs⟩).2 ∧ Below w.heap.size w w' := by
  unfold encodeN
  by_cases hc : checkN ⟨k, p, e, s, t, rs⟩ = 0
  · rw [if_pos hc]
    exact encode_ok k p e s t rs ad len cap w h hc
  · rw [if_neg hc]
    refine (encode_not k p e s t rs ad len cap w h hc).mono ?_
    rintro r w' ⟨rfl, hb⟩
    exact ⟨_, rfl, Own.nil _ _, hb⟩
end Go.Proofs.YtfgamkcnnijloaaGreat
namespace Go.Proofs.YtfgamkcnnijloaaGreat
open Go.RowKit

def recEq (r r' : Rec) : Bool := r.key == r'.key && (r.val == r'.val && r.dead == r'.dead)
theorem bytes_beq (a b : ByteArray) : (a == b) = true ↔ a = b := by
  obtain ⟨⟨x⟩⟩ := a
  obtain ⟨⟨y⟩⟩ := b
  show ((⟨x⟩ : Array UInt8) == ⟨y⟩) = true ↔ _
  simp
theorem Tryz.fieldsR : (Tryz.prog.fieldsOf 43).toList.map (fun f => (f.name, f.type, f.offset)) = [("Key", 9, 0), ("Value", 9, 1), ("Dead", 4, 2)] := by kernel_rfl
end Go.Proofs.YtfgamkcnnijloaaGreat
