/- What the Go function batch.Encode answers: the bytes that the document says, or the error. What the statements' helper Same answers: whether two batches are the same. -/
import Derived.Test.YtgihmkgbkffgbaaGreatPZWr
import Derived.Test.YtgihmkgbkffgbaaGreatPZCheck
import Derived.Test.YtgihmkgbkffgbaaGreatPZBM
import Derived.Test.YtgihmkgbkffgbaaGreatPZRec
import Derived.Laws.StructEq
namespace Go.Proofs.YtgihmkgbkffgbaaGreat
open Go.RowKit

theorem encode_not (k p e s : Int) (t : Bool) (rs : List Rec) (ad : Option Addr) (len cap : Nat) (w : World) (h : BArg w ⟨k, p, e, s, t, rs⟩ ad len cap) (hc : checkN ⟨k, p, e, s, t, rs⟩ ≠ 0) :
    Calls Tryz.prog 30 #[.agg #[.int .i64 k, .int .i64 p, .int .i64 e, .int .i64 s, .bool t, .slice ad len cap]] w fun r w' => r = .returned (.tuple #[.slice none 0 0, .int .i64 (checkN ⟨k, p, e, s, t, rs⟩)]) ∧ Below w.heap.size w w' := by
  have b0 : Below w.heap.size w (w.alloc (.cells #[.int .i64 k, .int .i64 p, .int .i64 e, .int .i64 s, .bool t, .slice ad len cap] 25)) := (Below.refl _ _).alloc (Nat.le_refl _) _
  have HA : Hid (BArg (w.alloc (.cells #[.int .i64 k, .int .i64 p, .int .i64 e, .int .i64 s, .bool t, .slice ad len cap] 25)) ⟨k, p, e, s, t, rs⟩ ad len cap) := h.later b0
  clear h
  generalize hcc : checkN ⟨k, p, e, s, t, rs⟩ = c at hc ⊢
  have hc2 : (c != 0) = true := by simpa using hc
  go_enter Tryz.func30, Tryz.ntmps30
  go_wp2_with (go_at_call 57; refine (check_any k p e s t rs ad len cap _ HA.out).mono ?_; rintro r w1 ⟨rfl, b1⟩; rw [hcc]; clear hcc)
  go_ret2
  exact ⟨rfl, b0.trans (b1.mono b0.size)⟩
set_option maxRecDepth 100000 in
set_option maxHeartbeats 1000000 in
theorem encode_ok (k p e s : Int) (t : Bool) (rs : List Rec) (ad : Option Addr) (len cap : Nat) (w : World) (h : BArg w ⟨k, p, e, s, t, rs⟩ ad len cap) (hc : checkN ⟨k, p, e, s, t, rs⟩ = 0) :
    Calls Tryz.prog 30 #[.agg #[.int .i64 k, .int .i64 p, .int .i64 e, .int .i64 s, .bool t, .slice ad len cap]] w fun r w' => ∃ v, r = .returned (.tuple #[v, .int .i64 0]) ∧ Own w' w.heap.size v (writeN ⟨k, p, e, s, t, rs⟩) ∧ Below w.heap.size w w' := by
  have b0 : Below w.heap.size w (w.alloc (.cells #[.int .i64 k, .int .i64 p, .int .i64 e, .int .i64 s, .bool t, .slice ad len cap] 25)) := (Below.refl _ _).alloc (Nat.le_refl _) _
  have HA : Hid (BArg (w.alloc (.cells #[.int .i64 k, .int .i64 p, .int .i64 e, .int .i64 s, .bool t, .slice ad len cap] 25)) ⟨k, p, e, s, t, rs⟩ ad len cap) := h.later b0
  have X0 : Hid (BBox (w.alloc (.cells #[.int .i64 k, .int .i64 p, .int .i64 e, .int .i64 s, .bool t, .slice ad len cap] 25)) w.heap.size k p e s t (.slice ad len cap)) := BBox.new w k p e s t _
  have HA0 : Hid (BArg w ⟨k, p, e, s, t, rs⟩ ad len cap) := h
  clear h
  go_enter Tryz.func30, Tryz.ntmps30
  go_wp2_with (go_at_call 57; refine (check_any k p e s t rs ad len cap _ HA.out).mono ?_; rintro r w1 ⟨rfl, b1⟩; rw [hc]; have A1 : Hid (BArg w1 ⟨k, p, e, s, t, rs⟩ ad len cap) := HA.out.later b1; have X1 : Hid (BBox w1 w.heap.size k p e s t (.slice ad len cap)) := X0.out.later b1; have b01 : Below w.heap.size w w1 := b0.trans (b1.mono b0.size); have Y1 := X1.out; have c0 := Y1.c0; have c1 := Y1.c1; have c2 := Y1.c2; have c3 := Y1.c3; have c4 := Y1.c4; have c5 := Y1.c5; clear b0 b1 HA X0 Y1)
  obtain ⟨hk, hp, hp2, he, he2, hs, hs2, hl64, -, -⟩ := checkN_nums hc
  obtain ⟨-, -, hok, -, hsz⟩ := checkN_ok hc
  simp only at hk hp hp2 he he2 hs hs2 hl64 hok
  have HL : Hid (rs.length = len) := A1.out.len_eq
  rw [HL.out] at hl64
  have HOK : Hid (∀ r ∈ rs, recOk r = true) := hok
  have hn : 18 + recsSize rs ≤ 65536 := hsz
  have HC : Hid (checkN ⟨k, p, e, s, t, rs⟩ = 0) := hc
  clear hc hok hsz
  refine (size_any k p e s t rs ad len cap _ A1.out hl64 HOK.out).mono ?_
  rintro r w2 ⟨rfl, b2⟩
  have A2 : Hid (BArg w2 ⟨k, p, e, s, t, rs⟩ ad len cap) := A1.out.later b2
  have X2 : Hid (BBox w2 w.heap.size k p e s t (.slice ad len cap)) := X1.out.later b2
  have b02 : Below w.heap.size w w2 := b01.trans (b2.mono b01.size)
  clear b2 b01 A1 X1 c0 c1 c2 c3 c4 c5
  obtain ⟨i0, hi, hz0, hz1, hz2⟩ := info_parts Tryz.info5
  generalize 18 + recsSize rs = n at *
  go_wp2_with (at_make; refine wpList_make_own _ rfl _ _ 22 rfl w.heap.size 5 i0 (.int .u8 0) 1 Tryz.underlying22 hi hz0 hz1 _ _ _ n rfl rfl (by omega) (by rw [hz2]; omega) (by unfold maxLen; omega) b02.size ?_; intro w3 hown3 hg3; have b3 : Below w2.heap.size w2 w3 := ((Below.refl _ _).grown hg3 (Nat.le_refl _) (by intro k hk; cases hk)); have b4 : Below w3.heap.size w3 (w3.alloc (.cells #[.slice (some ⟨w2.heap.size, 0, none⟩) 0 n] 121)) := ((Below.refl _ _).alloc (Nat.le_refl _) _); have X4 : Hid (BBox (w3.alloc (.cells #[.slice (some ⟨w2.heap.size, 0, none⟩) 0 n] 121)) w.heap.size k p e s t (.slice ad len cap)) := (X2.out.later b3).later b4; have A4 : Hid (BArg (w3.alloc (.cells #[.slice (some ⟨w2.heap.size, 0, none⟩) 0 n] 121)) ⟨k, p, e, s, t, rs⟩ ad len cap) := (A2.out.later b3).later b4; have b03 : Below w.heap.size w w3 := b02.trans (b3.mono b02.size); have b04 : Below w.heap.size w (w3.alloc (.cells #[.slice (some ⟨w2.heap.size, 0, none⟩) 0 n] 121)) := b03.trans (b4.mono b03.size); have W4 : Hid (Wr (w3.alloc (.cells #[.slice (some ⟨w2.heap.size, 0, none⟩) 0 n] 121)) w.heap.size w3.heap.size (.slice (some ⟨w2.heap.size, 0, none⟩) 0 n) []) := (⟨heap_alloc_new w3 _, b03.size, fun x hx => (by cases hx), hown3.alloc _⟩ : Wr _ _ _ _ _); have Y4 := X4.out; have c0 := Y4.c0; have c1 := Y4.c1; have c2 := Y4.c2; have c3 := Y4.c3; have c4 := Y4.c4; have c5 := Y4.c5; clear hg3 hown3 b3 b4 Y4)
  obtain ⟨kn, rfl⟩ := Int.eq_ofNat_of_zero_le (show 0 ≤ k by omega)
  obtain ⟨en, rfl⟩ := Int.eq_ofNat_of_zero_le he
  obtain ⟨sn, rfl⟩ := Int.eq_ofNat_of_zero_le hs
  refine (head_any kn en sn p t rs ad len cap _ w.heap.size w3.heap.size _ W4.out HL.out (by omega) hp hp2 (by omega) (by omega) hl64).mono ?_
  rintro r w5 ⟨v5, rfl, W5, K5⟩
  have X5 : Hid (BBox w5 w.heap.size kn p en sn t (.slice ad len cap)) := K5.box X4.out
  have V5 : Hid (Wr w5 w.heap.size w3.heap.size v5 (headBs ⟨kn, p, en, sn, t, rs⟩)) := W5
  have b05 : Below w.heap.size w w5 := b04.trans K5.below
  have c5' := X5.out.c5
  clear c0 c1 c2 c3 c4 c5 X4 A4 W4 b04 b03 W5
  go_wp2_with fail
  generalize w3.heap.size = B at *
  have V5' : Hid (Wr w5 w.heap.size B v5 (headBs ⟨kn, p, en, sn, t, rs⟩ ++ recsBs (rs.take 0))) := by
    show Wr _ _ _ _ _
    rw [List.take_zero, recsBs, List.append_nil]; exact V5.out
  clear V5
  have HH : Hid ((headBs ⟨kn, p, en, sn, t, rs⟩).length = 18) := headBs_length _
  have HE : Hid (headBs ⟨kn, p, en, sn, t, rs⟩ ++ recsBs rs = writeN ⟨kn, p, en, sn, t, rs⟩) := rfl
  have H0 : Hid (BArg w ⟨kn, p, en, sn, t, rs⟩ ad len cap) := HA0.out
  clear HA0 HC A2 X2
  generalize headBs ⟨kn, p, en, sn, t, rs⟩ = hd at *
  go_loopw [22] (fun i wr => ∃ (j : Nat) (v : Value), j ≤ len ∧ i = .int .i64 j ∧ Hid (Wr wr w.heap.size B v (hd ++ recsBs (rs.take j))) ∧ Below w.heap.size w wr) (fun i _ => len - (intOf i).toNat)
  case atStart => exact ⟨0, v5, Nat.zero_le _, rfl, V5', b05⟩
  case round =>
    clear V5' b05 c5' X5
    obtain ⟨j, v, hj, rfl, HW, hb⟩ := hrel
    by_cases hlt : j < len
    · obtain ⟨g, off, rfl, hg, hc⟩ := H0.out.cells (by omega)
      obtain ⟨q0, q1, q2⟩ := hc j hlt
      have r0 : wr.cell? ⟨g, off + j * 3, none⟩ = _ := (hb.cell (p := ⟨g, off + j * 3, none⟩) hg).trans q0
      have r1 : wr.cell? ⟨g, off + j * 3 + 1, none⟩ = _ := (hb.cell (p := ⟨g, off + j * 3 + 1, none⟩) hg).trans q1
      have r2 : wr.cell? ⟨g, off + j * 3 + 2, none⟩ = _ := (hb.cell (p := ⟨g, off + j * 3 + 2, none⟩) hg).trans q2
      clear hc q0 q1 q2
      simp only at r0 r1 r2
      have hz := recsSize_take_le rs HOK.out j
      rw [HL.out] at hz
      have HZ : Hid ((hd ++ recsBs (rs.take j)).length ≤ 900000) := by
        show _ ≤ _
        rw [List.length_append, HH.out, recsBs_length]; omega
      have HS : Hid (hd ++ recsBs (rs.take j) ++ recBs (rs.getD j rec0) = hd ++ recsBs (rs.take (j + 1))) := by
        show _ = _
        rw [take_snocR rs j (by rw [HL.out]; exact hlt), recsBs_append, recsBs_one, List.append_assoc]
      have HO : Hid ((rs.getD j rec0).key.size ≤ 1000 ∧ (rs.getD j rec0).val.size ≤ 4000) := recOk_parts (HOK.out _ (getD_mem rs j (by rw [HL.out]; exact hlt)))
      clear hz
      generalize rs.getD j rec0 = r at *
      have ba : Below wr.heap.size wr (wr.alloc (.cells #[.string r.key, .string r.val, .bool r.dead] 88)) := (Below.refl _ _).alloc (Nat.le_refl _) _
      have HC := record_any r (wr.alloc (.cells #[.string r.key, .string r.val, .bool r.dead] 88)) w.heap.size B v _ (HW.out.later ba) HO.out.1 HO.out.2 HZ.out
      have BA : Hid (Below w.heap.size w (wr.alloc (.cells #[.string r.key, .string r.val, .bool r.dead] 88))) := hb.trans (ba.mono hb.size)
      clear ba HW
      go_wp2_with (go_at_call 62; refine HC.mono ?_; rintro x w6 ⟨v6, rfl, W6, K6⟩; rw [HS.out] at W6; have V6 : Hid (Wr w6 w.heap.size B v6 _) := W6; clear W6)
      go_roundw
      case rel => exact ⟨j + 1, v6, by omega, by go_num, V6, BA.out.trans K6.below⟩
      case measure => simp [intOf]; omega
    · obtain rfl : j = len := by omega
      have HV : Hid (rs.take j = rs) := List.take_of_length_le (by rw [HL.out]; omega)
      have HO : Hid (Own wr w.heap.size v (writeN ⟨kn, p, en, sn, t, rs⟩)) := by
        have h := HW.out.own
        rw [HV.out, HE.out] at h
        exact h
      have c0 := HW.out.c0
      obtain ⟨a9, n9, hv9, -⟩ := HO.out.form
      generalize (writeN ⟨kn, p, en, sn, t, rs⟩).length = m9 at hv9
      subst hv9
      clear HW HV
      go_wp2
      go_ret2
      exact ⟨_, rfl, HO.out, hb⟩
theorem encode_any (k p e s : Int) (t : Bool) (rs : List Rec) (ad : Option Addr) (len cap : Nat) (w : World) (h : BArg w ⟨k, p, e, s, t, rs⟩ ad len cap) :
    Calls Tryz.prog 30 #[.agg #[.int .i64 k, .int .i64 p, .int .i64 e, .int .i64 s, .bool t, .slice ad len cap]] w fun r w' => ∃ v, r = .returned (.tuple #[v, .int .i64 (encodeN ⟨k, p, e, s, t, rs⟩).1]) ∧ Own w' w.heap.size v (encodeN ⟨k, p, e, s, t, rs⟩).2 ∧ Below w.heap.size w w' := by
  unfold encodeN
  by_cases hc : checkN ⟨k, p, e, s, t, rs⟩ = 0
  · rw [if_pos hc]
    exact encode_ok k p e s t rs ad len cap w h hc
  · rw [if_neg hc]
    refine (encode_not k p e s t rs ad len cap w h hc).mono ?_
    rintro r w' ⟨rfl, hb⟩
    exact ⟨_, rfl, Own.nil _ _, hb⟩
end Go.Proofs.YtgihmkgbkffgbaaGreat
namespace Go.Proofs.YtgihmkgbkffgbaaGreat
open Go.RowKit

def recEq (r r' : Rec) : Bool := r.key == r'.key && (r.val == r'.val && r.dead == r'.dead)
theorem bytes_beq (a b : ByteArray) : (a == b) = true ↔ a = b := by
  obtain ⟨⟨x⟩⟩ := a
  obtain ⟨⟨y⟩⟩ := b
  show ((⟨x⟩ : Array UInt8) == ⟨y⟩) = true ↔ _
  simp
theorem recEq_iff (r r' : Rec) : recEq r r' = true ↔ r = r' := by
  obtain ⟨a, b, c⟩ := r
  obtain ⟨a', b', c'⟩ := r'
  simp [recEq, bytes_beq]
theorem Tryz.fieldsR : (Tryz.prog.fieldsOf 88).toList.map (fun f => (f.name, f.type, f.offset)) = [("Key", 9, 0), ("Value", 9, 1), ("Dead", 4, 2)] := by kernel_rfl
theorem rec_neq (a b a' b' : ByteArray) (c c' : Bool) (w : World) : (binOp .neq 88 (.agg #[.string a, .string b, .bool c]) (.agg #[.string a', .string b', .bool c'])).run Tryz.prog w = .ok (.bool (!recEq ⟨a, b, c⟩ ⟨a', b', c'⟩)) w := by
  have hf := Tryz.fieldsR
  rw [run_neq_struct, run_equalIn_struct w 9999 88 _ _ (by kernel_rfl) (by kernel_rfl)]
  generalize (Tryz.prog.fieldsOf 88).toList = fs at hf
  rcases fs with _ | ⟨f0, _ | ⟨f1, _ | ⟨f2, _ | ⟨f3, fs⟩⟩⟩⟩
  · exact absurd (congrArg List.length hf) (by simp)
  · exact absurd (congrArg List.length hf) (by simp)
  · exact absurd (congrArg List.length hf) (by simp)
  · simp only [List.map_cons, List.map_nil, List.cons.injEq, Prod.mk.injEq, and_true] at hf
    obtain ⟨⟨n0, t0, o0⟩, ⟨n1, t1, o1⟩, ⟨n2, t2, o2⟩⟩ := hf
    have p0 : ∀ (a b : ByteArray) (c : Bool), (part 9 #[.string a, .string b, .bool c] 0).run Tryz.prog w = .ok (.string a) w := fun _ _ _ => by kernel_rfl
    have p1 : ∀ (a b : ByteArray) (c : Bool), (part 9 #[.string a, .string b, .bool c] 1).run Tryz.prog w = .ok (.string b) w := fun _ _ _ => by kernel_rfl
    have p2 : ∀ (a b : ByteArray) (c : Bool), (part 4 #[.string a, .string b, .bool c] 2).run Tryz.prog w = .ok (.bool c) w := fun _ _ _ => by kernel_rfl
    have e0 : ∀ a b : ByteArray, (Op.equalIn 9999 9 (.string a) (.string b)).run Tryz.prog w = .ok (a == b) w := fun a b => by rw [beq_toListBytes]; exact run_equalIn_string w 9998 _ a b Tryz.underlying9
    have e1 : ∀ a b : Bool, (Op.equalIn 9999 4 (.bool a) (.bool b)).run Tryz.prog w = .ok (a == b) w := fun a b => run_equalIn_bool' w 9998 _ a b Tryz.underlying4
    simp only [Op.eqFields, n0, n1, n2, t0, t1, t2, o0, o1, o2, recEq]
    rw [if_pos (by decide), if_pos (by decide), if_pos (by decide)]
    simp only [Sem.run_bind, p0, p1, p2, Result.andThen_ok, e0, e1, Sem.run_ite, Sem.run_pure]
    cases a == a' <;> cases b == b' <;> cases c == c' <;> rfl
  · exact absurd (congrArg List.length hf) (by simp)
theorem rec_guard (x y : Operand) (xs ys : Array Value) (w : World) : (eqGuard .neq 88 x y (.agg xs) (.agg ys)).run Tryz.prog w = .ok () w := run_eqGuard_agg w .neq _ x y xs ys (by kernel_rfl)
theorem take_next {rs ss : List Rec} {j : Nat} (h1 : j < rs.length) (h2 : j < ss.length) (h : rs.take j = ss.take j) (he : rs.getD j rec0 = ss.getD j rec0) : rs.take (j + 1) = ss.take (j + 1) := by
  rw [take_snocR rs j h1, take_snocR ss j h2, h, he]
set_option maxHeartbeats 1000000 in
theorem same_recs (k p e s : Int) (t : Bool) (rs ss : List Rec) (ad ad2 : Option Addr) (len cap cap2 : Nat) (w : World) (h : BArg w ⟨k, p, e, s, t, rs⟩ ad len cap) (h2 : BArg w ⟨k, p, e, s, t, ss⟩ ad2 len cap2) :
    Calls Tryz.prog 22 #[.agg #[.int .i64 k, .int .i64 p, .int .i64 e, .int .i64 s, .bool t, .slice ad len cap], .agg #[.int .i64 k, .int .i64 p, .int .i64 e, .int .i64 s, .bool t, .slice ad2 len cap2]] w fun r w' => ∃ q : Bool, r = .returned (.bool q) ∧ (q = true ↔ rs = ss) ∧ Below w.heap.size w w' := by
  have HA : Hid (BArg w ⟨k, p, e, s, t, rs⟩ ad len cap) := h
  have HC : Hid (BArg w ⟨k, p, e, s, t, ss⟩ ad2 len cap2) := h2
  have HL : Hid (rs.length = len) := h.len_eq
  have HM : Hid (ss.length = len) := h2.len_eq
  have hroom := h.le
  have hroom2 := h.room
  clear h h2
  have hb0 : Below w.heap.size w ((w.alloc (.cells #[.int .i64 k, .int .i64 p, .int .i64 e, .int .i64 s, .bool t, .slice ad len cap] 25)).alloc (.cells #[.int .i64 k, .int .i64 p, .int .i64 e, .int .i64 s, .bool t, .slice ad2 len cap2] 25)) := ((Below.refl _ _).alloc (Nat.le_refl _) _).alloc (by simp) _
  have x0 : Hid (BBox ((w.alloc (.cells #[.int .i64 k, .int .i64 p, .int .i64 e, .int .i64 s, .bool t, .slice ad len cap] 25)).alloc (.cells #[.int .i64 k, .int .i64 p, .int .i64 e, .int .i64 s, .bool t, .slice ad2 len cap2] 25)) w.heap.size k p e s t (.slice ad len cap)) := (BBox.new w k p e s t _).later ((Below.refl _ _).alloc (Nat.le_refl _) _)
  have x1 : Hid (BBox ((w.alloc (.cells #[.int .i64 k, .int .i64 p, .int .i64 e, .int .i64 s, .bool t, .slice ad len cap] 25)).alloc (.cells #[.int .i64 k, .int .i64 p, .int .i64 e, .int .i64 s, .bool t, .slice ad2 len cap2] 25)) (w.heap.size + 1) k p e s t (.slice ad2 len cap2)) := by
    have h := BBox.new (w.alloc (.cells #[.int .i64 k, .int .i64 p, .int .i64 e, .int .i64 s, .bool t, .slice ad len cap] 25)) k p e s t (.slice ad2 len cap2)
    rw [show (w.alloc (.cells #[.int .i64 k, .int .i64 p, .int .i64 e, .int .i64 s, .bool t, .slice ad len cap] 25)).heap.size = w.heap.size + 1 by simp] at h
    exact h
  go_enter Tryz.func22, Tryz.ntmps22
  go_wp2
  go_loopw [5] (fun i wr => ∃ j : Nat, j ≤ len ∧ i = .int .i64 j ∧ Hid (rs.take j = ss.take j) ∧ Below w.heap.size w wr ∧ Hid (BBox wr w.heap.size k p e s t (.slice ad len cap)) ∧ Hid (BBox wr (w.heap.size + 1) k p e s t (.slice ad2 len cap2))) (fun i _ => len - (intOf i).toNat)
  case atStart => exact ⟨0, Nat.zero_le _, rfl, (show Hid _ from rfl), hb0, x0, x1⟩
  case round =>
    clear hb0 x0 x1
    obtain ⟨j, hj, rfl, HT, hb, hx, hy⟩ := hrel
    have c5 := hx.out.c5
    have d5 := hy.out.c5
    unfold maxLen at hroom2
    by_cases hlt : j < len
    · obtain ⟨g, off, rfl, hg, hc⟩ := HA.out.cells (by omega)
      obtain ⟨q0, q1, q2⟩ := hc j hlt
      have r0 : wr.cell? ⟨g, off + j * 3, none⟩ = _ := (hb.cell (p := ⟨g, off + j * 3, none⟩) hg).trans q0
      have r1 : wr.cell? ⟨g, off + j * 3 + 1, none⟩ = _ := (hb.cell (p := ⟨g, off + j * 3 + 1, none⟩) hg).trans q1
      have r2 : wr.cell? ⟨g, off + j * 3 + 2, none⟩ = _ := (hb.cell (p := ⟨g, off + j * 3 + 2, none⟩) hg).trans q2
      clear hc q0 q1 q2
      obtain ⟨g', off', rfl, hg', hc⟩ := HC.out.cells (by omega)
      obtain ⟨q0, q1, q2⟩ := hc j hlt
      have s0 : wr.cell? ⟨g', off' + j * 3, none⟩ = _ := (hb.cell (p := ⟨g', off' + j * 3, none⟩) hg').trans q0
      have s1 : wr.cell? ⟨g', off' + j * 3 + 1, none⟩ = _ := (hb.cell (p := ⟨g', off' + j * 3 + 1, none⟩) hg').trans q1
      have s2 : wr.cell? ⟨g', off' + j * 3 + 2, none⟩ = _ := (hb.cell (p := ⟨g', off' + j * 3 + 2, none⟩) hg').trans q2
      clear hc q0 q1 q2
      simp only at r0 r1 r2 s0 s1 s2
      have HN : Hid (rs.getD j rec0 = ss.getD j rec0 → rs.take (j + 1) = ss.take (j + 1)) := take_next (by rw [HL.out]; exact hlt) (by rw [HM.out]; exact hlt) HT.out
      have HX : Hid (rs.getD j rec0 ≠ ss.getD j rec0 → rs ≠ ss) := fun h e => h (by rw [e])
      generalize rs.getD j rec0 = r at *
      generalize ss.getD j rec0 = r' at *
      obtain ⟨rk, rv, rd⟩ := r
      obtain ⟨sk, sv, sd⟩ := r'
      simp only at r0 r1 r2 s0 s1 s2
      have hn := rec_neq rk rv sk sv rd sd
      have hg := rec_guard
      cases hq : recEq ⟨rk, rv, rd⟩ ⟨sk, sv, sd⟩ with
      | true =>
        rw [hq] at hn
        have HT2 : Hid (rs.take (j + 1) = ss.take (j + 1)) := HN.out ((recEq_iff _ _).1 hq)
        go_wp2
        go_quiet (fail)
        go_wp2
        go_roundw
        case rel => exact ⟨j + 1, by omega, by go_num, HT2, below_drewN' hb _, hx.out.drewN _, hy.out.drewN _⟩
        case measure => simp [intOf]; omega
      | false =>
        rw [hq] at hn
        have HZ : Hid (rs ≠ ss) := HX.out (fun e => by rw [(recEq_iff _ _).2 e] at hq; cases hq)
        go_wp2
        go_quiet (fail)
        go_wp2
        go_ret
        exact ⟨false, rfl, ⟨fun h => (by cases h), fun h => absurd h HZ.out⟩, below_drewN' hb _⟩
    · obtain rfl : j = len := by omega
      go_wp2
      go_ret
      refine ⟨true, rfl, ⟨fun _ => ?_, fun _ => rfl⟩, hb⟩
      have h := HT.out
      rw [List.take_of_length_le (by rw [HL.out]; exact Nat.le_refl _), List.take_of_length_le (by rw [HM.out]; exact Nat.le_refl _)] at h
      exact h
set_option maxHeartbeats 2000000 in
theorem same_not (k p e s k' p' e' s' : Int) (t t' : Bool) (ad ad2 : Option Addr) (len cap len2 cap2 : Nat) (w : World) (h : ¬ (k = k' ∧ p = p' ∧ e = e' ∧ s = s' ∧ t = t' ∧ len = len2)) :
    Calls Tryz.prog 22 #[.agg #[.int .i64 k, .int .i64 p, .int .i64 e, .int .i64 s, .bool t, .slice ad len cap], .agg #[.int .i64 k', .int .i64 p', .int .i64 e', .int .i64 s', .bool t', .slice ad2 len2 cap2]] w fun r w' => r = .returned (.bool false) ∧ Below w.heap.size w w' := by
  have hb0 : Below w.heap.size w ((w.alloc (.cells #[.int .i64 k, .int .i64 p, .int .i64 e, .int .i64 s, .bool t, .slice ad len cap] 25)).alloc (.cells #[.int .i64 k', .int .i64 p', .int .i64 e', .int .i64 s', .bool t', .slice ad2 len2 cap2] 25)) := ((Below.refl _ _).alloc (Nat.le_refl _) _).alloc (by simp) _
  by_cases h1 : k = k'
  · subst h1
    by_cases h2 : p = p'
    · subst h2
      by_cases h3 : e = e'
      · subst h3
        by_cases h4 : s = s'
        · subst h4
          by_cases h5 : t = t'
          · subst h5
            have h6 : ¬ (len : Int) = len2 := fun e => h ⟨rfl, rfl, rfl, rfl, rfl, by omega⟩
            have h7 : ((len : Int) != len2) = true := by simpa using h6
            clear h
            go_enter Tryz.func22, Tryz.ntmps22
            go_wp2
            go_ret
            exact ⟨rfl, hb0⟩
          · clear h
            have h6 : (t == t') = false := by simpa using h5
            go_enter Tryz.func22, Tryz.ntmps22
            go_wp2
            go_ret
            exact ⟨rfl, hb0⟩
        · clear h
          have h6 : (s != s') = true := by simpa using h4
          go_enter Tryz.func22, Tryz.ntmps22
          go_wp2
          go_ret
          exact ⟨rfl, hb0⟩
      · clear h
        have h6 : (e != e') = true := by simpa using h3
        go_enter Tryz.func22, Tryz.ntmps22
        go_wp2
        go_ret
        exact ⟨rfl, hb0⟩
    · clear h
      have h6 : (p != p') = true := by simpa using h2
      go_enter Tryz.func22, Tryz.ntmps22
      go_wp2
      go_ret
      exact ⟨rfl, hb0⟩
  · clear h
    have h6 : (k != k') = true := by simpa using h1
    go_enter Tryz.func22, Tryz.ntmps22
    go_wp2
    go_ret
    exact ⟨rfl, hb0⟩
theorem same_any (k p e s k' p' e' s' : Int) (t t' : Bool) (rs ss : List Rec) (ad ad2 : Option Addr) (len cap len2 cap2 : Nat) (w : World) (h : BArg w ⟨k, p, e, s, t, rs⟩ ad len cap) (h2 : BArg w ⟨k', p', e', s', t', ss⟩ ad2 len2 cap2) :
    Calls Tryz.prog 22 #[.agg #[.int .i64 k, .int .i64 p, .int .i64 e, .int .i64 s, .bool t, .slice ad len cap], .agg #[.int .i64 k', .int .i64 p', .int .i64 e', .int .i64 s', .bool t', .slice ad2 len2 cap2]] w fun r w' => ∃ q : Bool, r = .returned (.bool q) ∧ (q = true ↔ (⟨k, p, e, s, t, rs⟩ : Bat) = ⟨k', p', e', s', t', ss⟩) ∧ Below w.heap.size w w' := by
  by_cases hs : k = k' ∧ p = p' ∧ e = e' ∧ s = s' ∧ t = t' ∧ len = len2
  · obtain ⟨rfl, rfl, rfl, rfl, rfl, rfl⟩ := hs
    refine (same_recs k p e s t rs ss ad ad2 len cap cap2 w h h2).mono ?_
    rintro r w' ⟨q, rfl, hq, hb⟩
    exact ⟨q, rfl, hq.trans ⟨fun e => by rw [e], fun e => (Bat.mk.inj e).2.2.2.2.2⟩, hb⟩
  · refine (same_not k p e s k' p' e' s' t t' ad ad2 len cap len2 cap2 w hs).mono ?_
    rintro r w' ⟨rfl, hb⟩
    refine ⟨false, rfl, ⟨fun e => (by cases e), fun e => absurd ?_ hs⟩, hb⟩
    obtain ⟨e1, e2, e3, e4, e5, e6⟩ := Bat.mk.inj e
    have l1 : rs.length = len := h.len_eq
    have l2 : ss.length = len2 := h2.len_eq
    rw [e6] at l1
    exact ⟨e1, e2, e3, e4, e5, by omega⟩
end Go.Proofs.YtgihmkgbkffgbaaGreat
