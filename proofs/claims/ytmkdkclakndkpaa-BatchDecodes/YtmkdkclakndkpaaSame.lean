/- What the statements' helper Same answers: whether two batches are the same. -/
import Derived.Test.YtmkdkclakndkpaaPack
import Derived.Laws.StructEq
namespace Go.Proofs.Ytmkdkclakndkpaa
open Go.RowKit

def recEq (r r' : Rec) : Bool := r.key == r'.key && (r.val == r'.val && r.dead == r'.dead)
theorem bytes_beq (a b : ByteArray) : (a == b) = true ↔ a = b := by
  obtain ⟨⟨x⟩⟩ := a
  obtain ⟨⟨y⟩⟩ := b
  show ((⟨x⟩ : Array UInt8) == ⟨y⟩) = true ↔ _
  simp
theorem recEq_iff (r r' : Rec) : recEq r r' = true ↔ r = r' := by
  obtain ⟨a, b, c⟩ := r
  obtain ⟨a', b', c'⟩ := r'
  simp [recEq, bytes_beq]
theorem Try.fieldsR : (Try.prog.fieldsOf 51).toList.map (fun f => (f.name, f.type, f.offset)) = [("Key", 9, 0), ("Value", 9, 1), ("Dead", 4, 2)] := by kernel_rfl
theorem rec_neq (a b a' b' : ByteArray) (c c' : Bool) (w : World) : (binOp .neq 51 (.agg #[.string a, .string b, .bool c]) (.agg #[.string a', .string b', .bool c'])).run Try.prog w = .ok (.bool (!recEq ⟨a, b, c⟩ ⟨a', b', c'⟩)) w := by
  have hf := Try.fieldsR
  rw [run_neq_struct, run_equalIn_struct w 9999 51 _ _ (by kernel_rfl) (by kernel_rfl)]
  generalize (Try.prog.fieldsOf 51).toList = fs at hf
  rcases fs with _ | ⟨f0, _ | ⟨f1, _ | ⟨f2, _ | ⟨f3, fs⟩⟩⟩⟩
  · exact absurd (congrArg List.length hf) (by simp)
  · exact absurd (congrArg List.length hf) (by simp)
  · exact absurd (congrArg List.length hf) (by simp)
  · simp only [List.map_cons, List.map_nil, List.cons.injEq, Prod.mk.injEq, and_true] at hf
    obtain ⟨⟨n0, t0, o0⟩, ⟨n1, t1, o1⟩, ⟨n2, t2, o2⟩⟩ := hf
    have p0 : ∀ (a b : ByteArray) (c : Bool), (part 9 #[.string a, .string b, .bool c] 0).run Try.prog w = .ok (.string a) w := fun _ _ _ => by kernel_rfl
    have p1 : ∀ (a b : ByteArray) (c : Bool), (part 9 #[.string a, .string b, .bool c] 1).run Try.prog w = .ok (.string b) w := fun _ _ _ => by kernel_rfl
    have p2 : ∀ (a b : ByteArray) (c : Bool), (part 4 #[.string a, .string b, .bool c] 2).run Try.prog w = .ok (.bool c) w := fun _ _ _ => by kernel_rfl
    have e0 : ∀ a b : ByteArray, (Op.equalIn 9999 9 (.string a) (.string b)).run Try.prog w = .ok (a == b) w := fun a b => by rw [beq_toListBytes]; exact run_equalIn_string w 9998 _ a b Try.underlying9
    have e1 : ∀ a b : Bool, (Op.equalIn 9999 4 (.bool a) (.bool b)).run Try.prog w = .ok (a == b) w := fun a b => run_equalIn_bool' w 9998 _ a b Try.underlying4
    simp only [Op.eqFields, n0, n1, n2, t0, t1, t2, o0, o1, o2, recEq]
    rw [if_pos (by decide), if_pos (by decide), if_pos (by decide)]
    simp only [Sem.run_bind, p0, p1, p2, Result.andThen_ok, e0, e1, Sem.run_ite, Sem.run_pure]
    cases a == a' <;> cases b == b' <;> cases c == c' <;> rfl
  · exact absurd (congrArg List.length hf) (by simp)
theorem rec_guard (x y : Operand) (xs ys : Array Value) (w : World) : (eqGuard .neq 51 x y (.agg xs) (.agg ys)).run Try.prog w = .ok () w := run_eqGuard_agg w .neq _ x y xs ys (by kernel_rfl)
theorem take_next {rs ss : List Rec} {j : Nat} (h1 : j < rs.length) (h2 : j < ss.length) (h : rs.take j = ss.take j) (he : rs.getD j rec0 = ss.getD j rec0) : rs.take (j + 1) = ss.take (j + 1) := by
  rw [take_snocR rs j h1, take_snocR ss j h2, h, he]
set_option maxHeartbeats 1000000 in
theorem same_recs (k p e s : Int) (t : Bool) (rs ss : List Rec) (ad ad2 : Option Addr) (len cap cap2 : Nat) (w : World) (h : BArg w ⟨k, p, e, s, t, rs⟩ ad len cap) (h2 : BArg w ⟨k, p, e, s, t, ss⟩ ad2 len cap2) :
    Calls Try.prog 15 #[.agg #[.int .i64 k, .int .i64 p, .int .i64 e, .int .i64 s, .bool t, .slice ad len cap], .agg #[.int .i64 k, .int .i64 p, .int .i64 e, .int .i64 s, .bool t, .slice ad2 len cap2]] w fun r w' => ∃ q : Bool, r = .returned (.bool q) ∧ (q = true ↔ rs = ss) ∧ Below w.heap.size w w' := by
  have HA : Hid (BArg w ⟨k, p, e, s, t, rs⟩ ad len cap) := h
  have HC : Hid (BArg w ⟨k, p, e, s, t, ss⟩ ad2 len cap2) := h2
  have HL : Hid (rs.length = len) := h.len_eq
  have HM : Hid (ss.length = len) := h2.len_eq
  have hroom := h.le
  have hroom2 := h.room
  clear h h2
  have hb0 : Below w.heap.size w ((w.alloc (.cells #[.int .i64 k, .int .i64 p, .int .i64 e, .int .i64 s, .bool t, .slice ad len cap] 24)).alloc (.cells #[.int .i64 k, .int .i64 p, .int .i64 e, .int .i64 s, .bool t, .slice ad2 len cap2] 24)) := ((Below.refl _ _).alloc (Nat.le_refl _) _).alloc (by simp) _
  have x0 : Hid (BBox ((w.alloc (.cells #[.int .i64 k, .int .i64 p, .int .i64 e, .int .i64 s, .bool t, .slice ad len cap] 24)).alloc (.cells #[.int .i64 k, .int .i64 p, .int .i64 e, .int .i64 s, .bool t, .slice ad2 len cap2] 24)) w.heap.size k p e s t (.slice ad len cap)) := (BBox.new w k p e s t _).later ((Below.refl _ _).alloc (Nat.le_refl _) _)
  have x1 : Hid (BBox ((w.alloc (.cells #[.int .i64 k, .int .i64 p, .int .i64 e, .int .i64 s, .bool t, .slice ad len cap] 24)).alloc (.cells #[.int .i64 k, .int .i64 p, .int .i64 e, .int .i64 s, .bool t, .slice ad2 len cap2] 24)) (w.heap.size + 1) k p e s t (.slice ad2 len cap2)) := by
    have h := BBox.new (w.alloc (.cells #[.int .i64 k, .int .i64 p, .int .i64 e, .int .i64 s, .bool t, .slice ad len cap] 24)) k p e s t (.slice ad2 len cap2)
    rw [show (w.alloc (.cells #[.int .i64 k, .int .i64 p, .int .i64 e, .int .i64 s, .bool t, .slice ad len cap] 24)).heap.size = w.heap.size + 1 by simp] at h
    exact h
  go_enter Try.func15, Try.ntmps15
  go_wp2
  go_loopw [5] (fun i wr => ∃ j : Nat, j ≤ len ∧ i = .int .i64 j ∧ Hid (rs.take j = ss.take j) ∧ Below w.heap.size w wr ∧ Hid (BBox wr w.heap.size k p e s t (.slice ad len cap)) ∧ Hid (BBox wr (w.heap.size + 1) k p e s t (.slice ad2 len cap2))) (fun i _ => len - (intOf i).toNat)
  case atStart => exact ⟨0, Nat.zero_le _, rfl, (show Hid _ from rfl), hb0, x0, x1⟩
  case round =>
    clear hb0 x0 x1
    obtain ⟨j, hj, rfl, HT, hb, hx, hy⟩ := hrel
    have c5 := hx.out.c5
    have d5 := hy.out.c5
    unfold maxLen at hroom2
    by_cases hlt : j < len
    · obtain ⟨g, off, rfl, hg, hc⟩ := HA.out.cells (by omega)
      obtain ⟨q0, q1, q2⟩ := hc j hlt
      have r0 : wr.cell? ⟨g, off + j * 3, none⟩ = _ := (hb.cell (p := ⟨g, off + j * 3, none⟩) hg).trans q0
      have r1 : wr.cell? ⟨g, off + j * 3 + 1, none⟩ = _ := (hb.cell (p := ⟨g, off + j * 3 + 1, none⟩) hg).trans q1
      have r2 : wr.cell? ⟨g, off + j * 3 + 2, none⟩ = _ := (hb.cell (p := ⟨g, off + j * 3 + 2, none⟩) hg).trans q2
      clear hc q0 q1 q2
      obtain ⟨g', off', rfl, hg', hc⟩ := HC.out.cells (by omega)
      obtain ⟨q0, q1, q2⟩ := hc j hlt
      have s0 : wr.cell? ⟨g', off' + j * 3, none⟩ = _ := (hb.cell (p := ⟨g', off' + j * 3, none⟩) hg').trans q0
      have s1 : wr.cell? ⟨g', off' + j * 3 + 1, none⟩ = _ := (hb.cell (p := ⟨g', off' + j * 3 + 1, none⟩) hg').trans q1
      have s2 : wr.cell? ⟨g', off' + j * 3 + 2, none⟩ = _ := (hb.cell (p := ⟨g', off' + j * 3 + 2, none⟩) hg').trans q2
      clear hc q0 q1 q2
      simp only at r0 r1 r2 s0 s1 s2
      have HN : Hid (rs.getD j rec0 = ss.getD j rec0 → rs.take (j + 1) = ss.take (j + 1)) := take_next (by rw [HL.out]; exact hlt) (by rw [HM.out]; exact hlt) HT.out
      have HX : Hid (rs.getD j rec0 ≠ ss.getD j rec0 → rs ≠ ss) := fun h e => h (by rw [e])
      generalize rs.getD j rec0 = r at *
      generalize ss.getD j rec0 = r' at *
      obtain ⟨rk, rv, rd⟩ := r
      obtain ⟨sk, sv, sd⟩ := r'
      simp only at r0 r1 r2 s0 s1 s2
      have hn := rec_neq rk rv sk sv rd sd
      have hg := rec_guard
      cases hq : recEq ⟨rk, rv, rd⟩ ⟨sk, sv, sd⟩ with
      | true =>
        rw [hq] at hn
        have HT2 : Hid (rs.take (j + 1) = ss.take (j + 1)) := HN.out ((recEq_iff _ _).1 hq)
        go_wp2
        go_quiet (fail)
        go_wp2
        go_roundw
        case rel => exact ⟨j + 1, by omega, by go_num, HT2, below_drewN' hb _, hx.out.drewN _, hy.out.drewN _⟩
        case measure => simp [intOf]; omega
      | false =>
        rw [hq] at hn
        have HZ : Hid (rs ≠ ss) := HX.out (fun e => by rw [(recEq_iff _ _).2 e] at hq; cases hq)
        go_wp2
        go_quiet (fail)
        go_wp2
        go_ret
        exact ⟨false, rfl, ⟨fun h => (by cases h), fun h => absurd h HZ.out⟩, below_drewN' hb _⟩
    · obtain rfl : j = len := by omega
      go_wp2
      go_ret
      refine ⟨true, rfl, ⟨fun _ => ?_, fun _ => rfl⟩, hb⟩
      have h := HT.out
      rw [List.take_of_length_le (by rw [HL.out]; exact Nat.le_refl _), List.take_of_length_le (by rw [HM.out]; exact Nat.le_refl _)] at h
      exact h
set_option maxHeartbeats 2000000 in
theorem same_not (k p e s k' p' e' s' : Int) (t t' : Bool) (ad ad2 : Option Addr) (len cap len2 cap2 : Nat) (w : World) (h : ¬ (k = k' ∧ p = p' ∧ e = e' ∧ s = s' ∧ t = t' ∧ len = len2)) :
    Calls Try.prog 15 #[.agg #[.int .i64 k, .int .i64 p, .int .i64 e, .int .i64 s, .bool t, .slice ad len cap], .agg #[.int .i64 k', .int .i64 p', .int .i64 e', .int .i64 s', .bool t', .slice ad2 len2 cap2]] w fun r w' => r = .returned (.bool false) ∧ Below w.heap.size w w' := by
  have hb0 : Below w.heap.size w ((w.alloc (.cells #[.int .i64 k, .int .i64 p, .int .i64 e, .int .i64 s, .bool t, .slice ad len cap] 24)).alloc (.cells #[.int .i64 k', .int .i64 p', .int .i64 e', .int .i64 s', .bool t', .slice ad2 len2 cap2] 24)) := ((Below.refl _ _).alloc (Nat.le_refl _) _).alloc (by simp) _
  by_cases h1 : k = k'
  · subst h1
    by_cases h2 : p = p'
    · subst h2
      by_cases h3 : e = e'
      · subst h3
        by_cases h4 : s = s'
        · subst h4
          by_cases h5 : t = t'
          · subst h5
            have h6 : ¬ (len : Int) = len2 := fun e => h ⟨rfl, rfl, rfl, rfl, rfl, by omega⟩
            have h7 : ((len : Int) != len2) = true := by simpa using h6
            clear h
            go_enter Try.func15, Try.ntmps15
            go_wp2
            go_ret
            exact ⟨rfl, hb0⟩
          · clear h
            have h6 : (t == t') = false := by simpa using h5
            go_enter Try.func15, Try.ntmps15
            go_wp2
            go_ret
            exact ⟨rfl, hb0⟩
        · clear h
          have h6 : (s != s') = true := by simpa using h4
          go_enter Try.func15, Try.ntmps15
          go_wp2
          go_ret
          exact ⟨rfl, hb0⟩
      · clear h
        have h6 : (e != e') = true := by simpa using h3
        go_enter Try.func15, Try.ntmps15
        go_wp2
        go_ret
        exact ⟨rfl, hb0⟩
    · clear h
      have h6 : (p != p') = true := by simpa using h2
      go_enter Try.func15, Try.ntmps15
      go_wp2
      go_ret
      exact ⟨rfl, hb0⟩
  · clear h
    have h6 : (k != k') = true := by simpa using h1
    go_enter Try.func15, Try.ntmps15
    go_wp2
    go_ret
    exact ⟨rfl, hb0⟩
theorem same_any (k p e s k' p' e' s' : Int) (t t' : Bool) (rs ss : List Rec) (ad ad2 : Option Addr) (len cap len2 cap2 : Nat) (w : World) (h : BArg w ⟨k, p, e, s, t, rs⟩ ad len cap) (h2 : BArg w ⟨k', p', e', s', t', ss⟩ ad2 len2 cap2) :
    Calls Try.prog 15 #[.agg #[.int .i64 k, .int .i64 p, .int .i64 e, .int .i64 s, .bool t, .slice ad len cap], .agg #[.int .i64 k', .int .i64 p', .int .i64 e', .int .i64 s', .bool t', .slice ad2 len2 cap2]] w fun r w' => ∃ q : Bool, r = .returned (.bool q) ∧ (q = true ↔ (⟨k, p, e, s, t, rs⟩ : Bat) = ⟨k', p', e', s', t', ss⟩) ∧ Below w.heap.size w w' := by
  by_cases hs : k = k' ∧ p = p' ∧ e = e' ∧ s = s' ∧ t = t' ∧ len = len2
  · obtain ⟨rfl, rfl, rfl, rfl, rfl, rfl⟩ := hs
    refine (same_recs k p e s t rs ss ad ad2 len cap cap2 w h h2).mono ?_
    rintro r w' ⟨q, rfl, hq, hb⟩
    exact ⟨q, rfl, hq.trans ⟨fun e => by rw [e], fun e => (Bat.mk.inj e).2.2.2.2.2⟩, hb⟩
  · refine (same_not k p e s k' p' e' s' t t' ad ad2 len cap len2 cap2 w hs).mono ?_
    rintro r w' ⟨rfl, hb⟩
    refine ⟨false, rfl, ⟨fun e => (by cases e), fun e => absurd ?_ hs⟩, hb⟩
    obtain ⟨e1, e2, e3, e4, e5, e6⟩ := Bat.mk.inj e
    have l1 : rs.length = len := h.len_eq
    have l2 : ss.length = len2 := h2.len_eq
    rw [e6] at l1
    exact ⟨e1, e2, e3, e4, e5, by omega⟩
end Go.Proofs.Ytmkdkclakndkpaa
