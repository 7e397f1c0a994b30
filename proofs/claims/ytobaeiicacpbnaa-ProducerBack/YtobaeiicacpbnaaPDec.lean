/- decide of package producer: what becomes of a batch of the producer's own epoch; made, isMarker, isOffset. -/
import Derived.Test.YtobaeiicacpbnaaPFind
import Derived.Laws.Cover3
namespace Go.Proofs.Ytobaeiicacpbnaa
open Go.RowKit Go.Shelf
variable {w w' : World} {B : Nat} {s : PSt}

/-- Decide's three answers. -/
def decV (x : Int × Bool × Int) : Value := .tuple #[.int .i64 x.1, .bool x.2.1, .int .i64 x.2.2]
theorem decV_eq (x : Int × Bool × Int) (a : Int) (b : Bool) (c : Int) (h : x = (a, b, c)) : decV x = .tuple #[.int .i64 a, .bool b, .int .i64 c] := by subst h; rfl
set_option maxHeartbeats 400000 in
theorem decide_any (hok : s.ok) (q n : Int) (w : World) : Calls Try.prog 31 #[.agg (psL s).toArray, .int .i64 q, .int .i64 n] w fun e w' => e = .returned (decV (decS s.next s.last q n)) ∧ Below w.heap.size w w' := by
  obtain ⟨W, hW⟩ : ∃ W, w.alloc (.cells (psL s).toArray TSt) = W := ⟨_, rfl⟩
  have hb : Below w.heap.size w W := by rw [← hW]; exact (Below.refl _ _).alloc (Nat.le_refl _) _
  have hs : SBox W w.heap.size s := by rw [← hW]; exact heap_alloc_new w _
  have hlt : w.heap.size < W.heap.size := by rw [← hW]; simp
  have c1 : W.cell? ⟨w.heap.size, 1, none⟩ = some (.int .i64 s.next) := Blk.cell hs 1
  have HF := hid (find_any hs hok q n)
  have HB := hid hb
  by_cases h0 : q = s.next
  · subst h0
    have HD := hid (decV_eq (decS s.next s.last s.next n) 0 false 0 (by unfold decS; rw [if_pos rfl]))
    clear hs hb HF
    generalize s.next = x at *
    go_enter Try.func31, Try.ntmps31
    go_wp2
    refine bodyPost_ret (results_tmp3 Try.results31 _ _ _) rfl ⟨by rw [HD.out]; rfl, HB.out⟩
  · have hne : (q == s.next) = false := by simpa using h0
    cases hf : findD q n s.last with
    | some d =>
      have HD := hid (decV_eq (decS s.next s.last q n) d.off true 0 (by unfold decS; rw [if_neg h0, hf]))
      rw [hf] at HF
      clear hs hb hf h0
      generalize s.next = x at *
      go_enter Try.func31, Try.ntmps31
      go_wp2_with (go_at_call 43; (with_reducible_and_instances (refine HF.out.mono ?_)); rintro e w2 ⟨rfl, hb2⟩; have HB2 := hid (HB.out.trans (hb2.mono HB.out.size)); clear hb2)
      refine bodyPost_ret (results_tmp3 Try.results31 _ _ _) rfl ⟨by rw [HD.out]; rfl, HB2.out.alloc HB2.out.size _⟩
    | none =>
      rw [hf] at HF
      have c1' := fun (X : World) (hX : Below W.heap.size W X) => (hX.cell (p := ⟨w.heap.size, 1, none⟩) hlt).trans c1
      have HC := hid c1'
      by_cases hl : q < s.next
      · have HD := hid (decV_eq (decS s.next s.last q n) 0 false 52 (by unfold decS; rw [if_neg h0, hf]; simp [hl]))
        have hd : decide (q < s.next) = true := by simpa using hl
        clear hs hb hf h0 hl c1'
        generalize s.next = x at *
        go_enter Try.func31, Try.ntmps31
        go_wp2_with (go_at_call 43; (with_reducible_and_instances (refine HF.out.mono ?_)); rintro e w2 ⟨rfl, hb2⟩; have HB2 := hid (HB.out.trans (hb2.mono HB.out.size)); have c9 := HC.out _ hb2; have l9 := Nat.lt_of_lt_of_le hlt hb2.size; clear hb2)
        refine bodyPost_ret (results_tmp3 Try.results31 _ _ _) rfl ⟨by rw [HD.out]; rfl, HB2.out.alloc HB2.out.size _⟩
      · have HD := hid (decV_eq (decS s.next s.last q n) 0 false 51 (by unfold decS; rw [if_neg h0, hf]; simp [hl]))
        have hd : decide (q < s.next) = false := by simpa using hl
        clear hs hb hf h0 hl c1'
        generalize s.next = x at *
        go_enter Try.func31, Try.ntmps31
        go_wp2_with (go_at_call 43; (with_reducible_and_instances (refine HF.out.mono ?_)); rintro e w2 ⟨rfl, hb2⟩; have HB2 := hid (HB.out.trans (hb2.mono HB.out.size)); have c9 := HC.out _ hb2; have l9 := Nat.lt_of_lt_of_le hlt hb2.size; clear hb2)
        refine bodyPost_ret (results_tmp3 Try.results31 _ _ _) rfl ⟨by rw [HD.out]; rfl, HB2.out.alloc HB2.out.size _⟩
theorem mark_any (k p e s : Int) (t : Bool) (v : Value) (w : World) :
    Calls Try.prog 30 #[.agg #[.int .i64 k, .int .i64 p, .int .i64 e, .int .i64 s, .bool t, v]] w fun r w' => r = .returned (.bool (!(k == 1))) ∧ w' = w.alloc (.cells #[.int .i64 k, .int .i64 p, .int .i64 e, .int .i64 s, .bool t, v] 33) := by
  go_enter Try.func30, Try.ntmps30
  go_wp2
  go_ret
  exact ⟨rfl, rfl⟩
/-- May it be an offset? -/
def isOff (n : Int) : Bool := decide (0 ≤ n) && decide (n ≤ 281474976710656)
theorem off_any (n : Int) (w : World) : Calls Try.prog 33 #[.int .i64 n] w fun r w' => r = .returned (.bool (isOff n)) ∧ w' = w := by
  unfold isOff
  cases h : decide (0 ≤ n)
  · go_enter Try.func33, Try.ntmps33
    go_wp2
    go_ret
    exact ⟨rfl, rfl⟩
  · go_enter Try.func33, Try.ntmps33
    go_wp2
    go_ret
    exact ⟨rfl, rfl⟩
set_option maxRecDepth 10000 in
theorem made_any {t M : Nat} (h : w.cell? ⟨t, 0, none⟩ = some (.map (some M))) : Calls Try.prog 28 #[.pointer (some ⟨t, 0, none⟩)] w fun r w' => r = .returned (.bool true) ∧ w' = w := by
  have hq := run_neq_map_nil (P := Try.prog) w 50 3 TSt (some M) Try.underlying50
  go_enter Try.func28, Try.ntmps28
  go_wp2
  go_ret
  exact ⟨rfl, rfl⟩
theorem made_nil (w : World) : Calls Try.prog 28 #[.pointer none] w fun r w' => r = .returned (.bool false) ∧ w' = w := by
  go_enter Try.func28, Try.ntmps28
  go_wp2
  go_ret
  exact ⟨rfl, rfl⟩
set_option maxRecDepth 10000 in
theorem made_not {t : Nat} (h : w.cell? ⟨t, 0, none⟩ = some (.map none)) : Calls Try.prog 28 #[.pointer (some ⟨t, 0, none⟩)] w fun r w' => r = .returned (.bool false) ∧ w' = w := by
  have hq := run_neq_map_nil (P := Try.prog) w 50 3 TSt none Try.underlying50
  go_enter Try.func28, Try.ntmps28
  go_wp2
  go_ret
  exact ⟨rfl, rfl⟩
end Go.Proofs.Ytobaeiicacpbnaa
