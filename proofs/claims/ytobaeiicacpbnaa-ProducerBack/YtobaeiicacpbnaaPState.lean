/- stateOf of package producer: an entry as a state (by genpload.py). -/
import Derived.Test.YtobaeiicacpbnaaPEnt
import Derived.Test.YtobaeiicacpbnaaPLead
import Derived.Test.YtobaeiicacpbnaaPAdd
namespace Go.Proofs.Ytobaeiicacpbnaa
open Go.RowKit Go.Shelf
variable {w w' : World} {a : Option Addr} {m c : Nat} {l : List Dn}

/-- The state of an entry. -/
def stF (e n : Int) (l : List Dn) : PSt := l.foldl PSt.add ⟨e, n, fun _ => dn0, 0, 0⟩
theorem stF_snoc (e n : Int) (l : List Dn) (d : Dn) : stF e n (l ++ [d]) = (stF e n l).add d := by unfold stF; rw [List.foldl_append]; rfl
theorem stF_ok (e n : Int) (l : List Dn) : (stF e n l).ok := by
  unfold stF
  generalize hs : (⟨e, n, fun _ => dn0, 0, 0⟩ : PSt) = s
  have h0 : s.ok := by rw [← hs]; exact ⟨(by show (0 : Nat) < 5; omega), (by show (0 : Nat) ≤ 5; omega)⟩
  clear hs
  induction l generalizing s with
  | nil => exact h0
  | cons d l ih => exact ih _ (add_ok h0 d)
theorem stF_epoch (e n : Int) (l : List Dn) : (stF e n l).epoch = e ∧ (stF e n l).next = n := by
  unfold stF
  generalize hs : (⟨e, n, fun _ => dn0, 0, 0⟩ : PSt) = s
  have h0 : s.epoch = e ∧ s.next = n := by rw [← hs]; exact ⟨rfl, rfl⟩
  clear hs
  induction l generalizing s with
  | nil => exact h0
  | cons d l ih => exact ih _ ⟨by rw [add_epoch]; exact h0.1, by rw [add_next]; exact h0.2⟩
theorem stF_last (e n : Int) (l : List Dn) (hl : l.length ≤ 5) : (stF e n l).last = l := by
  have key : ∀ k, k ≤ l.length → (stF e n (l.take k)).last = l.take k := by
    intro k
    induction k with
    | zero => intro _; rfl
    | succ k ih =>
      intro hk
      have h1 := ih (by omega)
      rw [List.take_succ_eq_append_getElem (by omega), stF_snoc, add_last (stF_ok _ _ _), h1]
      unfold addL
      rw [if_pos (by rw [List.length_take]; omega)]
  have := key l.length (Nat.le_refl _)
  rwa [List.take_length] at this
/-- What stateOf keeps while its loop runs. -/
structure SoI (w : World) (e n : Int) (l : List Dn) (Z : World) : Prop where
  below : Below w.heap.size w Z
  res : Blk Z (w.heap.size + 1) #[.int .i64 0, .int .i64 0, .int .i64 0, .int .i64 0, .int .i64 0, .int .i64 0, .int .i64 0, .int .i64 0, .int .i64 0, .int .i64 0, .int .i64 0, .int .i64 0, .int .i64 0, .int .i64 0, .int .i64 0, .int .i64 0, .int .i64 0, .int .i64 0, .int .i64 0] TSt
  now : SBox Z (w.heap.size + 1 + 1) (stF e n l)
theorem SoI.later {e n : Int} {Z : World} (h : SoI w e n l Z) (hb : Below Z.heap.size Z w') : SoI w e n l w' := ⟨h.below.trans (hb.mono h.below.size), h.res.later hb, h.now.later hb⟩
theorem ret_state {fn : Func} {q : Tmp} (h : fn.results = #[.cell q TSt]) (tmps : Array Value) (w : World) (B : Nat) (s : PSt) (hp : tmps[q]? = some (.pointer (some ⟨B, 0, none⟩))) (hg : SBox w B s) :
    (results fn tmps).run Try.prog w = .ok (.agg (psL s).toArray) w := by
  have hl := run_loadVar_cells (P := Try.prog) w TSt _ Try.underlying83 rfl (psL s) (sizeSt s) B 0 (box_cells hg)
  simp only [results, h]
  simp [hp, asAddr, hl]
set_option maxRecDepth 20000 in
set_option maxHeartbeats 1000000 in
theorem stateOf_any (h : DRow w a m l) (hm : m ≤ 5) (p e n : Int) : Calls Try.prog 26 #[.agg #[.int .i64 p, .int .i64 e, .int .i64 n, .slice a m c]] w fun x w' => x = .returned (.agg (psL (stF e n l)).toArray) ∧ Below w.heap.size w w' := by
  obtain ⟨W2, hW2⟩ : ∃ W2, (w.alloc (.cells #[.int .i64 p, .int .i64 e, .int .i64 n, .slice a m c] TEn)).alloc (.cells #[.int .i64 0, .int .i64 0, .int .i64 0, .int .i64 0, .int .i64 0, .int .i64 0, .int .i64 0, .int .i64 0, .int .i64 0, .int .i64 0, .int .i64 0, .int .i64 0, .int .i64 0, .int .i64 0, .int .i64 0, .int .i64 0, .int .i64 0, .int .i64 0, .int .i64 0] TSt) = W2 := ⟨_, rfl⟩
  have b2 : Below w.heap.size w W2 := by rw [← hW2]; exact ((Below.refl _ w).alloc (Nat.le_refl _) _).alloc (by simp) _
  have s2 : W2.heap.size = w.heap.size + 1 + 1 := by rw [← hW2]; simp
  have q0 : Blk W2 w.heap.size #[.int .i64 p, .int .i64 e, .int .i64 n, .slice a m c] TEn := by
    rw [← hW2]
    exact Blk.later (w := w.alloc (.cells #[.int .i64 p, .int .i64 e, .int .i64 n, .slice a m c] TEn)) (heap_alloc_new w _) ((Below.refl _ _).alloc (Nat.le_refl _) _)
  have q1 : Blk W2 (w.heap.size + 1) #[.int .i64 0, .int .i64 0, .int .i64 0, .int .i64 0, .int .i64 0, .int .i64 0, .int .i64 0, .int .i64 0, .int .i64 0, .int .i64 0, .int .i64 0, .int .i64 0, .int .i64 0, .int .i64 0, .int .i64 0, .int .i64 0, .int .i64 0, .int .i64 0, .int .i64 0] TSt := by
    have hh := heap_alloc_new (w.alloc (.cells #[.int .i64 p, .int .i64 e, .int .i64 n, .slice a m c] TEn)) (.cells #[.int .i64 0, .int .i64 0, .int .i64 0, .int .i64 0, .int .i64 0, .int .i64 0, .int .i64 0, .int .i64 0, .int .i64 0, .int .i64 0, .int .i64 0, .int .i64 0, .int .i64 0, .int .i64 0, .int .i64 0, .int .i64 0, .int .i64 0, .int .i64 0, .int .i64 0] TSt)
    rw [show (w.alloc (.cells #[.int .i64 p, .int .i64 e, .int .i64 n, .slice a m c] TEn)).heap.size = w.heap.size + 1 by simp, hW2] at hh
    exact hh
  have c1 : W2.cell? ⟨w.heap.size, 1, none⟩ = some (.int .i64 e) := q0.cell 1
  have c2 : W2.cell? ⟨w.heap.size, 2, none⟩ = some (.int .i64 n) := q0.cell 2
  have hq0 : w.heap.size < W2.heap.size := q0.lt
  have HQ0 := hid q0
  have HQ1 := hid q1
  have HB2 := hid b2
  have HD := hid (h.later b2)
  have HL : Hid (l.length = m) := h.1
  have HGl : Hid (∀ g, a = some ⟨g, 0, none⟩ → m ≠ 0 → g < w.heap.size) := fun g e h0 => by obtain ⟨g', e', hg, -⟩ := h.2.resolve_left h0; rw [e] at e'; cases e'; exact hg
  have HV : Hid (Value.agg #[.int .i64 e, .int .i64 n, .int .i64 0, .int .i64 0, .int .i64 0, .int .i64 0, .int .i64 0, .int .i64 0, .int .i64 0, .int .i64 0, .int .i64 0, .int .i64 0, .int .i64 0, .int .i64 0, .int .i64 0, .int .i64 0, .int .i64 0, .int .i64 0, .int .i64 0] = .agg (psL (stF e n [])).toArray) := rfl
  have HS2 := hid s2
  have HGn : Hid ((W2.alloc (.cells #[.int .i64 0, .int .i64 0, .int .i64 0, .int .i64 0, .int .i64 0, .int .i64 0, .int .i64 0, .int .i64 0, .int .i64 0, .int .i64 0, .int .i64 0, .int .i64 0, .int .i64 0, .int .i64 0, .int .i64 0, .int .i64 0, .int .i64 0, .int .i64 0, .int .i64 0] TSt)).heap[w.heap.size + 1 + 1]? = some (.cells #[.int .i64 0, .int .i64 0, .int .i64 0, .int .i64 0, .int .i64 0, .int .i64 0, .int .i64 0, .int .i64 0, .int .i64 0, .int .i64 0, .int .i64 0, .int .i64 0, .int .i64 0, .int .i64 0, .int .i64 0, .int .i64 0, .int .i64 0, .int .i64 0, .int .i64 0] TSt (0, 0))) := by rw [← s2]; exact heap_alloc_last W2 _
  clear h b2 q0 q1
  go_enter Try.func26, Try.ntmps26
  go_wp2_with (first
    | (refine store_box (g := w.heap.size + 1 + 1) (stF e n []) rfl (.tmp 3) (.tmp 10) rfl rfl HV.out HGn.out rfl ?_; intro W3 hs3 hc3; have hb3 : Below W2.heap.size W2 W3 := ((Below.refl _ W2).alloc (Nat.le_refl _) (.cells #[.int .i64 0, .int .i64 0, .int .i64 0, .int .i64 0, .int .i64 0, .int .i64 0, .int .i64 0, .int .i64 0, .int .i64 0, .int .i64 0, .int .i64 0, .int .i64 0, .int .i64 0, .int .i64 0, .int .i64 0, .int .i64 0, .int .i64 0, .int .i64 0, .int .i64 0] TSt)).trans (hc3.below (N := W2.heap.size) (fun g hg => by simp at hg; have := HS2.out; omega) (by simp)); have c3 : W3.cell? ⟨w.heap.size, 3, none⟩ = some (.slice a m c) := (HQ0.out.later hb3).cell 3; have HI0 : Hid (SoI w e n [] W3) := ⟨HB2.out.trans (hb3.mono HB2.out.size), HQ1.out.later hb3, hs3⟩; have HD3 := hid (HD.out.later hb3); clear hs3 hc3 hb3))
  go_loopw [14] (fun i wr => ∃ k : Nat, k ≤ m ∧ i = .int .i64 (k : Int) ∧ Hid (SoI w e n (l.take k) wr) ∧ Hid (Chg [w.heap.size + 1 + 1] W3 wr)) (fun i _ => m - (intOf i).toNat)
  case atStart => exact ⟨0, by omega, rfl, HI0, Chg.refl _ _⟩
  case round =>
    obtain ⟨k, hk, rfl, HI, HC⟩ := hrel
    clear HI0
    by_cases hkl : k < m
    · obtain ⟨g, rfl, hgl, hc⟩ := HD3.out.2.resolve_left (by omega)
      obtain ⟨r0, r1, r2⟩ := hc k hkl
      have hne : g ≠ w.heap.size + 1 + 1 := by have := HGl.out g rfl (by omega); omega
      replace r0 := (HC.out.cell (i := k * 3) hgl (by simp; exact hne)).trans r0
      replace r1 := (HC.out.cell (i := k * 3 + 1) hgl (by simp; exact hne)).trans r1
      replace r2 := (HC.out.cell (i := k * 3 + 2) hgl (by simp; exact hne)).trans r2
      have hlt : l.take (k + 1) = l.take k ++ [l.getD k dn0] := by
        have hl := HL.out
        rw [List.take_succ_eq_append_getElem (by omega), List.getD_eq_getElem?_getD, List.getElem?_eq_getElem (by omega)]; rfl
      generalize l.getD k dn0 = d at *
      obtain ⟨W5, hW5⟩ : ∃ W5, wr.alloc (.cells #[.int .i64 d.seq, .int .i64 d.len, .int .i64 d.off] TDn) = W5 := ⟨_, rfl⟩
      have b5 : Below wr.heap.size wr W5 := by rw [← hW5]; exact (Below.refl _ _).alloc (Nat.le_refl _) _
      have hb5 : Blk W5 wr.heap.size #[.int .i64 d.seq, .int .i64 d.len, .int .i64 d.off] TDn := by rw [← hW5]; exact heap_alloc_new wr _
      have d0 : W5.cell? ⟨wr.heap.size, 0, none⟩ = some (.int .i64 d.seq) := hb5.cell 0
      have d1 : W5.cell? ⟨wr.heap.size, 1, none⟩ = some (.int .i64 d.len) := hb5.cell 1
      have d2 : W5.cell? ⟨wr.heap.size, 2, none⟩ = some (.int .i64 d.off) := hb5.cell 2
      have hA := hid (add_any (HI.out.later b5).now (stF_ok _ _ _) d)
      have HI5 := hid (HI.out.later b5)
      have HLt := hid hlt
      have HC5 := hid (HC.out.trans (Chg.of (F := []) b5) (fun k hk => by cases hk))
      clear hc b5 hlt hb5
      go_wp2_with (go_at_call 34; (with_reducible_and_instances (refine hA.out.mono ?_)); rintro x w6 ⟨⟨vv, rfl⟩, hs6, hc6⟩; have HI6 : Hid (SoI w e n (l.take (k + 1)) w6) := (by rw [HLt.out]; exact ⟨HI5.out.below.trans (hc6.below (N := w.heap.size) (fun g hg => by simp at hg; omega) HI5.out.below.size), HI5.out.res.chg hc6 (by simp), by rw [stF_snoc]; exact hs6⟩); have HC6 := hid (HC5.out.trans hc6 (fun k hk => Or.inl hk)); clear hs6 hc6)
      exact ⟨⟨k + 1, by omega, by go_num, HI6, HC6⟩, by simp [intOf]; omega⟩
    · obtain rfl : k = m := by omega
      have HI7 : Hid (SoI w e n l wr) := by have h := HI.out; rw [List.take_of_length_le (by rw [HL.out]; exact Nat.le_refl _)] at h; exact h
      clear HI
      go_wp2_with (first
        | (refine load_wide rfl TSt _ rfl _ Try.underlying83 rfl (psL (stF e n l)) (sizeSt _) (w.heap.size + 1 + 1) 0 rfl (box_cells HI7.out.now) ?_)
        | (refine store_box (g := w.heap.size + 1) (stF e n l) rfl _ _ rfl rfl rfl HI7.out.res rfl ?_; intro W8 hs8 hc8))
      refine bodyPost_ret (ret_state Try.results26 _ _ (w.heap.size + 1) (stF e n l) rfl hs8) rfl ⟨rfl, HI7.out.below.trans (hc8.below (N := w.heap.size) (fun g hg => by simp at hg; omega) HI7.out.below.size)⟩
end Go.Proofs.Ytobaeiicacpbnaa
