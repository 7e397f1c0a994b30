/- mayBe of package assign: members and partitions that may be. -/
import Derived.Test.YtakpdhmfbgfblaaARise
import Derived.Lib.SlicesCompact
namespace Go.Proofs.Ytakpdhmfbgfblaa
open Go.RowKit Go.Sort Go.Lib
variable {w w' : World} {ad : Option Addr} {m c : Nat} {l : List Nm}

def noName (s : Nm) : Bool := s.length == 0 || decide (64 < s.length)
/-- Members and partitions that may be, as the program asks it. -/
def mayN (l : List Nm) (parts : Int) : Bool := !(decide (1000 < l.length) || decide (parts < 0) || decide (32 < parts)) && (!(risN l).any noName && (compact (risN l)).length == l.length)
theorem nmS_size (s : Nm) : (nmS s).size = s.length := by simp [nmS, ByteArray.size]
theorem noName_any (s : Nm) (w : World) : Calls Try.prog 32 #[.string (nmS s)] w fun e w' => e = .returned (.bool (noName s)) ∧ w' = w := by
  have hz := nmS_size s
  have HV : Hid (noName s = ((s.length == 0) || decide (64 < s.length))) := rfl
  generalize nmS s = t at *
  rw [HV.out]
  clear HV
  generalize s.length = n at *
  by_cases h0 : n = 0
  · subst h0
    go_enter Try.func32, Try.ntmps32
    go_wp2_with fail
    go_ret
    exact ⟨by simp, rfl⟩
  · have hb : ((n : Int) == 0) = false := by simp; omega
    by_cases h1 : 64 < n
    · go_enter Try.func32, Try.ntmps32
      go_wp2_with fail
      go_ret
      exact ⟨by simp [h1]; omega, rfl⟩
    · go_enter Try.func32, Try.ntmps32
      go_wp2_with fail
      go_ret
      have h2 : ¬ (64 : Int) < (n : Int) := by omega
      have h3 : (n == 0) = false := by simpa using h0
      exact ⟨by simp [h1, h2, h3], rfl⟩
theorem holds_S {base g cap : Nat} (h : OwnK kS w base (.slice (some ⟨g, 0, none⟩) m cap) l) (hl : l.length = m) : Holds encStr w g 0 l.toArray ∧ m ≤ cap ∧ cap ≤ maxLen ∧ g < w.heap.size := by
  subst hl
  rcases h.2 with ⟨e, -⟩ | ⟨g', cap', cur, e, hb, hg, h1, h2, h3, h4⟩
  · cases e
  · cases e
    rw [Vs_S, show kS.sz = 1 from rfl, Nat.mul_one] at h4
    exact ⟨holds_of_block hg h4, h1, h2, (Array.getElem?_eq_some_iff.1 hg).1⟩
theorem eqS (T : TypeId) : EqlAt Try.prog T encStr (fun x y => decide (x = y)) :=
  ⟨fun x y w => by simp [binOp, Op.stringOp]; by_cases h : x = y <;> simp [h], fun op a b x y w => by rw [eqGuard_at_string]; rfl⟩
theorem neS (T : TypeId) : NeqAt Try.prog T encStr (fun x y => decide (x = y)) :=
  ⟨fun x y w => by simp [binOp, Op.stringOp]; by_cases h : x = y <;> simp [h], fun op a b x y w => by rw [eqGuard_at_string]; rfl⟩
theorem enters_noName : ∀ args w, (callFunc 32 args).run Try.prog w = .ok (.enter 32 args) w := fun _ _ => by kernel_rfl
theorem contains_any {base : Nat} {v : Value} (h : OwnK kS w base v l) (hl : l.length ≤ 1048576) : Calls Try.prog 31 #[v, .func (.func 32) #[] #[]] w fun e w' => e = .returned (.bool (l.any noName)) ∧ Below w.heap.size w w' := by
  rcases h.2 with ⟨rfl, h0⟩ | ⟨g, cap, cur, rfl, -⟩
  · obtain rfl : l = [] := List.eq_nil_of_length_eq_zero h0
    refine (show Calls Try.prog 31 #[.slice none 0 0, .func (.func 32) #[] #[]] w _ from AnyE.slices_ContainsFunc_empty Try.containsS none 0 _ w).mono ?_
    rintro e w' ⟨rfl, rfl⟩
    exact ⟨rfl, Below.refl _ _⟩
  · obtain ⟨hH, -, -, -⟩ := holds_S h rfl
    refine (show Calls Try.prog 31 #[.slice (some ⟨g, 0, none⟩) l.length cap, .func (.func 32) #[] #[]] w _ from AnyE.slices_ContainsFunc Try.containsS encStr noName 32 #[] enters_noName g 0 l.length cap l w (fun W x _ => (show Calls Try.prog 32 #[encStr x] W _ from noName_any x W).mono (fun e w' h => ⟨h.1, 0, h.2⟩)) (Nat.le_refl _) (by omega) (fun j hj => ?_)).mono ?_
    · have := (hH j (by simpa using hj)).1
      rw [this]
      congr 2
      simp [getElem!_def]
    · rintro e w' ⟨rfl, q, rfl⟩
      rw [List.take_of_length_le (Nat.le_refl _)]
      exact ⟨rfl, below_drewN' (Below.refl _ _) q⟩
theorem putS_below {base g n off : Nat} (d : Array Nm) (hb : base ≤ g) : Below base w (putRow encStr (Sort.ahead w n) g off d) := by
  refine ⟨rfl, rfl, rfl, by simp [putRow, mapBlock, Sort.ahead], fun k hk => ?_⟩
  have : g ≠ k := by omega
  simp [putRow, mapBlock, Sort.ahead, Array.getElem?_modify, this]
theorem compact_any {base : Nat} {v : Value} (h : OwnK kS w base v l) (hl : l.length ≤ 1048576) : Calls Try.prog 33 #[v] w fun e w' => ∃ ad c, e = .returned (.slice ad (compact l).length c) ∧ Below base w w' := by
  rcases h.2 with ⟨rfl, h0⟩ | ⟨g, cap, cur, rfl, hb, -⟩
  · obtain rfl : l = [] := List.eq_nil_of_length_eq_zero h0
    have HB := hid h
    go_enter Try.func33, Try.ntmps33
    go_wp2_with fail
    go_ret
    exact ⟨none, 0, rfl, Below.refl _ _⟩
  · obtain ⟨hH, h1, h2, -⟩ := holds_S h rfl
    have hz : ∀ w, (zeroValue 9).run Try.prog w = .ok (encStr []) w := fun w => by
      obtain ⟨i0, hi, hz0, hz1, hz2⟩ := info_parts kS_ok.info
      simp [zeroValue, typeInfo, hi, hz0]
    have hC := AnyE.slices_Compact Try.compactS encStr (by intro _; rfl) (eqS _) (neS _) [] hz g 0 cap l.toArray w hH (by simp; omega) (by simpa using h1)
    simp only [List.size_toArray] at hC
    refine (show Calls Try.prog 33 #[.slice (some ⟨g, 0, none⟩) l.length cap] w _ from hC).mono ?_
    rintro e w' ⟨rfl, q, rfl⟩
    exact ⟨_, _, rfl, putS_below _ hb⟩
set_option maxHeartbeats 1000000 in
theorem may_any (h : ArgK kS w l ad m c) (p : Int) : Calls Try.prog 13 #[.slice ad m c, .int .i64 p] w fun e w' => e = .returned (.bool (mayN l p)) ∧ Below w.heap.size w w' := by
  have hl := h.len
  have hmm : m ≤ 9223372036854775807 := by have := h.cap; have := h.room; unfold maxLen at this; omega
  by_cases h1 : 1000 < m
  · have HV : Hid (mayN l p = false) := by unfold mayN; rw [hl]; simp [h1]; exact trivial
    rw [HV.out]
    clear h HV
    go_enter Try.func13, Try.ntmps13
    go_wp2_with fail
    go_ret
    exact ⟨rfl, Below.refl _ _⟩
  · by_cases h2 : p < 0
    · have HV : Hid (mayN l p = false) := by unfold mayN; rw [hl]; simp [h2]; exact trivial
      rw [HV.out]
      clear h HV
      go_enter Try.func13, Try.ntmps13
      go_wp2_with fail
      go_ret
      exact ⟨rfl, Below.refl _ _⟩
    · by_cases h3 : 32 < p
      · have HV : Hid (mayN l p = false) := by unfold mayN; rw [hl]; simp [h3]; exact trivial
        rw [HV.out]
        clear h HV
        go_enter Try.func13, Try.ntmps13
        go_wp2_with fail
        go_ret
        exact ⟨rfl, Below.refl _ _⟩
      · have HV : Hid (mayN l p = (!(risN l).any noName && (compact (risN l)).length == m)) := by unfold mayN; rw [hl]; simp [h1, h2, h3]; exact trivial
        rw [HV.out]
        have HR := hid (rising_any h (by omega))
        have HLR : Hid ((risN l).length ≤ 1048576) := by rw [risN_len, hl]; show m ≤ 1048576; omega
        clear h HV hl
        generalize risN l = s at *
        cases hn : s.any noName with
        | true =>
          go_enter Try.func13, Try.ntmps13
          go_wp2_with (first
            | (go_at_call 30; (with_reducible_and_instances (refine HR.out.mono ?_)); rintro e w1 ⟨v, rfl, ho, hb⟩; have HC := hid (contains_any ho HLR.out); rw [hn] at HC; have HB := hid hb; clear ho hb)
            | (go_at_call 31; (with_reducible_and_instances (refine HC.out.mono ?_)); rintro e w2 ⟨rfl, hb⟩; have HB2 := hid hb; clear hb))
          go_ret
          exact ⟨by simp, HB.out.trans (HB2.out.mono HB.out.size)⟩
        | false =>
          have HV2 : Hid ((!false && (compact s).length == m) = ((compact s).length == m)) := by simp; exact trivial
          rw [HV2.out]
          clear HV2
          have HCn : Hid (∀ (W : World) (v : Value), OwnK kS W w.heap.size v s → Calls Try.prog 33 #[v] W fun e w' => ∃ ad c, e = .returned (.slice ad (compact s).length c) ∧ Below w.heap.size W w') := fun W v h => compact_any h HLR.out
          have hq : (compact s).length ≤ 1048576 := by
            have : (compact s).length ≤ s.length := by
              unfold compact compactUpTo
              rw [List.length_map]
              exact Nat.le_trans (List.length_filter_le _ _) (by simp)
            have := HLR.out
            omega
          generalize (compact s).length = q at *
          go_enter Try.func13, Try.ntmps13
          go_wp2_with (first
            | (go_at_call 30; (with_reducible_and_instances (refine HR.out.mono ?_)); rintro e w1 ⟨v, rfl, ho, hb⟩; have HC := hid (contains_any ho HLR.out); rw [hn] at HC; have HB := hid hb; have HO := hid ho; clear ho hb)
            | (go_at_call 31; (with_reducible_and_instances (refine HC.out.mono ?_)); rintro e w2 ⟨rfl, hb⟩; have HCm := hid (HCn.out w2 v (HO.out.later hb)); have HB2 := hid hb; clear hb)
            | (go_at_call 33; (with_reducible_and_instances (refine HCm.out.mono ?_)); rintro e w3 ⟨ad3, c3, rfl, hb⟩; have HB3 := hid hb; clear hb))
          go_ret
          refine ⟨?_, (HB.out.trans (HB2.out.mono HB.out.size)).trans HB3.out⟩
          congr 2
          by_cases e : q = m
          · subst e; simp
          · have e2 : (q == m) = false := by simpa using e
            rw [e2]; simp; omega
end Go.Proofs.Ytakpdhmfbgfblaa
