/- isTimely: no step of an order ended ahead of the beginning of one that is ahead of it. -/
import Derived.Test.YtpjemifoilbjeaaHSides
import Derived.BigQuiet
namespace Go.Proofs.Ytpjemifoilbjeaa
open Go.RowKit Hy
variable {w w' : World} {l : List Stp} {a : Option Addr} {m c : Nat}

theorem drew_zero (w : World) : ∃ n, w = w.drewN n := ⟨0, rfl⟩
theorem drew_more {w w' : World} (h : ∃ n, w' = w.drewN n) (q : Nat) : ∃ n, w'.drewN q = w.drewN n := by
  obtain ⟨n, rfl⟩ := h
  exact ⟨n + q, World.drewN_drewN ..⟩
theorem drew_below {w w' : World} (h : ∃ n, w' = w.drewN n) : RowKit.Below w.heap.size w w' := by
  obtain ⟨n, rfl⟩ := h
  exact below_drewN' (RowKit.Below.refl _ _) n
theorem gmx_le {l : List Stp} {i : Nat} {z : Int} : gmx l i ≤ z ↔ -9223372036854775808 ≤ z ∧ ∀ x ∈ l.take i, x.2.1 ≤ z := by
  unfold gmx
  have h : ∀ (k : List Stp) (b : Int), k.foldl (fun z x => max z x.2.1) b ≤ z ↔ b ≤ z ∧ ∀ x ∈ k, x.2.1 ≤ z := by
    intro k
    induction k with
    | nil => intro b; simp
    | cons y k ih =>
      intro b
      rw [List.foldl_cons, ih]
      simp only [List.mem_cons, forall_eq_or_imp]
      constructor
      · rintro ⟨h1, h2⟩; exact ⟨by omega, by omega, h2⟩
      · rintro ⟨h1, h2, h3⟩; exact ⟨by omega, h3⟩
  exact h _ _
theorem le_lmn {l : List Stp} {i : Nat} {z : Int} : z ≤ lmn l i ↔ z ≤ 9223372036854775807 ∧ ∀ x ∈ l.drop i, z ≤ x.2.2 := by
  unfold lmn
  induction l.drop i with
  | nil => simp
  | cons y k ih =>
    rw [List.foldr_cons]
    simp only [List.mem_cons, forall_eq_or_imp]
    constructor
    · intro h
      have h1 : z ≤ k.foldr (fun x z => min z x.2.2) 9223372036854775807 := by omega
      obtain ⟨h2, h3⟩ := ih.1 h1
      exact ⟨h2, by omega, h3⟩
    · rintro ⟨h1, h2, h3⟩
      have := ih.2 ⟨h1, h3⟩
      omega
/-- What isTimely tells. -/
noncomputable def timB (l : List Stp) : Bool := open Classical in decide (∀ i, i < l.length → gmx l (i + 1) ≤ lmn l i)
theorem timB_yes {l : List Stp} (h : ∀ i, i < l.length → gmx l (i + 1) ≤ lmn l i) : timB l = true := by unfold timB; exact decide_eq_true h
theorem timB_no {l : List Stp} {i : Nat} (hi : i < l.length) (h : ¬ gmx l (i + 1) ≤ lmn l i) : timB l = false := by
  unfold timB
  exact decide_eq_false (fun hh => h (hh i hi))
/-- Of sorted steps isTimely tells just that they are. -/
theorem timB_iff {l : List Stp} (hs : l.Pairwise (fun x y => ¬ ltSt y x)) (hb : ∀ x ∈ l, -9223372036854775808 ≤ x.2.1 ∧ x.2.1 ≤ x.2.2 ∧ x.2.2 ≤ 9223372036854775807) : timB l = true ↔ Timely l := by
  have key : timB l = true ↔ ∀ i, i < l.length → gmx l (i + 1) ≤ lmn l i := by unfold timB; exact decide_eq_true_iff
  rw [key]
  constructor
  · intro h x hx y hy hlt
    obtain ⟨i, hi, rfl⟩ := List.getElem_of_mem hx
    obtain ⟨j, hj, rfl⟩ := List.getElem_of_mem hy
    have hij : i < j := by
      rcases Nat.lt_trichotomy i j with h1 | h1 | h1
      · exact h1
      · subst h1; omega
      · have := List.pairwise_iff_getElem.1 hs j i hj hi h1
        exact absurd (Or.inl hlt) this
    have h1 := h i hi
    have h2 := (gmx_le.1 (Int.le_refl (gmx l (i + 1)))).2 l[i] (List.mem_take_iff_getElem.2 ⟨i, by omega, rfl⟩)
    have h3 := (le_lmn.1 (Int.le_refl (lmn l i))).2 l[j] (List.mem_drop_iff_getElem.2 ⟨j - i, by omega, by congr 1; omega⟩)
    omega
  · intro h i hi
    rw [gmx_le]
    refine ⟨?_, fun x hx => ?_⟩
    · rw [le_lmn]
      exact ⟨by omega, fun y hy => by have := hb y (List.mem_of_mem_drop hy); omega⟩
    · rw [le_lmn]
      have hxl := List.mem_of_mem_take hx
      refine ⟨by have := hb x hxl; omega, fun y hy => ?_⟩
      obtain ⟨j, hj, rfl⟩ := List.mem_take_iff_getElem.1 hx
      obtain ⟨k, hk, rfl⟩ := List.mem_drop_iff_getElem.1 hy
      by_cases e : j = i + k
      · subst e
        exact (hb _ hxl).2.1
      · have hp := List.pairwise_iff_getElem.1 hs j (i + k) (by omega) (by omega) (by omega)
        by_cases hlt : (l[j]'(by omega)).1 < (l[i + k]'(by omega)).1
        · exact h _ hxl _ (List.mem_of_mem_drop hy) hlt
        · have h2 := hb _ (List.mem_of_mem_drop hy)
          unfold ltSt at hp
          omega
set_option maxRecDepth 20000 in
set_option maxHeartbeats 4000000 in
theorem isTimely_any (h : ArgK kSt w l a m c) (hm : m ≤ 100000) : Calls Try.prog 24 #[.slice a m c] w fun e w' => e = .returned (.bool (timB l)) ∧ RowKit.Below w.heap.size w w' := by
  have HSd := hid (sides_any h hm)
  have HL : Hid (l.length = m) := h.len
  have HYes : Hid ((∀ i, i < m → gmx l (i + 1) ≤ lmn l i) → timB l = true) := fun hh => timB_yes (fun i hi => hh i (by rw [← h.len]; exact hi))
  have HNo : Hid (∀ i, i < m → ¬ gmx l (i + 1) ≤ lmn l i → timB l = false) := fun i hi hh => timB_no (by rw [h.len]; exact hi) hh
  clear h
  go_enter Try.func24, Try.ntmps24
  go_wp2_with (go_at_call 35; (with_reducible_and_instances (refine HSd.out.mono ?_)); rintro e w1 ⟨G, L, rfl, hG, hL, hb1⟩; have HG := hid hG; have HLr := hid hL; have HB1 := hid hb1; clear hG hL hb1)
  go_loopw [13] (fun iv wr => ∃ i : Nat, i ≤ m ∧ iv = .int .i64 (i : Int) ∧ Hid (∀ k, k < i → gmx l (k + 1) ≤ lmn l k) ∧ Hid (∃ n, wr = w1.drewN n)) (fun iv _ => m - (intOf iv).toNat)
  case atStart => exact ⟨0, by omega, rfl, fun k hk => absurd hk (Nat.not_lt_zero _), drew_zero _⟩
  case round =>
    obtain ⟨i, hi, rfl, HK, HD⟩ := hrel
    by_cases hlt : i < m
    · have q1 : wr.cell? ⟨G, i, none⟩ = some (.int .i64 (gmx l (i + 1))) := ((drew_below HD.out).cell (p := ⟨G, i, none⟩) HG.out.lt).trans ((HG.out.cell i).trans (by unfold rowG; simp [hlt]))
      have q2 : wr.cell? ⟨L, i, none⟩ = some (.int .i64 (lmn l i)) := ((drew_below HD.out).cell (p := ⟨L, i, none⟩) HLr.out.lt).trans ((HLr.out.cell i).trans (by unfold rowL; simp [hlt]))
      have HN := hid (HNo.out i hlt)
      have HKn : Hid (gmx l (i + 1) ≤ lmn l i → ∀ k, k < i + 1 → gmx l (k + 1) ≤ lmn l k) := fun hh k hk => by
        by_cases e : k = i
        · rw [e]; exact hh
        · exact HK.out k (by omega)
      generalize gmx l (i + 1) = x at *
      generalize lmn l i = y at *
      by_cases hxy : y < x
      · have hd : decide (y < x) = true := decide_eq_true hxy
        have HR := hid (HN.out (by omega))
        go_wp2_with fail
        go_quiet (fail)
        all_goals go_wp2
        go_ret
        exact ⟨by rw [HR.out]; rfl, HB1.out.trans ((drew_below (drew_more HD.out _)).mono HB1.out.size)⟩
      · have hd : decide (y < x) = false := decide_eq_false hxy
        have HR := hid (HKn.out (by omega))
        go_wp2_with fail
        go_quiet (fail)
        all_goals go_wp2
        exact ⟨⟨i + 1, by omega, by go_num, HR, drew_more HD.out _⟩, by simp [intOf]; omega⟩
    · obtain rfl : m = i := by omega
      have HR := hid (HYes.out HK.out)
      go_wp2_with fail
      go_ret
      exact ⟨by rw [HR.out]; rfl, HB1.out.trans ((drew_below HD.out).mono HB1.out.size)⟩
end Go.Proofs.Ytpjemifoilbjeaa
