/- P2004, one way: what is told by those that stand can have been. -/
import Derived.Test.YtpjemifoilbjeaaHyM
namespace Go.Proofs.Ytpjemifoilbjeaa.Hy
open Go.RowKit

/-- What Check finds before it looks at times. -/
structure Std (l : List Hc) (s1 s2 : Sd) (w : List Int) : Prop where
  hear : hearS (allPr l 0 l) s0 = some s1
  fill : fillS (plN (shownN l)) w s1 = some s2
  wait : w.Perm (undN 0 l)
/-- Where appends stand: what is known of it. -/
structure Stand (l : List Hc) (s : Sd) : Prop where
  bij : Bij s
  full : ∀ p, 0 ≤ p → p < shownN l → ∃ c, s.1 p = some c
  app : ∀ c p, s.1 p = some c → 0 ≤ p ∧ p < shownN l ∧ ∃ i : Nat, c = (i : Int) ∧ i < l.length ∧ (ca l i).rd = false ∧ ((ca l i).dn = true → p = (ca l i).off)
  read : ∀ i, i < l.length → ∀ (k : Nat) v, (ca l i).vals[k]? = some v → ∃ a, byN l v = some a ∧ s.1 k = some a
  done : ∀ i, i < l.length → (ca l i).rd = false → (ca l i).dn = true → s.1 (ca l i).off = some (i : Int)
variable {l : List Hc} {s s1 s2 : Sd} {w : List Int}
theorem heard_app (hr : Right l) {c p : Int} (h : some (c, p) ∈ allPr l 0 l) : 0 ≤ p ∧ p < shownN l ∧ ∃ i : Nat, c = (i : Int) ∧ i < l.length ∧ (ca l i).rd = false := by
  obtain ⟨i, hi, h⟩ := (allPr_mem l 0).1 h
  rw [Nat.zero_add] at h
  obtain ⟨v1, v2, v3, v4, v5, v6, v7⟩ := may_vals (hr.2.1 _ (ca_mem hi))
  rcases callP_mem.1 h with ⟨h1, h2, h3, h4⟩ | ⟨j, v, h1, h2, h3⟩
  · have h5 := shows_le (ca_mem hi) h1
    unfold Hc.shows at h5
    rw [h2] at h5
    simp only [Bool.false_eq_true, if_false] at h5
    have := v6 h2
    exact ⟨by omega, by omega, i, h3, hi, h2⟩
  · have hlt : j < (ca l i).vals.length := (List.getElem?_eq_some_iff.1 h1).1
    have hd : (ca l i).dn = true := by
      cases hd : (ca l i).dn with
      | true => rfl
      | false => rw [v2 hd] at hlt; simp at hlt
    have hrd : (ca l i).rd = true := by
      cases hd : (ca l i).rd with
      | true => rfl
      | false => rw [v1 hd] at hlt; simp at hlt
    have h5 := shows_le (ca_mem hi) hd
    unfold Hc.shows at h5
    rw [hrd, if_pos rfl] at h5
    obtain ⟨a, e, ha, hb, -⟩ := byN_some h2
    exact ⟨by omega, by omega, a, e, ha, hb⟩
theorem undN_at {u : Int} (h : u ∈ undN 0 l) : ∃ i : Nat, u = (i : Int) ∧ i < l.length ∧ (ca l i).rd = false ∧ (ca l i).dn = false := by
  obtain ⟨i, h1, h2, h3, h4⟩ := (undN_mem l 0).1 h
  exact ⟨i, by rw [h4]; simp, h1, h2, h3⟩
theorem Std.stand (hr : Right l) (h : Std l s1 s2 w) : Stand l s2 := by
  obtain ⟨b1, hn, hs1⟩ := hear_some _ _ _ s0_bij h.hear
  have hs1 : ∀ c p, s1.1 p = some c ↔ some (c, p) ∈ allPr l 0 l := fun c p => by
    rw [hs1]
    constructor
    · rintro (h | h)
      · cases h
      · exact h
    · exact Or.inr
  have hwn : w.Nodup := h.wait.nodup_iff.2 (undN_nodup l 0)
  rcases fill_spec (plN (shownN l)) w s1 b1 (plN_nodup _) hwn with ⟨-, h2⟩ | ⟨hle, s', h2, b2, hs2⟩
  · rw [h.fill] at h2; cases h2
  · rw [h.fill] at h2
    injection h2 with h2; subst h2
    have hdone : ∀ i, i < l.length → (ca l i).rd = false → (ca l i).dn = true → s1.1 (ca l i).off = some (i : Int) := fun i hi h1 h2 => by
      rw [hs1, allPr_mem]
      exact ⟨i, hi, callP_mem.2 (Or.inl ⟨h2, h1, by simp, rfl⟩)⟩
    refine ⟨b2, fun p h0 h1 => ?_, fun c p hc => ?_, fun i hi k v hk => ?_, fun i hi h1 h2 => (hs2 _ _).2 (Or.inl (hdone i hi h1 h2))⟩
    · cases hp : s1.1 p with
      | some c => exact ⟨c, (hs2 c p).2 (Or.inl hp)⟩
      | none =>
        have hg : p ∈ gaps s1 (plN (shownN l)) := List.mem_filter.2 ⟨plN_mem.2 ⟨h0, h1⟩, by rw [hp]; rfl⟩
        obtain ⟨j, hj, e⟩ := List.getElem_of_mem hg
        refine ⟨(free s1 w)[j]'(by omega), (hs2 _ _).2 (Or.inr ?_)⟩
        rw [← e]
        refine List.mem_iff_getElem.2 ⟨j, by rw [List.length_zip]; omega, by rw [List.getElem_zip]⟩
    · rcases (hs2 c p).1 hc with h1 | h1
      · obtain ⟨a1, a2, i, rfl, hi, hrd⟩ := heard_app hr ((hs1 c p).1 h1)
        refine ⟨a1, a2, i, rfl, hi, hrd, fun hd => ?_⟩
        have h3 := (b1 _ _).1 (hdone i hi hrd hd)
        have h4 := (b1 _ _).1 h1
        rw [h3] at h4
        injection h4 with h4; exact h4.symm
      · have m1 := (List.of_mem_zip h1).1
        have m2 := (List.of_mem_zip h1).2
        obtain ⟨a1, a2⟩ := plN_mem.1 (List.mem_filter.1 m1).1
        obtain ⟨i, rfl, hi, hrd, hd⟩ := undN_at (h.wait.mem_iff.1 (List.mem_filter.1 m2).1)
        exact ⟨a1, a2, i, rfl, hi, hrd, fun e => by rw [hd] at e; cases e⟩
    · cases hb : byN l v with
      | none => exact absurd ((allPr_mem l 0).2 ⟨i, hi, callP_none.2 ⟨v, List.mem_of_getElem? hk, hb⟩⟩) hn
      | some a =>
        refine ⟨a, rfl, (hs2 _ _).2 (Or.inl ((hs1 _ _).2 ((allPr_mem l 0).2 ⟨i, hi, callP_mem.2 (Or.inr ⟨k, v, hk, hb, rfl⟩)⟩)))⟩
/-- The level of a call. -/
def levN (l : List Hc) (s : Sd) (i : Nat) : Int := match s.2 i with
  | some p => 2 * p + 1
  | none => 2 * ((ca l i).vals.length : Int)
/-- The log's first n values. -/
def logN (l : List Hc) (s : Sd) (n : Nat) : List Nm := (List.range n).map (fun k => match s.1 (k : Nat) with
  | some c => (ca l c.toNat).val
  | none => [])
theorem logN_succ (n : Nat) : logN l s (n + 1) = logN l s n ++ [match s.1 (n : Nat) with
  | some c => (ca l c.toNat).val
  | none => []] := by unfold logN; rw [List.range_succ, List.map_append]; rfl
theorem logN_len (n : Nat) : (logN l s n).length = n := by unfold logN; simp
theorem logN_at {n k : Nat} (h : k < n) : (logN l s n)[k]? = some (match s.1 (k : Nat) with
  | some c => (ca l c.toNat).val
  | none => []) := by
  unfold logN
  rw [List.getElem?_map, List.getElem?_range h]
  rfl
theorem Stand.reads (h : Stand l s) {i : Nat} (hi : i < l.length) (hrd : (ca l i).rd = true) (hd : (ca l i).dn = true) : s.2 i = none ∧ (ca l i).vals = logN l s (ca l i).vals.length ∧ ((ca l i).vals.length : Int) ≤ shownN l := by
  refine ⟨?_, ?_, ?_⟩
  · cases hs : s.2 i with
    | none => rfl
    | some p =>
      obtain ⟨-, -, j, e, hj, h2, -⟩ := h.app _ _ ((h.bij _ _).2 hs)
      have : i = j := by omega
      subst this
      rw [hrd] at h2; cases h2
  · refine List.ext_getElem (logN_len _).symm (fun k h1 h2 => ?_)
    obtain ⟨a, hb, hs⟩ := h.read i hi k _ (List.getElem?_eq_getElem h1)
    obtain ⟨j, rfl, hj, -, hv⟩ := byN_some hb
    have e := logN_at (l := l) (s := s) (show k < (ca l i).vals.length from h1)
    rw [List.getElem?_eq_getElem h2, hs] at e
    injection e with e
    rw [e]
    exact hv.symm
  · have h5 := shows_le (ca_mem hi) hd
    unfold Hc.shows at h5
    rw [hrd, if_pos rfl] at h5
    exact h5
/-- In the order of their levels the calls play. -/
theorem plays_sorted (h : Stand l s) : ∀ (t : List Nat) (n : Nat), t.Pairwise (fun i j => levN l s i ≤ levN l s j) → t.Nodup → (∀ i ∈ t, i < l.length ∧ 2 * (n : Int) ≤ levN l s i) → (∀ i ∈ t, (ca l i).rd = true → (ca l i).dn = true) → (∀ i ∈ t, (ca l i).rd = false → (s.2 i).isSome = true) → (∀ p c : Nat, n ≤ p → s.1 p = some (c : Int) → c ∈ t) → plays (logN l s n) (t.map (ca l))
  | [], _, _, _, _, _, _, _ => trivial
  | i :: t, n, hs, hn, hb, hd, ha, hf => by
    obtain ⟨s1, s2⟩ := List.pairwise_cons.1 hs
    obtain ⟨n1, n2⟩ := List.nodup_cons.1 hn
    obtain ⟨hi, hl⟩ := hb i (by simp)
    show if (ca l i).rd then (ca l i).vals = logN l s n ∧ plays (logN l s n) (t.map (ca l)) else ((ca l i).dn = true → (ca l i).off = ((logN l s n).length : Int)) ∧ plays (logN l s n ++ [(ca l i).val]) (t.map (ca l))
    have hnext : ∀ p c : Nat, n ≤ p → s.1 p = some (c : Int) → c ≠ i → c ∈ t := fun p c hp hc hne => by
      rcases List.mem_cons.1 (hf p c hp hc) with e | e
      · exact absurd e hne
      · exact e
    have hup : ∀ p c : Nat, s.1 p = some (c : Int) → levN l s c = 2 * (p : Int) + 1 := fun p c hc => by unfold levN; rw [(h.bij _ _).1 hc]
    cases hrd : (ca l i).rd with
    | true =>
      rw [if_pos rfl]
      obtain ⟨r1, r2, r3⟩ := h.reads hi hrd (hd i (by simp) hrd)
      have hlev : levN l s i = 2 * ((ca l i).vals.length : Int) := by unfold levN; rw [r1]
      have hni : ∀ p c : Nat, s.1 p = some (c : Int) → c ≠ i := fun p c hc e => by
        subst e
        rw [(h.bij _ _).1 hc] at r1; cases r1
      have he : (ca l i).vals.length = n := by
        by_cases hlt : n < (ca l i).vals.length
        · obtain ⟨c, hc⟩ := h.full (n : Int) (by omega) (by omega)
          obtain ⟨-, -, j, rfl, -⟩ := h.app _ _ hc
          have hm := hnext n j (Nat.le_refl _) hc (hni n j hc)
          have h1 := s1 j hm
          rw [hup n j hc, hlev] at h1
          omega
        · omega
      refine ⟨by rw [he] at r2; exact r2, ?_⟩
      exact plays_sorted h t n s2 n2 (fun j hj => hb j (by simp [hj])) (fun j hj => hd j (by simp [hj])) (fun j hj => ha j (by simp [hj])) (fun p c hp hc => hnext p c hp hc (hni p c hc))
    | false =>
      rw [if_neg (by simp)]
      obtain ⟨p, hp⟩ := Option.isSome_iff_exists.1 (ha i (by simp) hrd)
      have hsp := (h.bij _ _).2 hp
      obtain ⟨p0, p1, j, e, hj, -, hoff⟩ := h.app _ _ hsp
      have : i = j := by omega
      subst this
      have hlev : levN l s i = 2 * p + 1 := by unfold levN; rw [hp]
      obtain ⟨pn, rfl⟩ : ∃ pn : Nat, p = (pn : Int) := ⟨p.toNat, by omega⟩
      have hpn : pn = n := by
        by_cases hlt : n < pn
        · obtain ⟨c, hc⟩ := h.full (n : Int) (by omega) (by omega)
          obtain ⟨-, -, j, rfl, -⟩ := h.app _ _ hc
          have hne : j ≠ i := fun e => by
            subst e
            have := (h.bij _ _).1 hc
            rw [hp] at this
            injection this with this; omega
          have hm := hnext n j (Nat.le_refl _) hc hne
          have h1 := s1 j hm
          rw [hup n j hc, hlev] at h1
          omega
        · omega
      subst hpn
      refine ⟨fun hdn => by rw [logN_len]; exact (hoff hdn).symm, ?_⟩
      have hlog : logN l s pn ++ [(ca l i).val] = logN l s (pn + 1) := by
        rw [logN_succ, hsp]
        simp
      rw [hlog]
      refine plays_sorted h t (pn + 1) s2 n2 (fun j hj => ⟨(hb j (by simp [hj])).1, ?_⟩) (fun j hj => hd j (by simp [hj])) (fun j hj => ha j (by simp [hj])) (fun p c hp hc => hnext p c (by omega) hc (fun e => by
        subst e
        have := (h.bij _ _).1 hc
        rw [‹s.2 _ = some (pn : Int)›] at this
        injection this with this; omega))
      have h1 := s1 j hj
      have h2 := (hb j (by simp [hj])).2
      rw [hlev] at h1
      unfold levN at h1 ⊢
      cases hj2 : s.2 j with
      | none => rw [hj2] at h1; simp only at h1 ⊢; omega
      | some q =>
        rw [hj2] at h1
        simp only at h1 ⊢
        have hne : q ≠ (pn : Int) := fun e => by
          subst e
          have h3 := (h.bij _ _).2 hj2
          rw [hsp] at h3
          injection h3 with h3
          have : i = j := by omega
          subst this
          exact n1 hj
        omega
/-- What is told by the list of those that stand can have been. -/
theorem sound (hr : Right l) (h : Stand l s) (ht : Timely (stepsN s 0 l)) : HOk l := by
  have hstep : ∀ i, i < l.length → ∀ x ∈ stepN s i (ca l i), x ∈ stepsN s 0 l := fun i hi x hx => (stepsN_mem l 0).2 ⟨i, hi, by rw [Nat.zero_add]; exact hx⟩
  let P : Nat → Bool := fun i => (s.2 i).isSome || ((ca l i).dn && (ca l i).rd)
  let le : Nat → Nat → Bool := fun i j => decide (levN l s i < levN l s j ∨ (levN l s i = levN l s j ∧ (ca l i).bg ≤ (ca l j).bg))
  let A := (List.range l.length).filter P
  let B := (List.range l.length).filter (fun i => !P i)
  let O := A.mergeSort le
  have hO : O.Perm A := List.mergeSort_perm _ _
  have hsort : O.Pairwise (fun i j => le i j = true) := List.pairwise_mergeSort (fun a b c h1 h2 => by simp only [le, decide_eq_true_eq] at *; omega) (fun a b => by simp only [le, Bool.or_eq_true, decide_eq_true_eq]; omega) A
  have hin : ∀ i ∈ O, i < l.length ∧ P i = true := fun i hi => by
    have := List.mem_filter.1 (hO.mem_iff.1 hi)
    exact ⟨List.mem_range.1 this.1, this.2⟩
  have hmem : ∀ i, i < l.length → P i = true → i ∈ O := fun i hi hp => hO.mem_iff.2 (List.mem_filter.2 ⟨List.mem_range.2 hi, hp⟩)
  have hmap : (List.range l.length).map (ca l) = l := by
    refine List.ext_getElem (by simp) (fun i h1 h2 => ?_)
    rw [List.getElem_map, List.getElem_range, ca_at h2]
  refine ⟨O.map (ca l), B.map (ca l), ?_, fun c hc => ?_, fun c hc hrd => ?_, ?_, ?_⟩
  · rw [← List.map_append]
    have h1 : (A ++ B).Perm (List.range l.length) := List.filter_append_perm _ _
    have h2 := ((hO.append_right B).trans h1).map (ca l)
    rw [hmap] at h2
    exact h2
  · obtain ⟨i, hi, rfl⟩ := List.mem_map.1 hc
    obtain ⟨hi, hp⟩ := List.mem_filter.1 hi
    have hi := List.mem_range.1 hi
    simp only [P, Bool.not_eq_true', Bool.or_eq_false_iff] at hp
    cases hd : (ca l i).dn with
    | false => rfl
    | true =>
      cases hrd : (ca l i).rd with
      | true => rw [hd, hrd] at hp; exact absurd hp.2 (by decide)
      | false =>
        have := (h.bij _ _).1 (h.done i hi hrd hd)
        rw [this] at hp
        exact absurd hp.1 (by simp)
  · obtain ⟨i, hi, rfl⟩ := List.mem_map.1 hc
    obtain ⟨hi, hp⟩ := hin i hi
    simp only [P, Bool.or_eq_true, Bool.and_eq_true] at hp
    rcases hp with hp | hp
    · obtain ⟨p, hp⟩ := Option.isSome_iff_exists.1 hp
      obtain ⟨-, -, j, e, hj, h2, -⟩ := h.app _ _ ((h.bij _ _).2 hp)
      have : i = j := by omega
      subst this
      rw [hrd] at h2; cases h2
    · exact hp.1
  · have hlog0 : ([] : List Nm) = logN l s 0 := rfl
    rw [hlog0]
    refine plays_sorted h O 0 (hsort.imp (fun h => by simp only [le, decide_eq_true_eq] at h; omega)) (hO.nodup_iff.2 (List.nodup_range.filter _)) (fun i hi => ⟨(hin i hi).1, ?_⟩) (fun i hi hrd => ?_) (fun i hi hrd => ?_) (fun p c _ hc => ?_)
    · unfold levN
      cases hs : s.2 i with
      | none => simp only; omega
      | some p =>
        have := (h.app _ _ ((h.bij _ _).2 hs)).1
        simp only
        omega
    · obtain ⟨hi, hp⟩ := hin i hi
      simp only [P, Bool.or_eq_true, Bool.and_eq_true] at hp
      rcases hp with hp | hp
      · obtain ⟨p, hp⟩ := Option.isSome_iff_exists.1 hp
        obtain ⟨-, -, j, e, hj, h2, -⟩ := h.app _ _ ((h.bij _ _).2 hp)
        have : i = j := by omega
        subst this
        rw [hrd] at h2; cases h2
      · exact hp.1
    · obtain ⟨hi, hp⟩ := hin i hi
      simp only [P, Bool.or_eq_true, Bool.and_eq_true] at hp
      rcases hp with hp | hp
      · exact hp
      · rw [hrd] at hp; exact absurd hp.2 (by decide)
    · obtain ⟨-, -, j, e, hj, h2, -⟩ := h.app _ _ hc
      have : c = j := by omega
      subst this
      refine hmem c hj ?_
      simp only [P, Bool.or_eq_true]
      left
      rw [(h.bij _ _).1 hc]; rfl
  · rw [List.pairwise_map]
    refine List.Pairwise.imp_of_mem ?_ hsort
    intro i j hi hj hij hdn
    obtain ⟨hi, hpi⟩ := hin i hi
    obtain ⟨hj, hpj⟩ := hin j hj
    simp only [le, decide_eq_true_eq] at hij
    have hst : ∀ k, k < l.length → P k = true → ∃ e, (levN l s k, (ca l k).bg, e) ∈ stepsN s 0 l ∧ ((ca l k).dn = true → e = (ca l k).en) := fun k hk hp => by
      simp only [P, Bool.or_eq_true, Bool.and_eq_true] at hp
      cases hs : s.2 k with
      | some p =>
        refine ⟨if (ca l k).dn then (ca l k).en else never, hstep k hk _ ?_, fun h => by rw [if_pos h]⟩
        unfold stepN levN
        rw [hs]; simp
      | none =>
        rw [hs] at hp
        have hp := hp.resolve_left (by simp)
        refine ⟨(ca l k).en, hstep k hk _ ?_, fun _ => rfl⟩
        unfold stepN levN
        rw [hs, hp.1]; simp
    rcases hij with hlt | ⟨he, hb⟩
    · obtain ⟨e1, m1, -⟩ := hst i hi hpi
      obtain ⟨e2, m2, q2⟩ := hst j hj hpj
      have := ht _ m1 _ m2 hlt
      rw [q2 hdn] at this
      exact this
    · have := (may_vals (hr.2.1 _ (ca_mem hj))).2.2.1 hdn
      omega
end Go.Proofs.Ytpjemifoilbjeaa.Hy
