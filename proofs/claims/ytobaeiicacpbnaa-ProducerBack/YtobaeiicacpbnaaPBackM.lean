/- What ProducerBack keeps (P1208), as plain data. -/
import Derived.Test.YtobaeiicacpbnaaPAgainM
import Derived.Test.YtobaeiicacpbnaaPLoad
namespace Go.Proofs.Ytobaeiicacpbnaa
open Go.RowKit Go.Shelf

theorem leadR_head : ∀ (r : List Dn) (x : Dn) (n : Int), leadR (r ++ [x]) n = true → leadR r n = true
  | [], x, n, h => by
    simp only [List.nil_append, leadR] at h
    split at h
    · rename_i hc
      simp only [leadR, decide_eq_true_eq] at h ⊢
      omega
    · cases h
  | d :: r, x, n, h => by
    rw [List.cons_append, leadR] at h
    rw [leadR]
    split at h
    · rename_i hc
      rw [if_pos hc]
      exact leadR_head r x _ h
    · cases h
/-- All that is known may be loaded. -/
def TbOk (T : Tb) : Prop := ∀ p s, T p = some s → rightE ⟨p, s.epoch, s.next, s.last⟩ = true
theorem tbOk0 : TbOk tb0 := fun p s h => by cases h
theorem rightE_mk {x : En} (h1 : 0 ≤ x.p) (h2 : x.p < 281474976710656) (h3 : 0 ≤ x.e) (h4 : x.e ≤ 2147483647) (h5 : 0 ≤ x.n) (h6 : x.n ≤ 2147483648) (h7 : x.l.length ≤ 5) (h8 : leadR x.l.reverse x.n = true) : rightE x = true := by
  simp only [rightE, Bool.and_eq_true, decide_eq_true_eq]
  exact ⟨⟨⟨⟨⟨⟨⟨h1, h2⟩, h3⟩, h4⟩, h5⟩, h6⟩, h7⟩, h8⟩
theorem rightE_all {x : En} (h : rightE x = true) : 0 ≤ x.e ∧ 0 ≤ x.n ∧ x.n ≤ 2147483648 ∧ leadR x.l.reverse x.n = true := by
  simp only [rightE, Bool.and_eq_true, decide_eq_true_eq] at h
  exact ⟨h.1.1.1.1.1.2, h.1.1.1.2, h.1.1.2, h.2⟩
theorem check_many {b : Bat} (h : checkN b = 0) (hk : b.kind = 1) : 1 ≤ b.recs.length ∧ b.recs.length ≤ 64 := by
  unfold checkN at h
  split at h
  · split at h
    · rename_i hm
      simp only [Bool.and_eq_true] at hm
      have h1 := hm.1
      unfold manyOk at h1
      rw [if_neg (by simp [Bat.marker, hk])] at h1
      simp only [Bool.and_eq_true, decide_eq_true_eq, bne_iff_ne, ne_eq] at h1
      omega
    · cases h
  · cases h
theorem addL_lead {l : List Dn} {d : Dn} {n : Int} (hl : leadR l.reverse n = true) (h1 : 1 ≤ d.len) (h2 : d.len ≤ 64) (h3 : isOff d.off = true) (h4 : d.seq = n) : leadR (addL l d).reverse (n + d.len) = true := by
  unfold addL
  split
  · rw [List.reverse_append]
    simp only [List.reverse_cons, List.reverse_nil, List.nil_append, List.cons_append, leadR]
    rw [if_pos ⟨h1, h2, h3, by omega⟩, h4]
    exact hl
  · rw [List.reverse_append]
    simp only [List.reverse_cons, List.reverse_nil, List.nil_append, List.cons_append, leadR]
    rw [if_pos ⟨h1, h2, h3, by omega⟩, h4]
    cases l with
    | nil => exact hl
    | cons x l =>
      rw [List.reverse_cons] at hl
      exact leadR_head _ _ _ hl
theorem addL_len {l : List Dn} (d : Dn) (h : l.length ≤ 5) : (addL l d).length ≤ 5 := by
  unfold addL
  split
  · rw [List.length_append]; simp; omega
  · rw [List.length_append, List.length_tail]; simp; omega
theorem TbOk.get {T : Tb} (h : TbOk T) (p : Int) : (T.get p = ps0) ∨ rightE ⟨p, (T.get p).epoch, (T.get p).next, (T.get p).last⟩ = true := by
  unfold Tb.get
  cases hT : T p with
  | none => exact Or.inl rfl
  | some s => exact Or.inr (h p s hT)
/-- A Note leaves what may be loaded. -/
theorem TbOk.note {T : Tb} (h : TbOk T) (hok : ∀ p, (T.get p).ok) (b : Bat) {o : Int} (ho : isOff o = true) : TbOk (notN T b o).2 := by
  unfold notN
  split
  · exact h
  · split
    · exact h
    · rename_i he
      split
      · exact h
      · rename_i hd
        have hd1 : (decN T b).2.1 = false := by
          cases hq : (decN T b).2.1 with
          | true => exact absurd (Or.inl hq) hd
          | false => rfl
        have hp : b.prod ≠ -1 := fun e => hd (Or.inr e)
        have he2 : (decN T b).2.2 = 0 := by
          rcases Decidable.em ((decN T b).2.2 = 0) with e | e
          · exact e
          · exact absurd e he
        obtain ⟨x, d, e, hdec⟩ : ∃ x d e, decN T b = (x, d, e) := ⟨_, _, _, rfl⟩
        rw [hdec] at hd1 he2
        simp only at hd1 he2
        subst hd1 he2
        have hc := dec_check hdec
        have hep := check_epoch hc hp
        have hpr := check_prod hc
        have hsq := check_seq hc
        intro q s hq
        change (if q = b.prod then some (notS (T.get b.prod) b o) else T q) = some s at hq
        split at hq
        · rename_i eq
          cases hq
          subst eq
          have e1 := notS_epoch (T.get b.prod) b o
          have e2 := notS_next (T.get b.prod) b o
          have hb5 : (T.get b.prod).last.length ≤ 5 := by rw [PSt.last_len]; exact (hok b.prod).cnt
          by_cases hk : b.kind = 1
          · have hm := check_many hc hk
            have hl := plain_len hk
            rw [hl] at hsq
            have hnx := dec_next hdec hp hk
            have e3 := notS_last (hok b.prod) (b := b) (o := o) hk
            rw [if_pos hk] at e2
            refine rightE_mk hep.2.2 hpr.2 (by simp only [e1]; omega) (by simp only [e1]; omega) (by simp only [e2]; rw [← hnx]; omega) (by simp only [e2]; rw [← hnx]; omega) ?_ ?_
            · simp only [e3]
              refine addL_len _ ?_
              split
              · exact hb5
              · simp
            · simp only [e3, e2]
              rw [← hnx]
              refine addL_lead (d := ⟨b.seq, b.recs.length, o⟩) ?_ (by simp only; omega) (by simp only; omega) ho rfl
              rw [hnx]
              by_cases hee : (T.get b.prod).epoch = b.epoch
              · rw [if_pos hee, if_pos hee]
                rcases h.get b.prod with hg | hg
                · rw [hg]; rfl
                · exact (rightE_all hg).2.2.2
              · rw [if_neg hee, if_neg hee]; rfl
          · have e3 : (notS (T.get b.prod) b o).last = if (T.get b.prod).epoch = b.epoch then (T.get b.prod).last else [] := by
              unfold notS
              rw [if_pos hk]
              split <;> rfl
            rw [if_neg hk] at e2
            have hbase : 0 ≤ (if (T.get b.prod).epoch = b.epoch then (T.get b.prod).next else 0) ∧ (if (T.get b.prod).epoch = b.epoch then (T.get b.prod).next else 0) ≤ 2147483648 ∧ leadR (if (T.get b.prod).epoch = b.epoch then (T.get b.prod).last else []).reverse (if (T.get b.prod).epoch = b.epoch then (T.get b.prod).next else 0) = true := by
              split
              · rcases h.get b.prod with hg | hg
                · rw [hg]; exact ⟨by decide, by decide, rfl⟩
                · have := rightE_all hg
                  exact ⟨this.2.1, this.2.2.1, this.2.2.2⟩
              · exact ⟨by decide, by decide, rfl⟩
            refine rightE_mk hep.2.2 hpr.2 (by simp only [e1]; omega) (by simp only [e1]; omega) (by simp only [e2]; omega) (by simp only [e2]; omega) ?_ ?_
            · simp only [e3]
              split
              · exact hb5
              · simp
            · simp only [e3, e2, Int.add_zero]
              exact hbase.2.2
        · exact h q s hq
/-- Two tables that say the same. -/
structure EqT (T U : Tb) : Prop where
  some : ∀ p, (T p).isSome = (U p).isSome
  epoch : ∀ p, (T.get p).epoch = (U.get p).epoch
  next : ∀ p, (T.get p).next = (U.get p).next
  last : ∀ p, (T.get p).last = (U.get p).last
theorem EqT.dec {T U : Tb} (h : EqT T U) (b : Bat) : decN T b = decN U b := by
  unfold decN
  rw [h.epoch, h.next, h.last]
theorem EqT.note {T U : Tb} (h : EqT T U) (hT : ∀ p, (T.get p).ok) (hU : ∀ p, (U.get p).ok) (b : Bat) (o : Int) : (notN T b o).1 = (notN U b o).1 ∧ EqT (notN T b o).2 (notN U b o).2 := by
  unfold notN
  rw [h.dec b]
  split
  · exact ⟨rfl, h⟩
  · split
    · exact ⟨rfl, h⟩
    · split
      · exact ⟨rfl, h⟩
      · refine ⟨rfl, fun p => ?_, fun p => ?_, fun p => ?_, fun p => ?_⟩
        · show (if p = b.prod then Option.some (notS (T.get b.prod) b o) else T p).isSome = (if p = b.prod then Option.some (notS (U.get b.prod) b o) else U p).isSome
          split
          · rfl
          · exact h.some p
        · simp only [get_set]
          split
          · rw [notS_epoch, notS_epoch]
          · exact h.epoch p
        · simp only [get_set]
          split
          · rw [notS_next, notS_next, h.epoch, h.next]
          · exact h.next p
        · simp only [get_set]
          split
          · by_cases hk : b.kind = 1
            · rw [notS_last (hT _) hk, notS_last (hU _) hk, h.epoch, h.last]
            · have key : ∀ s : PSt, (notS s b o).last = if s.epoch = b.epoch then s.last else [] := fun s => by
                unfold notS
                rw [if_pos hk]
                split <;> rfl
              rw [key, key, h.epoch, h.last]
          · exact h.last p
theorem foldl_set (F : Int → PSt) : ∀ (ks : List Int) (A : Tb) (p : Int), (ks.foldl (fun A q => A.set q (F q)) A) p = if p ∈ ks then some (F p) else A p
  | [], A, p => by simp
  | q :: ks, A, p => by
    rw [List.foldl_cons, foldl_set F ks]
    by_cases h : p ∈ ks
    · simp [h]
    · rw [if_neg h]
      unfold Tb.set
      by_cases e : p = q
      · subst e; simp
      · simp [e, h]
theorem loadT_ents (T : Tb) (ks : List Int) (p : Int) : (loadT (ks.map (entOf T))) p = if p ∈ ks then some (stF (T.get p).epoch (T.get p).next (T.get p).last) else none := by
  unfold loadT
  rw [List.foldl_map]
  exact foldl_set (fun q => stF (T.get q).epoch (T.get q).next (T.get q).last) ks tb0 p
theorem load_same {T : Tb} {ks : List Int} (h : KeysT T ks) (hok : ∀ p, (T.get p).ok) : EqT T (loadT (ks.map (entOf T))) := by
  have hg : ∀ p, (loadT (ks.map (entOf T))).get p = if p ∈ ks then stF (T.get p).epoch (T.get p).next (T.get p).last else ps0 := fun p => by
    unfold Tb.get
    rw [loadT_ents]
    split <;> rfl
  have hn : ∀ p, p ∉ ks → T.get p = ps0 := fun p hp => by
    unfold Tb.get
    cases hT : T p with
    | none => rfl
    | some s => exact absurd ((h.mem p).2 (by rw [hT]; rfl)) hp
  refine ⟨fun p => ?_, fun p => ?_, fun p => ?_, fun p => ?_⟩
  · rw [loadT_ents]
    by_cases hp : p ∈ ks
    · rw [if_pos hp]; exact (h.mem p).1 hp
    · rw [if_neg hp]
      cases hT : T p with
      | none => rfl
      | some s => exact absurd ((h.mem p).2 (by rw [hT]; rfl)) hp
  all_goals
    rw [hg]
    by_cases hp : p ∈ ks
    · rw [if_pos hp]
      first
        | exact (stF_epoch _ _ _).1.symm
        | exact (stF_epoch _ _ _).2.symm
        | exact (stF_last _ _ _ (by rw [PSt.last_len]; exact (hok p).cnt)).symm
    · rw [if_neg hp, hn p hp]
theorem loadOk_sorted : ∀ (l : List En) (le : Int), l.Pairwise (fun a b => a.p < b.p) → (∀ x ∈ l, le ≤ x.p ∧ rightE x = true) → loadOk l le = true
  | [], _, _, _ => rfl
  | x :: l, le, hp, hx => by
    unfold loadOk
    have h1 := hx x (by simp)
    rw [List.pairwise_cons] at hp
    rw [h1.2, loadOk_sorted l (x.p + 1) hp.2 (fun y hy => ⟨by have := hp.1 y hy; omega, (hx y (by simp [hy])).2⟩)]
    simp [h1.1]
theorem load_ok {T : Tb} {ks : List Int} (h : KeysT T ks) (hT : TbOk T) : loadOk (ks.map (entOf T)) 0 = true := by
  refine loadOk_sorted _ _ ?_ (fun x hx => ?_)
  · exact List.pairwise_map.2 (h.lt.imp (fun hab => hab))
  · obtain ⟨p, hp, rfl⟩ := List.mem_map.1 hx
    have hs := (h.mem p).1 hp
    cases hTp : T p with
    | none => rw [hTp] at hs; cases hs
    | some s =>
      have hr := hT p s hTp
      have hg : T.get p = s := by unfold Tb.get; rw [hTp]; rfl
      unfold entOf
      rw [hg]
      exact ⟨(rightE_parts hr).1, hr⟩
theorem EqT.keys {T U : Tb} {ks : List Int} (h : EqT T U) (hk : KeysT T ks) : KeysT U ks := ⟨hk.lt, fun p => by rw [hk.mem, h.some]⟩
end Go.Proofs.Ytobaeiicacpbnaa
