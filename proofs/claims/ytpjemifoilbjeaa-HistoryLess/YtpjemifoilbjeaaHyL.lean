/- P2004, the other way: what can have been is told by those that stand. -/
import Derived.Test.YtpjemifoilbjeaaHyK
namespace Go.Proofs.Ytpjemifoilbjeaa.Hy
open Go.RowKit

theorem sub_len {α : Type} : ∀ (xs ys : List α), xs.Nodup → (∀ x ∈ xs, x ∈ ys) → xs.length ≤ ys.length
  | [], _, _, _ => Nat.zero_le _
  | x :: xs, ys, hn, hs => by
    obtain ⟨n1, n2⟩ := List.nodup_cons.1 hn
    obtain ⟨a, b, e⟩ := List.append_of_mem (hs x (by simp))
    subst e
    have := sub_len xs (a ++ b) n2 (fun y hy => by
      have h1 := hs y (by simp [hy])
      simp only [List.mem_append, List.mem_cons] at h1 ⊢
      rcases h1 with h | rfl | h
      · exact Or.inl h
      · exact absurd hy n1
      · exact Or.inr h)
    simp only [List.length_append, List.length_cons] at this ⊢
    omega
theorem pair_or {α : Type} {S : α → α → Prop} : ∀ {l : List α}, l.Pairwise S → ∀ {x y}, x ∈ l → y ∈ l → x = y ∨ S x y ∨ S y x
  | [], _, _, _, h, _ => by cases h
  | a :: l, hp, x, y, hx, hy => by
    obtain ⟨h1, h2⟩ := List.pairwise_cons.1 hp
    rcases List.mem_cons.1 hx with rfl | hx
    · rcases List.mem_cons.1 hy with rfl | hy
      · exact Or.inl rfl
      · exact Or.inr (Or.inl (h1 y hy))
    · rcases List.mem_cons.1 hy with e | hy
      · rw [e]; exact Or.inr (Or.inr (h1 x hx))
      · exact pair_or h2 hx hy
theorem nodup_at {V : List Nm} (h : V.Nodup) {i j : Nat} {v : Nm} (hi : V[i]? = some v) (hj : V[j]? = some v) : i = j := by
  obtain ⟨h1, e1⟩ := List.getElem?_eq_some_iff.1 hi
  obtain ⟨h2, e2⟩ := List.getElem?_eq_some_iff.1 hj
  unfold List.Nodup at h
  rw [List.pairwise_iff_getElem] at h
  rcases Nat.lt_trichotomy i j with hl | hl | hl
  · exact absurd (e1.trans e2.symm) (h i j h1 h2 hl)
  · exact hl
  · exact absurd (e2.trans e1.symm) (h j i h2 h1 hl)
theorem apps_cons (c : Hc) (l : List Hc) : apps (c :: l) = if c.rd then apps l else c.val :: apps l := by
  unfold apps
  cases h : c.rd <;> simp [h]
theorem apps_mem {l : List Hc} {v : Nm} : v ∈ apps l ↔ ∃ c ∈ l, c.rd = false ∧ c.val = v := by
  unfold apps
  simp only [List.mem_map, List.mem_filter]
  constructor
  · rintro ⟨c, ⟨h1, h2⟩, h3⟩; exact ⟨c, h1, by simpa using h2, h3⟩
  · rintro ⟨c, h1, h2, h3⟩; exact ⟨c, ⟨h1, by rw [h2]; rfl⟩, h3⟩
/-- The level of a call in an order whose log ends as V. -/
def Lv (V : List Nm) (c : Hc) (x : Int) : Prop := (c.rd = true ∧ x = 2 * (c.vals.length : Int)) ∨ (c.rd = false ∧ ∃ k : Nat, V[k]? = some c.val ∧ x = 2 * (k : Int) + 1)
theorem Lv.uniq {V : List Nm} (hV : V.Nodup) {c : Hc} {x y : Int} (h1 : Lv V c x) (h2 : Lv V c y) : x = y := by
  rcases h1 with ⟨a, rfl⟩ | ⟨a, k, b, rfl⟩ <;> rcases h2 with ⟨a', rfl⟩ | ⟨a', k', b', rfl⟩
  · rfl
  · rw [a] at a'; cases a'
  · rw [a] at a'; cases a'
  · rw [nodup_at hV b b']
theorem mid_at (a : List Nm) (x : Nm) (b : List Nm) : (a ++ x :: b)[a.length]? = some x := by simp
theorem plays_facts : ∀ (t : List Hc) (log : List Nm), plays log t → (log ++ apps t).Nodup →
    (∀ c ∈ t, c.rd = false → c.dn = true → ∃ k : Nat, c.off = (k : Int) ∧ (log ++ apps t)[k]? = some c.val) ∧
    (∀ c ∈ t, c.rd = true → c.vals = (log ++ apps t).take c.vals.length ∧ c.vals.length ≤ (log ++ apps t).length) ∧
    (∀ c ∈ t, ∀ x, Lv (log ++ apps t) c x → 2 * (log.length : Int) ≤ x) ∧
    t.Pairwise (fun a b => ∀ x y, Lv (log ++ apps t) a x → Lv (log ++ apps t) b y → x ≤ y)
  | [], log, _, _ => ⟨fun _ h => (by cases h), fun _ h => (by cases h), fun _ h => (by cases h), List.Pairwise.nil⟩
  | c :: t, log, hp, hn => by
    have hp' : if c.rd then c.vals = log ∧ plays log t else (c.dn = true → c.off = (log.length : Int)) ∧ plays (log ++ [c.val]) t := hp
    cases hr : c.rd with
    | true =>
      rw [hr, if_pos rfl] at hp'
      have e : apps (c :: t) = apps t := by rw [apps_cons, hr]; rfl
      rw [e] at hn ⊢
      obtain ⟨i1, i2, i3, i4⟩ := plays_facts t log hp'.2 hn
      have hc : ∀ x, Lv (log ++ apps t) c x → x = 2 * (log.length : Int) := fun x hx => by
        rcases hx with ⟨-, rfl⟩ | ⟨a, -⟩
        · rw [hp'.1]
        · rw [hr] at a; cases a
      refine ⟨fun d hd h1 h2 => ?_, fun d hd h1 => ?_, fun d hd x hx => ?_, List.pairwise_cons.2 ⟨fun d hd x y hx hy => ?_, i4⟩⟩
      · rcases List.mem_cons.1 hd with rfl | hd
        · rw [hr] at h1; cases h1
        · exact i1 d hd h1 h2
      · rcases List.mem_cons.1 hd with rfl | hd
        · rw [hp'.1]; simp
        · exact i2 d hd h1
      · rcases List.mem_cons.1 hd with rfl | hd
        · have := hc x hx; omega
        · exact i3 d hd x hx
      · have h1 := hc x hx
        have h2 := i3 d hd y hy
        omega
    | false =>
      rw [hr, if_neg (by simp)] at hp'
      have e : log ++ apps (c :: t) = (log ++ [c.val]) ++ apps t := by rw [apps_cons, hr]; simp
      rw [e] at hn ⊢
      obtain ⟨i1, i2, i3, i4⟩ := plays_facts t (log ++ [c.val]) hp'.2 hn
      have hpos : ((log ++ [c.val]) ++ apps t)[log.length]? = some c.val := by rw [List.append_assoc]; exact mid_at _ _ _
      have hc : ∀ x, Lv ((log ++ [c.val]) ++ apps t) c x → x = 2 * (log.length : Int) + 1 := fun x hx => by
        rcases hx with ⟨a, -⟩ | ⟨-, k, h1, rfl⟩
        · rw [hr] at a; cases a
        · rw [nodup_at hn h1 hpos]
      have hl : ((log ++ [c.val]).length : Int) = (log.length : Int) + 1 := by simp
      refine ⟨fun d hd h1 h2 => ?_, fun d hd h1 => ?_, fun d hd x hx => ?_, List.pairwise_cons.2 ⟨fun d hd x y hx hy => ?_, i4⟩⟩
      · rcases List.mem_cons.1 hd with rfl | hd
        · exact ⟨log.length, hp'.1 h2, hpos⟩
        · exact i1 d hd h1 h2
      · rcases List.mem_cons.1 hd with rfl | hd
        · rw [hr] at h1; cases h1
        · exact i2 d hd h1
      · rcases List.mem_cons.1 hd with rfl | hd
        · have := hc x hx; omega
        · have := i3 d hd x hx; omega
      · have h1 := hc x hx
        have h2 := i3 d hd y hy
        omega
theorem apps_perm {l m : List Hc} (h : l.Perm m) : (apps l).Perm (apps m) := (h.filter _).map _
theorem apps_append (l m : List Hc) : apps (l ++ m) = apps l ++ apps m := by unfold apps; simp
variable {l : List Hc} {w : List Int}
/-- What can have been is told by the list of those that stand. -/
theorem complete (hr : Right l) (hw : w.Perm (undN 0 l)) (hs : w.Pairwise (fun u v => (ca l u.toNat).bg ≤ (ca l v.toNat).bg)) (h : HOk l) : ∃ s1 s2, Std l s1 s2 w ∧ Timely (stepsN s2 0 l) := by
  obtain ⟨ord, rest, hp, hrest, hrd, hpl, htm⟩ := h
  obtain ⟨V, hV⟩ : ∃ V, apps ord = V := ⟨_, rfl⟩
  have hVn : V.Nodup := by
    have h1 := (apps_perm hp).nodup_iff.2 hr.2.2
    rw [apps_append, hV] at h1
    exact (List.nodup_append.1 h1).1
  obtain ⟨f1, f2, -, f4⟩ := plays_facts ord [] hpl (by rw [List.nil_append, hV]; exact hVn)
  rw [List.nil_append, hV] at f1 f2 f4
  have hin : ∀ i, i < l.length → (ca l i).dn = true → ca l i ∈ ord := fun i hi hd => by
    rcases List.mem_append.1 (hp.mem_iff.2 (ca_mem hi)) with h | h
    · exact h
    · rw [hrest _ h] at hd; cases hd
  have hback : ∀ c ∈ ord, ∃ i, i < l.length ∧ ca l i = c := fun c hc => by
    obtain ⟨i, hi, e⟩ := List.getElem_of_mem (hp.mem_iff.1 (List.mem_append.2 (Or.inl hc)))
    exact ⟨i, hi, by rw [ca_at hi]; exact e⟩
  let R : Int → Int → Prop := fun c p => ∃ i k : Nat, c = (i : Int) ∧ p = (k : Int) ∧ i < l.length ∧ (ca l i).rd = false ∧ V[k]? = some (ca l i).val
  have hR1 : ∀ c p q, R c p → R c q → p = q := by
    rintro c p q ⟨i, k, rfl, rfl, hi, h1, h2⟩ ⟨j, k', e, rfl, hj, h3, h4⟩
    have : i = j := by omega
    subst this
    rw [nodup_at hVn h2 h4]
  have hR2 : ∀ c d p, R c p → R d p → c = d := by
    rintro c d p ⟨i, k, rfl, rfl, hi, h1, h2⟩ ⟨j, k', rfl, e, hj, h3, h4⟩
    have : k = k' := by omega
    subst this
    rw [h2] at h4
    injection h4 with h4
    rw [app_uniq hr.2.2 hi hj h1 h3 h4]
  have hRord : ∀ i p, R (i : Nat) p → ca l i ∈ ord ∧ Lv V (ca l i) (2 * p + 1) := by
    rintro i p ⟨j, k, e, rfl, hj, h1, h2⟩
    have : i = j := by omega
    subst this
    refine ⟨?_, Or.inr ⟨h1, k, h2, rfl⟩⟩
    have hm : (ca l i).val ∈ apps ord := by rw [hV]; exact List.mem_of_getElem? h2
    obtain ⟨c, hc, h3, h4⟩ := apps_mem.1 hm
    obtain ⟨j, hj2, e2⟩ := hback c hc
    have : j = i := app_uniq hr.2.2 hj2 hj (by rw [e2]; exact h3) h1 (by rw [e2]; exact h4)
    subst this
    rw [e2]; exact hc
  have hbyV : ∀ (k : Nat) v, V[k]? = some v → ∃ i : Nat, byN l v = some (i : Int) ∧ R (i : Int) (k : Int) := fun k v hk => by
    have hm : v ∈ apps ord := by rw [hV]; exact List.mem_of_getElem? hk
    obtain ⟨c, hc, h3, h4⟩ := apps_mem.1 hm
    obtain ⟨a, ha⟩ := byN_ex (hp.mem_iff.1 (List.mem_append.2 (Or.inl hc))) h3 h4
    obtain ⟨i, rfl, hi, h5, h6⟩ := byN_some ha
    exact ⟨i, ha, i, k, rfl, rfl, hi, h5, by rw [hk, h6]⟩
  have hread : ∀ i, i < l.length → ∀ (k : Nat) v, (ca l i).vals[k]? = some v → V[k]? = some v := fun i hi k v hk => by
    obtain ⟨v1, v2, -⟩ := may_vals (hr.2.1 _ (ca_mem hi))
    have hlt : k < (ca l i).vals.length := (List.getElem?_eq_some_iff.1 hk).1
    have hd : (ca l i).dn = true := by
      cases hd : (ca l i).dn with
      | true => rfl
      | false => rw [v2 hd] at hlt; simp at hlt
    have hrd' : (ca l i).rd = true := by
      cases hd : (ca l i).rd with
      | true => rfl
      | false => rw [v1 hd] at hlt; simp at hlt
    have h1 := (f2 _ (hin i hi hd) hrd').1
    have h2 : ((V.take (ca l i).vals.length))[k]? = some v := by rw [← h1]; exact hk
    rw [List.getElem?_take_of_lt hlt] at h2
    exact h2
  have hdoneR : ∀ i, i < l.length → (ca l i).rd = false → (ca l i).dn = true → R (i : Nat) (ca l i).off := fun i hi h1 h2 => by
    obtain ⟨k, e, hk⟩ := f1 _ (hin i hi h2) h1 h2
    exact ⟨i, k, rfl, e, hi, h1, hk⟩
  have hpairs : ∀ c p, some (c, p) ∈ allPr l 0 l → R c p := fun c p hm => by
    obtain ⟨i, hi, hm⟩ := (allPr_mem l 0).1 hm
    rw [Nat.zero_add] at hm
    rcases callP_mem.1 hm with ⟨h1, h2, rfl, rfl⟩ | ⟨k, v, h1, h2, rfl⟩
    · exact hdoneR i hi h2 h1
    · obtain ⟨a, ha, hR⟩ := hbyV k v (hread i hi k v h1)
      rw [h2] at ha
      injection ha with ha
      subst ha
      exact hR
  have hnone : none ∉ allPr l 0 l := fun hm => by
    obtain ⟨i, hi, hm⟩ := (allPr_mem l 0).1 hm
    obtain ⟨v, hv, hb⟩ := callP_none.1 hm
    obtain ⟨k, hk⟩ := List.getElem?_of_mem hv
    obtain ⟨a, ha, -⟩ := hbyV k v (hread i hi k v hk)
    rw [hb] at ha; cases ha
  obtain ⟨s1, e1⟩ := hear_ex R hR1 hR2 (allPr l 0 l) s0 s0_bij (fun c p h => nomatch h) hnone hpairs
  obtain ⟨b1, -, hs1⟩ := hear_some _ _ _ s0_bij e1
  have hs1 : ∀ c p, s1.1 p = some c ↔ some (c, p) ∈ allPr l 0 l := fun c p => by
    rw [hs1]
    constructor
    · rintro (h | h)
      · cases h
      · exact h
    · exact Or.inr
  have hs1R : ∀ c p, s1.1 p = some c → R c p := fun c p h => hpairs c p ((hs1 c p).1 h)
  have hdone1 : ∀ i, i < l.length → (ca l i).rd = false → (ca l i).dn = true → s1.1 (ca l i).off = some (i : Int) := fun i hi h1 h2 => by
    rw [hs1, allPr_mem]
    exact ⟨i, hi, callP_mem.2 (Or.inl ⟨h2, h1, by simp, rfl⟩)⟩
  have hshown : shownN l ≤ (V.length : Int) := shown_le (by omega) (fun c hc hd => by
    obtain ⟨i, hi, e⟩ := List.getElem_of_mem hc
    have e : ca l i = c := by rw [ca_at hi]; exact e
    subst e
    unfold Hc.shows
    cases h : (ca l i).rd with
    | true => rw [if_pos rfl]; have := (f2 _ (hin i hi hd) h).2; omega
    | false =>
      rw [if_neg (by simp)]
      obtain ⟨k, ek, hk⟩ := f1 _ (hin i hi hd) h hd
      have := (List.getElem?_eq_some_iff.1 hk).1
      omega)
  have hwn : w.Nodup := hw.nodup_iff.2 (undN_nodup l 0)
  -- who really stood in a gap
  let g : Int → Int := fun p => (byN l (V.getD p.toNat [])).getD 0
  have hg : ∀ p ∈ gaps s1 (plN (shownN l)), R (g p) p ∧ g p ∈ free s1 w := fun p hp2 => by
    obtain ⟨m1, m2⟩ := List.mem_filter.1 hp2
    obtain ⟨p0, p1⟩ := plN_mem.1 m1
    have hlt : p.toNat < V.length := by omega
    obtain ⟨i, hb, hRi'⟩ := hbyV p.toNat V[p.toNat] (List.getElem?_eq_getElem hlt)
    have eg : g p = (i : Int) := by
      show (byN l (V.getD p.toNat [])).getD 0 = _
      rw [List.getD_eq_getElem?_getD, List.getElem?_eq_getElem hlt]
      show (byN l V[p.toNat]).getD 0 = _
      rw [hb]; rfl
    have ep : ((p.toNat : Nat) : Int) = p := by omega
    rw [ep] at hRi'
    have hRi := hRi'
    rw [eg]
    have hno : s1.1 p = none := by simpa using m2
    refine ⟨hRi, List.mem_filter.2 ⟨hw.mem_iff.2 ?_, ?_⟩⟩
    · obtain ⟨j, k, e, -, hj, h1, -⟩ := id hRi
      have : i = j := by omega
      subst this
      refine (undN_mem l 0).2 ⟨i, hj, h1, ?_, by simp⟩
      cases hd : (ca l i).dn with
      | false => rfl
      | true =>
        have h3 := hdone1 i hj h1 hd
        have h4 := hR1 _ _ _ (hs1R _ _ h3) hRi
        rw [h4, hno] at h3; cases h3
    · cases h2 : s1.2 (i : Int) with
      | none => rfl
      | some q =>
        have h3 := (b1 _ _).2 h2
        have h4 := hR1 _ _ _ (hs1R _ _ h3) hRi
        rw [h4, hno] at h3; cases h3
  have hgapn : (gaps s1 (plN (shownN l))).Nodup := (plN_nodup _).filter _
  have hginj : ∀ xs : List Int, xs.Nodup → (∀ p ∈ xs, p ∈ gaps s1 (plN (shownN l))) → (xs.map g).Nodup := fun xs hn hx => by
    unfold List.Nodup
    rw [List.pairwise_map]
    refine List.Pairwise.imp_of_mem ?_ hn
    intro a b ha hb hab e
    have h1 := (hg a (hx a ha)).1
    have h2 := (hg b (hx b hb)).1
    rw [e] at h1
    exact hab (hR1 _ _ _ h1 h2)
  have hlen : (gaps s1 (plN (shownN l))).length ≤ (free s1 w).length := by
    have := sub_len ((gaps s1 (plN (shownN l))).map g) (free s1 w) (hginj _ hgapn (fun p h => h)) (fun x hx => by
      obtain ⟨p, hp2, rfl⟩ := List.mem_map.1 hx
      exact (hg p hp2).2)
    simpa using this
  rcases fill_spec (plN (shownN l)) w s1 b1 (plN_nodup _) hwn with ⟨h1, -⟩ | ⟨-, s2, e2, b2, hs2⟩
  · omega
  · have hstd : Std l s1 s2 w := ⟨e1, e2, hw⟩
    have hst := hstd.stand hr
    refine ⟨s1, s2, hstd, ?_⟩
    have hS := (f4.and htm)
    have hbefore : ∀ x y, x ∈ ord → y ∈ ord → ∀ lx ly, Lv V x lx → Lv V y ly → lx < ly → y.dn = true → x.bg ≤ y.en := fun x y hx hy lx ly h1 h2 hlt hd => by
      rcases pair_or hS hx hy with rfl | h | h
      · have := h1.uniq hVn h2; omega
      · exact h.2 hd
      · have := h.1 _ _ h2 h1; omega
    have hsorted : (gaps s1 (plN (shownN l))).Pairwise (· < ·) := (plN_sorted _).filter _
    have hfs : (free s1 w).Pairwise (fun u v => (ca l u.toNat).bg ≤ (ca l v.toNat).bg) := hs.filter _
    -- where a standing one really stood, or who stood no later and began no sooner
    have hearly : ∀ (i : Nat) p, i < l.length → s2.1 p = some (i : Int) → ∃ j q, j < l.length ∧ R (j : Nat) q ∧ q ≤ p ∧ (ca l i).bg ≤ (ca l j).bg := fun i p hi hip => by
      rcases (hs2 _ _).1 hip with h | h
      · exact ⟨i, p, hi, hs1R _ _ h, Int.le_refl _, Int.le_refl _⟩
      · obtain ⟨j, hj, e⟩ := List.getElem_of_mem h
        rw [List.getElem_zip] at e
        injection e with ea eb
        rw [List.length_zip] at hj
        have hjg : j < (gaps s1 (plN (shownN l))).length := by omega
        have hjf : j < (free s1 w).length := by omega
        have key : ∃ k, ∃ hk : k < (gaps s1 (plN (shownN l))).length, k ≤ j ∧ (ca l i).bg ≤ (ca l (g (gaps s1 (plN (shownN l)))[k]).toNat).bg := by
          refine Classical.byContradiction (fun hno => ?_)
          have hall : ∀ x ∈ ((gaps s1 (plN (shownN l))).take (j + 1)).map g, x ∈ (free s1 w).take j := fun x hx => by
            obtain ⟨p', hp', rfl⟩ := List.mem_map.1 hx
            obtain ⟨k, hk, ek⟩ := List.getElem_of_mem hp'
            rw [List.length_take] at hk
            rw [List.getElem_take] at ek
            have hkg : k < (gaps s1 (plN (shownN l))).length := by omega
            have hm := (hg p' (List.mem_of_mem_take hp')).2
            obtain ⟨r, hrl, er⟩ := List.getElem_of_mem hm
            have hlt : ¬ (ca l i).bg ≤ (ca l (g p').toNat).bg := fun h => hno ⟨k, hkg, by omega, by rw [ek]; exact h⟩
            have hrj : r < j := by
              by_cases hle : j ≤ r
              · exfalso
                apply hlt
                by_cases e : j = r
                · subst e
                  rw [← er, eb]
                  simp
                · have := List.pairwise_iff_getElem.1 hfs j r hjf hrl (by omega)
                  rw [er, eb] at this
                  simpa using this
              · omega
            refine List.mem_iff_getElem.2 ⟨r, by rw [List.length_take]; omega, ?_⟩
            rw [List.getElem_take]; exact er
          have := sub_len _ _ (hginj _ (hgapn.sublist (List.take_sublist _ _)) (fun p h => List.mem_of_mem_take h)) hall
          rw [List.length_map, List.length_take, List.length_take] at this
          omega
        obtain ⟨k, hk, hkj, hbg⟩ := key
        have hRk := (hg _ (List.getElem_mem hk)).1
        obtain ⟨a, q, ea2, eq2, ha, hra, hVq⟩ := id hRk
        refine ⟨a, _, ha, by rw [← ea2]; exact hRk, ?_, by rw [ea2] at hbg; simpa using hbg⟩
        rw [← ea]
        by_cases e : k = j
        · subst e; exact Int.le_refl _
        · exact Int.le_of_lt (List.pairwise_iff_getElem.1 hsorted k j hk hjg (by omega))
    intro x hx y hy hlt
    obtain ⟨i, hi, hx⟩ := (stepsN_mem l 0).1 hx
    obtain ⟨j, hj, hy⟩ := (stepsN_mem l 0).1 hy
    rw [Nat.zero_add] at hx hy
    obtain ⟨-, -, ij3, ij4, ij5, -⟩ := may_vals (hr.2.1 _ (ca_mem hi))
    -- the later one is done, or never ends
    have hyc : y.2.2 = never ∨ ((ca l j).dn = true ∧ y.2.2 = (ca l j).en ∧ Lv V (ca l j) y.1) := by
      unfold stepN at hy
      cases h2 : s2.2 (j : Int) with
      | some p =>
        rw [h2] at hy
        simp only [List.mem_singleton] at hy
        subst hy
        cases hd : (ca l j).dn with
        | false => left; simp
        | true =>
          right
          obtain ⟨-, -, k, e, hk, hrk, hoff⟩ := hst.app _ _ ((b2 _ _).2 h2)
          have : j = k := by omega
          subst this
          refine ⟨rfl, by simp, ?_⟩
          have := (hRord j _ (hdoneR j hj hrk hd)).2
          rw [← hoff hd] at this
          exact this
      | none =>
        rw [h2] at hy
        cases hd : (ca l j).dn with
        | false => rw [hd] at hy; simp at hy
        | true =>
          rw [hd] at hy
          simp only [if_true, List.mem_singleton] at hy
          subst hy
          right
          refine ⟨rfl, rfl, Or.inl ⟨?_, rfl⟩⟩
          cases hrd2 : (ca l j).rd with
          | true => rfl
          | false =>
            have := (b2 _ _).1 (hst.done j hj hrd2 hd)
            rw [h2] at this; cases this
    have hxb : x.2.1 = (ca l i).bg := by
      unfold stepN at hx
      cases h2 : s2.2 (i : Int) with
      | some p => rw [h2] at hx; simp only [List.mem_singleton] at hx; subst hx; rfl
      | none =>
        rw [h2] at hx
        cases hd : (ca l i).dn with
        | false => rw [hd] at hx; simp at hx
        | true => rw [hd] at hx; simp only [if_true, List.mem_singleton] at hx; subst hx; rfl
    rcases hyc with e | ⟨hdj, e, hLy⟩
    · rw [e, hxb]; unfold never; omega
    · rw [e, hxb]
      unfold stepN at hx
      cases h2 : s2.2 (i : Int) with
      | some p =>
        rw [h2] at hx
        simp only [List.mem_singleton] at hx
        subst hx
        obtain ⟨a, q, ha, hRa, hq, hb⟩ := hearly i p hi ((b2 _ _).2 h2)
        obtain ⟨ho, hL⟩ := hRord a q hRa
        have hlt' : 2 * p + 1 < y.1 := hlt
        have := hbefore _ _ ho (hin j hj hdj) _ _ hL hLy (by omega) hdj
        omega
      | none =>
        rw [h2] at hx
        cases hd : (ca l i).dn with
        | false => rw [hd] at hx; simp at hx
        | true =>
          rw [hd] at hx
          simp only [if_true, List.mem_singleton] at hx
          subst hx
          have hri : (ca l i).rd = true := by
            cases hrd2 : (ca l i).rd with
            | true => rfl
            | false =>
              have := (b2 _ _).1 (hst.done i hi hrd2 hd)
              rw [h2] at this; cases this
          exact hbefore _ _ (hin i hi hd) (hin j hj hdj) _ _ (Or.inl ⟨hri, rfl⟩) hLy hlt hdj
end Go.Proofs.Ytpjemifoilbjeaa.Hy
