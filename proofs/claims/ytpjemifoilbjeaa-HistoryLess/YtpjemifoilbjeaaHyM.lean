/- Calls of a log as plain data: what may be, what there can have been; what the program makes of them, without times. -/
import Derived.Test.YtpjemifoilbjeaaAOwn
namespace Go.Proofs.Ytpjemifoilbjeaa.Hy
open Go.RowKit

open Classical in
noncomputable def setN {α β : Type} (f : α → Option β) (k : α) (x : Option β) : α → Option β := fun q => if q = k then x else f q
theorem setN_same {α β : Type} (f : α → Option β) (k : α) (x : Option β) : setN f k x k = x := by simp [setN]
theorem setN_other {α β : Type} (f : α → Option β) {q k : α} (h : q ≠ k) (x : Option β) : setN f k x q = f q := by simp [setN, h]

/-- A call, as plain data. -/
structure Hc where
  rd : Bool
  dn : Bool
  bg : Int
  en : Int
  off : Int
  val : Nm
  vals : List Nm
def hc0 : Hc := ⟨false, false, 0, 0, 0, [], []⟩
/-- May a call be, whatever the other ones are? -/
def Hc.may (c : Hc) : Bool :=
  if c.bg < 0 ∨ 1000000000 < c.bg then false
  else if c.dn = true ∧ (c.en ≤ c.bg ∨ 1000000000 < c.en) then false
  else if c.dn = false ∧ (c.en ≠ 0 ∨ c.off ≠ 0 ∨ 0 < c.vals.length) then false
  else if c.rd then decide (c.val = []) && decide (c.off = 0) && decide (c.vals.length ≤ 1000)
  else decide (c.vals.length = 0) && decide (0 ≤ c.off) && decide (c.off < 1000)
/-- The values of the appends. -/
def apps (l : List Hc) : List Nm := (l.filter (fun c => !c.rd)).map (·.val)
/-- May the history be? -/
def Right (l : List Hc) : Prop := l.length ≤ 1000 ∧ (∀ c ∈ l, c.may = true) ∧ (apps l).Nodup
/-- One by one on a log. -/
def plays : List Nm → List Hc → Prop
  | _, [] => True
  | log, c :: cs => if c.rd then c.vals = log ∧ plays log cs else (c.dn = true → c.off = log.length) ∧ plays (log ++ [c.val]) cs
/-- Two calls of an order, the first ahead: the second one did not end ahead of the first one's beginning. -/
def Tm (a b : Hc) : Prop := b.dn = true → a.bg ≤ b.en
/-- There can have been such a log. -/
def HOk (l : List Hc) : Prop := ∃ ord rest : List Hc, (ord ++ rest).Perm l ∧ (∀ c ∈ rest, c.dn = false) ∧ (∀ c ∈ ord, c.rd = true → c.dn = true) ∧ plays [] ord ∧ ord.Pairwise Tm
/-- Where appends stand: by places, and by appends. -/
abbrev Sd := (Int → Option Int) × (Int → Option Int)
noncomputable def put (s : Sd) (c p : Int) : Bool × Sd :=
  match s.1 p with
  | some t => (decide (t = c), s)
  | none => if (s.2 c).isSome then (false, s) else (true, (setN s.1 p (some c), setN s.2 c (some p)))
noncomputable def hearS : List (Option (Int × Int)) → Sd → Option Sd
  | [], s => some s
  | none :: _, _ => none
  | some (c, p) :: t, s => if (put s c p).1 then hearS t (put s c p).2 else none
def Bij (s : Sd) : Prop := ∀ c p, s.1 p = some c ↔ s.2 c = some p
theorem put_same {s : Sd} {c p : Int} (h : s.1 p = some c) : put s c p = (true, s) := by unfold put; rw [h]; simp
theorem put_bad {s : Sd} {c p : Int} : (put s c p).1 = true ↔ s.1 p = some c ∨ (s.1 p = none ∧ s.2 c = none) := by
  unfold put
  cases h : s.1 p with
  | some t => simp
  | none =>
    cases h2 : s.2 c with
    | none => simp
    | some q => simp
theorem put_new {s : Sd} {c p : Int} (h : s.1 p = none) (h2 : s.2 c = none) : put s c p = (true, (setN s.1 p (some c), setN s.2 c (some p))) := by
  unfold put; rw [h, h2]; simp
theorem set_bij {s : Sd} (hb : Bij s) {c p : Int} (h : s.1 p = none) (h2 : s.2 c = none) : Bij (setN s.1 p (some c), setN s.2 c (some p)) := by
  intro c' p'
  show setN s.1 p (some c) p' = some c' ↔ setN s.2 c (some p) c' = some p'
  by_cases e : p' = p
  · subst e
    rw [setN_same]
    by_cases e2 : c' = c
    · subst e2; rw [setN_same]; simp
    · rw [setN_other _ e2]
      constructor
      · intro h; injection h with h; exact absurd h.symm e2
      · intro h3; rw [← hb c' p', h] at h3; cases h3
  · rw [setN_other _ e]
    by_cases e2 : c' = c
    · subst e2
      rw [setN_same]
      constructor
      · intro h3; rw [hb, h2] at h3; cases h3
      · intro h3; injection h3 with h3; exact absurd h3.symm e
    · rw [setN_other _ e2]; exact hb c' p'
theorem set_iff {s : Sd} {c p c' p' : Int} (h : s.1 p = none) : setN s.1 p (some c) p' = some c' ↔ s.1 p' = some c' ∨ (c' = c ∧ p' = p) := by
  by_cases e : p' = p
  · subst e; rw [setN_same, h]; simp [eq_comm]
  · rw [setN_other _ e]; simp [e]
/-- What is heard stands, and nothing else. -/
theorem hear_some : ∀ (ps : List (Option (Int × Int))) (s s' : Sd), Bij s → hearS ps s = some s' → Bij s' ∧ none ∉ ps ∧ ∀ c p, s'.1 p = some c ↔ s.1 p = some c ∨ some (c, p) ∈ ps
  | [], s, s', hb, h => by
    injection h with h; subst h
    exact ⟨hb, by simp, fun c p => by simp⟩
  | none :: _, _, _, _, h => by cases h
  | some (c, p) :: t, s, s', hb, h => by
    have h1 : (if (put s c p).1 then hearS t (put s c p).2 else none) = some s' := h
    by_cases hp : (put s c p).1 = true
    · rw [if_pos hp] at h1
      rcases put_bad.1 hp with h2 | ⟨h2, h3⟩
      · rw [put_same h2] at h1
        obtain ⟨k1, k2, k3⟩ := hear_some t s s' hb h1
        refine ⟨k1, by simpa using k2, fun c' p' => ?_⟩
        rw [k3 c' p']
        constructor
        · rintro (h | h)
          · exact Or.inl h
          · exact Or.inr (by simp [h])
        · rintro (h | h)
          · exact Or.inl h
          · rcases List.mem_cons.1 h with h | h
            · injection h with h; injection h with e1 e2; subst e1 e2; exact Or.inl h2
            · exact Or.inr h
      · rw [put_new h2 h3] at h1
        obtain ⟨k1, k2, k3⟩ := hear_some t _ s' (set_bij hb h2 h3) h1
        refine ⟨k1, by simpa using k2, fun c' p' => ?_⟩
        rw [k3 c' p']
        show setN s.1 p (some c) p' = some c' ∨ _ ↔ _
        rw [set_iff h2]
        simp only [List.mem_cons, Option.some.injEq, Prod.mk.injEq]
        constructor
        · rintro ((h | h) | h)
          · exact Or.inl h
          · exact Or.inr (Or.inl h)
          · exact Or.inr (Or.inr h)
        · rintro (h | h | h)
          · exact Or.inl (Or.inl h)
          · exact Or.inl (Or.inr h)
          · exact Or.inr h
    · rw [if_neg hp] at h1; cases h1
/-- What agrees is heard. -/
theorem hear_ex (R : Int → Int → Prop) (hR : ∀ c p q, R c p → R c q → p = q) (hR2 : ∀ c d p, R c p → R d p → c = d) : ∀ (ps : List (Option (Int × Int))) (s : Sd), Bij s → (∀ c p, s.1 p = some c → R c p) → none ∉ ps → (∀ c p, some (c, p) ∈ ps → R c p) → ∃ s', hearS ps s = some s'
  | [], s, _, _, _, _ => ⟨s, rfl⟩
  | none :: _, _, _, _, h, _ => absurd (by simp) h
  | some (c, p) :: t, s, hb, hs, hn, hp => by
    have hn' : none ∉ t := fun h => hn (by simp [h])
    have hcp := hp c p (by simp)
    have hok : (put s c p).1 = true := by
      rw [put_bad]
      cases h1 : s.1 p with
      | some d => rw [hR2 d c p (hs d p h1) hcp]; exact Or.inl rfl
      | none =>
        refine Or.inr ⟨rfl, ?_⟩
        cases h2 : s.2 c with
        | none => rfl
        | some q =>
          have h3 := (hb c q).2 h2
          have := hR c q p (hs c q h3) hcp
          subst this
          rw [h1] at h3; cases h3
    show ∃ s', (if (put s c p).1 then hearS t (put s c p).2 else none) = some s'
    rw [if_pos hok]
    rcases put_bad.1 hok with h2 | ⟨h2, h3⟩
    · rw [put_same h2]
      exact hear_ex R hR hR2 t s hb hs hn' (fun c p h => hp c p (by simp [h]))
    · rw [put_new h2 h3]
      refine hear_ex R hR hR2 t _ (set_bij hb h2 h3) (fun c' p' h => ?_) hn' (fun c p h => hp c p (by simp [h]))
      rcases (set_iff h2).1 h with h | ⟨rfl, rfl⟩
      · exact hs _ _ h
      · exact hcp
/-- The first of those that wait that does not stand yet. -/
noncomputable def popS (p : Int) : List Int → Sd → Option (List Int × Sd)
  | [], _ => none
  | u :: w, s => if (put s u p).1 then some (w, (put s u p).2) else popS p w s
noncomputable def fillS : List Int → List Int → Sd → Option Sd
  | [], _, s => some s
  | p :: ps, w, s => if (s.1 p).isSome then fillS ps w s else match popS p w s with
    | none => none
    | some (w', s') => fillS ps w' s'
def free (s : Sd) (w : List Int) : List Int := w.filter (fun u => (s.2 u).isNone)
def gaps (s : Sd) (ps : List Int) : List Int := ps.filter (fun p => (s.1 p).isNone)
theorem pop_spec (p : Int) : ∀ (w : List Int) (s : Sd), Bij s → s.1 p = none → w.Nodup →
    (free s w = [] ∧ popS p w s = none) ∨ ∃ u w', u :: free s w' = free s w ∧ s.2 u = none ∧ w'.Sublist w ∧ u ∉ w' ∧ popS p w s = some (w', (setN s.1 p (some u), setN s.2 u (some p)))
  | [], s, _, _, _ => Or.inl ⟨rfl, rfl⟩
  | u :: w, s, hb, hp, hn => by
    obtain ⟨n1, n2⟩ := List.nodup_cons.1 hn
    show (free s (u :: w) = [] ∧ (if (put s u p).1 then some (w, (put s u p).2) else popS p w s) = none) ∨ ∃ u' w', _ ∧ _ ∧ _ ∧ _ ∧ (if (put s u p).1 then some (w, (put s u p).2) else popS p w s) = some (w', _)
    cases hu : s.2 u with
    | none =>
      right
      refine ⟨u, w, ?_, hu, List.sublist_cons_self _ _, n1, ?_⟩
      · unfold free; rw [List.filter_cons_of_pos (by rw [hu]; rfl)]
      · rw [put_new hp hu]; rfl
    | some q =>
      have hbad : ¬ (put s u p).1 = true := by
        rw [put_bad, hp, hu]; simp
      rw [if_neg hbad]
      have hf : free s (u :: w) = free s w := by unfold free; rw [List.filter_cons_of_neg (by rw [hu]; simp)]
      rw [hf]
      rcases pop_spec p w s hb hp n2 with h | ⟨u', w', h1, h2, h3, h4, h5⟩
      · exact Or.inl h
      · exact Or.inr ⟨u', w', h1, h2, h3.trans (List.sublist_cons_self _ _), h4, h5⟩
theorem free_set {s : Sd} {u p : Int} {w : List Int} (h : u ∉ w) : free (setN s.1 p (some u), setN s.2 u (some p)) w = free s w := by
  unfold free
  refine List.filter_congr (fun x hx => ?_)
  show (setN s.2 u (some p) x).isNone = _
  rw [setN_other _ (fun e => h (by rw [← e]; exact hx))]
theorem gaps_set {s : Sd} {u p : Int} {ps : List Int} (h : p ∉ ps) : gaps (setN s.1 p (some u), setN s.2 u (some p)) ps = gaps s ps := by
  unfold gaps
  refine List.filter_congr (fun x hx => ?_)
  show (setN s.1 p (some u) x).isNone = _
  rw [setN_other _ (fun e => h (by rw [← e]; exact hx))]
/-- What is filled: the gaps in their order, by those that wait in theirs. -/
theorem fill_spec : ∀ (ps w : List Int) (s : Sd), Bij s → ps.Nodup → w.Nodup →
    ((free s w).length < (gaps s ps).length ∧ fillS ps w s = none) ∨ ((gaps s ps).length ≤ (free s w).length ∧ ∃ s', fillS ps w s = some s' ∧ Bij s' ∧ ∀ c p, s'.1 p = some c ↔ s.1 p = some c ∨ (p, c) ∈ (gaps s ps).zip (free s w))
  | [], w, s, hb, _, _ => Or.inr ⟨Nat.zero_le _, s, rfl, hb, fun c p => by simp [gaps]⟩
  | p :: ps, w, s, hb, hp, hw => by
    obtain ⟨p1, p2⟩ := List.nodup_cons.1 hp
    show (_ ∧ (if (s.1 p).isSome then fillS ps w s else match popS p w s with
      | none => none
      | some (w', s') => fillS ps w' s') = none) ∨ (_ ∧ ∃ s', (if (s.1 p).isSome then fillS ps w s else match popS p w s with
      | none => none
      | some (w', s') => fillS ps w' s') = some s' ∧ _)
    cases h : s.1 p with
    | some t =>
      rw [if_pos (show (some t).isSome = true from rfl)]
      have hg : gaps s (p :: ps) = gaps s ps := by unfold gaps; rw [List.filter_cons_of_neg (by rw [h]; simp)]
      rw [hg]
      exact fill_spec ps w s hb p2 hw
    | none =>
      rw [if_neg (show ¬ (none : Option Int).isSome = true by simp)]
      have hg : gaps s (p :: ps) = p :: gaps s ps := by unfold gaps; rw [List.filter_cons_of_pos (by rw [h]; rfl)]
      rw [hg]
      rcases pop_spec p w s hb h hw with ⟨h1, h2⟩ | ⟨u, w', h1, h2, h3, h4, h5⟩
      · rw [h1, h2]
        exact Or.inl ⟨by simp, rfl⟩
      · rw [h5]
        have ih := fill_spec ps w' _ (set_bij hb h h2) p2 (hw.sublist h3)
        rw [free_set h4, gaps_set p1] at ih
        rw [← h1, List.length_cons, List.length_cons]
        rcases ih with ⟨i1, i2⟩ | ⟨i1, s', i2, i3, i4⟩
        · exact Or.inl ⟨by omega, i2⟩
        · refine Or.inr ⟨by omega, s', i2, i3, fun c q => ?_⟩
          rw [i4 c q]
          show setN s.1 p (some u) q = some c ∨ _ ↔ _
          rw [set_iff h, List.zip_cons_cons, List.mem_cons, Prod.mk.injEq]
          constructor
          · rintro ((h | ⟨a, b⟩) | h)
            · exact Or.inl h
            · exact Or.inr (Or.inl ⟨b, a⟩)
            · exact Or.inr (Or.inr h)
          · rintro (h | ⟨a, b⟩ | h)
            · exact Or.inl (Or.inl h)
            · exact Or.inl (Or.inr ⟨b, a⟩)
            · exact Or.inr h
/-- The append with a value. -/
def byN (l : List Hc) (v : Nm) : Option Int := (l.findIdx? (fun c => !c.rd && decide (c.val = v))).map (fun i => (i : Int))
def valP (l : List Hc) : Nat → List Nm → List (Option (Int × Int))
  | _, [] => []
  | k, v :: vs => (byN l v).map (fun i => (i, (k : Int))) :: valP l (k + 1) vs
def callP (l : List Hc) (i : Nat) (c : Hc) : List (Option (Int × Int)) := (if c.dn && !c.rd then [some ((i : Int), c.off)] else []) ++ valP l 0 c.vals
def allPr (l : List Hc) : Nat → List Hc → List (Option (Int × Int))
  | _, [] => []
  | i, c :: cs => callP l i c ++ allPr l (i + 1) cs
def Hc.shows (c : Hc) : Int := if c.rd then c.vals.length else c.off + 1
def shownN : List Hc → Int
  | [] => 0
  | c :: cs => if c.dn then max c.shows (shownN cs) else shownN cs
def ca (l : List Hc) (i : Nat) : Hc := l.getD i hc0
abbrev Stp := Int × Int × Int
def never : Int := 9223372036854775807
def stepN (s : Sd) (i : Nat) (c : Hc) : List Stp :=
  match s.2 i with
  | some p => [(2 * p + 1, c.bg, if c.dn then c.en else never)]
  | none => if c.dn then [(2 * (c.vals.length : Int), c.bg, c.en)] else []
def stepsN (s : Sd) : Nat → List Hc → List Stp
  | _, [] => []
  | i, c :: cs => stepN s i c ++ stepsN s (i + 1) cs
/-- No step of an order ended ahead of the beginning of one that is ahead of it. -/
def Timely (st : List Stp) : Prop := ∀ a ∈ st, ∀ b ∈ st, a.1 < b.1 → a.2.1 ≤ b.2.2
def undN : Nat → List Hc → List Int
  | _, [] => []
  | i, c :: cs => if !c.rd && !c.dn then (i : Int) :: undN (i + 1) cs else undN (i + 1) cs
def plN (n : Int) : List Int := (List.range n.toNat).map (fun k : Nat => (k : Int))
def s0 : Sd := (fun _ => none, fun _ => none)
theorem s0_bij : Bij s0 := fun c p => by
  constructor
  · intro h; cases h
  · intro h; cases h

theorem ca_at {l : List Hc} {i : Nat} (h : i < l.length) : ca l i = l[i] := by unfold ca; rw [List.getD_eq_getElem?_getD, List.getElem?_eq_getElem h]; rfl
theorem ca_mem {l : List Hc} {i : Nat} (h : i < l.length) : ca l i ∈ l := by rw [ca_at h]; exact List.getElem_mem h
theorem valP_mem {l : List Hc} {c p : Int} : ∀ (vs : List Nm) (k : Nat), some (c, p) ∈ valP l k vs ↔ ∃ j v, vs[j]? = some v ∧ byN l v = some c ∧ p = ((k + j : Nat) : Int)
  | [], k => by simp [valP]
  | v :: vs, k => by
    show some (c, p) ∈ (byN l v).map (fun i => (i, (k : Int))) :: valP l (k + 1) vs ↔ _
    rw [List.mem_cons, valP_mem vs (k + 1)]
    constructor
    · rintro (h | ⟨j, v', h1, h2, h3⟩)
      · cases hb : byN l v with
        | none => rw [hb] at h; cases h
        | some i =>
          rw [hb] at h
          injection h with h; injection h with e1 e2
          subst e1 e2
          exact ⟨0, v, rfl, hb, by simp⟩
      · exact ⟨j + 1, v', h1, h2, by rw [h3]; congr 1; omega⟩
    · rintro ⟨j, v', h1, h2, h3⟩
      cases j with
      | zero =>
        injection h1 with h1; subst h1
        left; rw [h2, h3]; rfl
      | succ j => exact Or.inr ⟨j, v', h1, h2, by rw [h3]; congr 1; omega⟩
theorem valP_none {l : List Hc} : ∀ (vs : List Nm) (k : Nat), none ∈ valP l k vs ↔ ∃ v ∈ vs, byN l v = none
  | [], k => by simp [valP]
  | v :: vs, k => by
    show none ∈ (byN l v).map (fun i => (i, (k : Int))) :: valP l (k + 1) vs ↔ _
    rw [List.mem_cons, valP_none vs (k + 1)]
    cases hb : byN l v with
    | none => simp [hb]
    | some i => simp [hb]
theorem allPr_mem {l : List Hc} {x : Option (Int × Int)} : ∀ (cs : List Hc) (n : Nat), x ∈ allPr l n cs ↔ ∃ i, i < cs.length ∧ x ∈ callP l (n + i) (ca cs i)
  | [], n => by simp [allPr]
  | c :: cs, n => by
    show x ∈ callP l n c ++ allPr l (n + 1) cs ↔ _
    rw [List.mem_append, allPr_mem cs (n + 1)]
    constructor
    · rintro (h | ⟨i, h1, h2⟩)
      · exact ⟨0, by simp, h⟩
      · exact ⟨i + 1, by simpa using h1, by rw [show n + (i + 1) = n + 1 + i by omega]; exact h2⟩
    · rintro ⟨i, h1, h2⟩
      cases i with
      | zero => exact Or.inl h2
      | succ i => exact Or.inr ⟨i, by simpa using h1, by rw [show n + 1 + i = n + (i + 1) by omega]; exact h2⟩
theorem callP_mem {l : List Hc} {i : Nat} {x : Hc} {c p : Int} : some (c, p) ∈ callP l i x ↔ (x.dn = true ∧ x.rd = false ∧ c = (i : Int) ∧ p = x.off) ∨ ∃ (j : Nat) (v : Nm), x.vals[j]? = some v ∧ byN l v = some c ∧ p = (j : Int) := by
  unfold callP
  rw [List.mem_append, valP_mem]
  refine or_congr ?_ ?_
  · cases h1 : x.dn <;> cases h2 : x.rd <;> simp [eq_comm]
  · simp only [Nat.zero_add]
theorem callP_none {l : List Hc} {i : Nat} {x : Hc} : none ∈ callP l i x ↔ ∃ v ∈ x.vals, byN l v = none := by
  unfold callP
  rw [List.mem_append, valP_none]
  constructor
  · rintro (h | h)
    · cases h1 : x.dn <;> cases h2 : x.rd <;> simp [h1, h2] at h
    · exact h
  · exact Or.inr
theorem stepsN_mem {s : Sd} {x : Stp} : ∀ (cs : List Hc) (n : Nat), x ∈ stepsN s n cs ↔ ∃ i, i < cs.length ∧ x ∈ stepN s (n + i) (ca cs i)
  | [], n => by simp [stepsN]
  | c :: cs, n => by
    show x ∈ stepN s n c ++ stepsN s (n + 1) cs ↔ _
    rw [List.mem_append, stepsN_mem cs (n + 1)]
    constructor
    · rintro (h | ⟨i, h1, h2⟩)
      · exact ⟨0, by simp, h⟩
      · exact ⟨i + 1, by simpa using h1, by rw [show n + (i + 1) = n + 1 + i by omega]; exact h2⟩
    · rintro ⟨i, h1, h2⟩
      cases i with
      | zero => exact Or.inl h2
      | succ i => exact Or.inr ⟨i, by simpa using h1, by rw [show n + 1 + i = n + (i + 1) by omega]; exact h2⟩
theorem undN_mem {u : Int} : ∀ (cs : List Hc) (n : Nat), u ∈ undN n cs ↔ ∃ i, i < cs.length ∧ (ca cs i).rd = false ∧ (ca cs i).dn = false ∧ u = ((n + i : Nat) : Int)
  | [], n => by simp [undN]
  | c :: cs, n => by
    have h0 : u ∈ undN n (c :: cs) ↔ (c.rd = false ∧ c.dn = false ∧ u = (n : Int)) ∨ u ∈ undN (n + 1) cs := by
      show u ∈ (if !c.rd && !c.dn then (n : Int) :: undN (n + 1) cs else undN (n + 1) cs) ↔ _
      cases h1 : c.rd <;> cases h2 : c.dn <;> simp
    rw [h0, undN_mem cs (n + 1)]
    constructor
    · rintro (⟨a, b, e⟩ | ⟨i, h1, h2, h3, h4⟩)
      · exact ⟨0, by simp, a, b, e⟩
      · exact ⟨i + 1, by simpa using h1, h2, h3, by rw [h4]; congr 1; omega⟩
    · rintro ⟨i, h1, h2, h3, h4⟩
      cases i with
      | zero => exact Or.inl ⟨h2, h3, h4⟩
      | succ i => exact Or.inr ⟨i, by simpa using h1, h2, h3, by rw [h4]; congr 1; omega⟩
theorem undN_ge {u : Int} {cs : List Hc} {n : Nat} (h : u ∈ undN n cs) : (n : Int) ≤ u := by
  obtain ⟨i, _, _, _, e⟩ := (undN_mem cs n).1 h
  rw [e]; omega
theorem undN_nodup : ∀ (cs : List Hc) (n : Nat), (undN n cs).Nodup
  | [], _ => List.nodup_nil
  | c :: cs, n => by
    show (if !c.rd && !c.dn then (n : Int) :: undN (n + 1) cs else undN (n + 1) cs).Nodup
    split
    · exact List.nodup_cons.2 ⟨fun h => by have := undN_ge h; omega, undN_nodup cs (n + 1)⟩
    · exact undN_nodup cs (n + 1)
theorem shows_le {c : Hc} : ∀ {l : List Hc}, c ∈ l → c.dn = true → c.shows ≤ shownN l
  | [], h, _ => by cases h
  | d :: l, h, hd => by
    show c.shows ≤ if d.dn then max d.shows (shownN l) else shownN l
    rcases List.mem_cons.1 h with rfl | h
    · rw [if_pos hd]; omega
    · have := shows_le h hd
      split <;> omega
theorem shown_le {M : Int} (h0 : 0 ≤ M) : ∀ {l : List Hc}, (∀ c ∈ l, c.dn = true → c.shows ≤ M) → shownN l ≤ M
  | [], _ => h0
  | d :: l, h => by
    have ih := shown_le h0 (l := l) (fun c hc => h c (by simp [hc]))
    show (if d.dn then max d.shows (shownN l) else shownN l) ≤ M
    by_cases hd : d.dn = true
    · rw [if_pos hd]; have := h d (by simp) hd; omega
    · rw [if_neg hd]; exact ih
theorem shown_nn : ∀ {l : List Hc}, 0 ≤ shownN l
  | [] => Int.le_refl _
  | d :: l => by
    have ih := shown_nn (l := l)
    show 0 ≤ (if d.dn then max d.shows (shownN l) else shownN l)
    split <;> omega
theorem plN_mem {n p : Int} : p ∈ plN n ↔ 0 ≤ p ∧ p < n := by
  unfold plN
  simp only [List.mem_map, List.mem_range]
  constructor
  · rintro ⟨k, h1, rfl⟩; omega
  · rintro ⟨h1, h2⟩; exact ⟨p.toNat, by omega, by omega⟩
theorem plN_nodup (n : Int) : (plN n).Nodup := by
  unfold plN List.Nodup
  rw [List.pairwise_map]
  exact (List.nodup_range (n := n.toNat)).imp (fun h e => h (by omega))
theorem plN_sorted (n : Int) : (plN n).Pairwise (· < ·) := by
  unfold plN
  rw [List.pairwise_map]
  exact List.pairwise_lt_range.imp (fun h => by omega)
/-- What may be of calls. -/
theorem may_vals {c : Hc} (h : c.may = true) : (c.rd = false → c.vals = []) ∧ (c.dn = false → c.vals = []) ∧ (c.dn = true → c.bg < c.en ∧ c.en ≤ 1000000000) ∧ 0 ≤ c.bg ∧ c.bg ≤ 1000000000 ∧ (c.rd = false → 0 ≤ c.off ∧ c.off < 1000) ∧ c.vals.length ≤ 1000 := by
  unfold Hc.may at h
  split at h
  · cases h
  · rename_i h1
    split at h
    · cases h
    · rename_i h2
      split at h
      · cases h
      · rename_i h3
        have hd : c.dn = false → c.vals = [] := fun e => by
          have : ¬ (c.en ≠ 0 ∨ c.off ≠ 0 ∨ 0 < c.vals.length) := fun h => h3 ⟨e, h⟩
          exact List.eq_nil_of_length_eq_zero (by omega)
        have he : c.dn = true → c.bg < c.en ∧ c.en ≤ 1000000000 := fun e => by
          have : ¬ (c.en ≤ c.bg ∨ 1000000000 < c.en) := fun h => h2 ⟨e, h⟩
          omega
        cases hr : c.rd with
        | true =>
          rw [hr] at h
          simp only [if_true, Bool.and_eq_true, decide_eq_true_eq] at h
          exact ⟨fun h => (by cases h), hd, he, by omega, by omega, fun h => (by cases h), h.2⟩
        | false =>
          rw [hr] at h
          simp only [Bool.false_eq_true, if_false, Bool.and_eq_true, decide_eq_true_eq] at h
          exact ⟨fun _ => List.eq_nil_of_length_eq_zero h.1.1, hd, he, by omega, by omega, fun _ => ⟨h.1.2, h.2⟩, by omega⟩
theorem byN_some {l : List Hc} {v : Nm} {c : Int} (h : byN l v = some c) : ∃ i : Nat, c = (i : Int) ∧ i < l.length ∧ (ca l i).rd = false ∧ (ca l i).val = v := by
  unfold byN at h
  cases hf : l.findIdx? (fun c => !c.rd && decide (c.val = v)) with
  | none => rw [hf] at h; cases h
  | some i =>
    rw [hf] at h
    injection h with h
    obtain ⟨h1, h2, _⟩ := List.findIdx?_eq_some_iff_getElem.1 hf
    refine ⟨i, h.symm, h1, ?_, ?_⟩
    · have h2 := (Bool.and_eq_true _ _).mp h2; rw [ca_at h1]; simpa using h2.1
    · have h2 := (Bool.and_eq_true _ _).mp h2; rw [ca_at h1]; simpa using h2.2
theorem byN_ex {l : List Hc} {v : Nm} {c : Hc} (h : c ∈ l) (hr : c.rd = false) (hv : c.val = v) : ∃ i, byN l v = some i := by
  unfold byN
  cases hf : l.findIdx? (fun c => !c.rd && decide (c.val = v)) with
  | none =>
    have := List.findIdx?_eq_none_iff.1 hf c h
    rw [hr, hv] at this
    simp at this
  | some i => exact ⟨_, rfl⟩
/-- Two appends have two values. -/
theorem app_uniq : ∀ {l : List Hc}, (apps l).Nodup → ∀ {i j : Nat}, i < l.length → j < l.length → (ca l i).rd = false → (ca l j).rd = false → (ca l i).val = (ca l j).val → i = j
  | [], _, _, _, h, _, _, _, _ => by simp at h
  | c :: l, hn, i, j, hi, hj, ri, rj, hv => by
    have e : apps (c :: l) = if c.rd then apps l else c.val :: apps l := by
      unfold apps
      cases h : c.rd <;> simp [h]
    have hm : ∀ k, k < l.length → (ca l k).rd = false → (ca l k).val ∈ apps l := fun k hk hr => List.mem_map.2 ⟨ca l k, List.mem_filter.2 ⟨ca_mem hk, by rw [hr]; rfl⟩, rfl⟩
    have hn' : (apps l).Nodup := by
      rw [e] at hn
      split at hn
      · exact hn
      · exact (List.nodup_cons.1 hn).2
    cases i with
    | zero =>
      cases j with
      | zero => rfl
      | succ j =>
        have hc : c.rd = false := ri
        rw [e, hc] at hn
        have h1 : (c.val :: apps l).Nodup := hn
        exact absurd (hm j (by simpa using hj) rj) (by rw [show (ca l j).val = c.val from hv.symm]; exact (List.nodup_cons.1 h1).1)
    | succ i =>
      cases j with
      | zero =>
        have hc : c.rd = false := rj
        rw [e, hc] at hn
        have h1 : (c.val :: apps l).Nodup := hn
        exact absurd (hm i (by simpa using hi) ri) (by rw [show (ca l i).val = c.val from hv]; exact (List.nodup_cons.1 h1).1)
      | succ j => exact congrArg (· + 1) (app_uniq hn' (by simpa using hi) (by simpa using hj) ri rj hv)
end Go.Proofs.Ytpjemifoilbjeaa.Hy
