/- What ProducerAgain keeps (P1206), as plain data. -/
import Derived.Test.YtobaeiicacpbnaaPKnows
import Derived.Test.YtobaeiicacpbnaaPOnceM
namespace Go.Proofs.Ytobaeiicacpbnaa
open Go.RowKit Go.Shelf

/-- How many numbers some batches take. -/
def lensD : List Dn → Int
  | [] => 0
  | d :: l => d.len + lensD l
theorem lensD_append (l m : List Dn) : lensD (l ++ m) = lensD l + lensD m := by
  induction l with
  | nil => simp [lensD]
  | cons d l ih => rw [List.cons_append, lensD, ih, lensD]; omega
/-- One behind the other from 0 on, each at 1000 and its number. -/
def AgOk (ds : List Dn) : Prop := ∀ j d, ds[j]? = some d → d.seq = lensD (ds.take j) ∧ 1 ≤ d.len ∧ d.len ≤ 8 ∧ d.off = 1000 + d.seq
theorem AgOk.snoc {ds : List Dn} (h : AgOk ds) (n : Int) (h1 : 1 ≤ n) (h8 : n ≤ 8) : AgOk (ds ++ [⟨lensD ds, n, 1000 + lensD ds⟩]) := by
  intro j d hd
  by_cases hj : j < ds.length
  · rw [List.getElem?_append_left hj] at hd
    have := h j d hd
    rw [List.take_append_of_le_length (by omega)]
    exact this
  · by_cases hj2 : j = ds.length
    · subst hj2
      rw [List.getElem?_append_right (by omega), Nat.sub_self] at hd
      simp at hd
      subst hd
      rw [List.take_left']
      · exact ⟨rfl, h1, h8, rfl⟩
      · rfl
    · rw [List.getElem?_eq_none (by simp; omega)] at hd; cases hd
theorem AgOk.sum {ds : List Dn} (h : AgOk ds) : ∀ j, j ≤ ds.length → (j : Int) ≤ lensD (ds.take j) ∧ lensD (ds.take j) ≤ 8 * j := by
  intro j
  induction j with
  | zero => intro _; simp [lensD]
  | succ j ih =>
    intro hj
    have hl : j < ds.length := by omega
    have h2 := h j ds[j] (List.getElem?_eq_getElem hl)
    rw [List.take_succ_eq_append_getElem hl, lensD_append]
    have := ih (by omega)
    simp only [lensD]
    omega
theorem AgOk.mono {ds : List Dn} (h : AgOk ds) {i j : Nat} (hi : i < j) (hj : j ≤ ds.length) : lensD (ds.take i) < lensD (ds.take j) := by
  induction j with
  | zero => omega
  | succ j ih =>
    have hl : j < ds.length := by omega
    have h2 := h j ds[j] (List.getElem?_eq_getElem hl)
    rw [List.take_succ_eq_append_getElem hl, lensD_append]
    simp only [lensD]
    by_cases e : i = j
    · subst e; omega
    · have := ih (by omega) (by omega)
      omega
def last5 (ds : List Dn) : List Dn := ds.drop (ds.length - 5)
theorem addL_last5 (ds : List Dn) (d : Dn) : addL (last5 ds) d = last5 (ds ++ [d]) := by
  unfold addL last5
  rw [List.length_drop, List.length_append]
  by_cases h : ds.length < 5
  · rw [if_pos (by omega), show ds.length - 5 = 0 by omega, show ds.length + [d].length - 5 = 0 by simp; omega]; rfl
  · rw [if_neg (by omega), List.tail_drop, show ds.length + [d].length - 5 = ds.length - 5 + 1 by simp; omega, List.drop_append_of_le_length (by omega)]
/-- A table behind these batches of producer 3 and epoch 2. -/
structure AgT (ds : List Dn) (T : Tb) : Prop where
  ok : AgOk ds
  emp : ds = [] → T = tb0
  full : ds ≠ [] → ∃ s, T = tb0.set 3 s ∧ s.epoch = 2 ∧ s.next = lensD ds ∧ s.last = last5 ds ∧ s.ok
theorem agT0 : AgT [] tb0 := ⟨fun j d h => by simp at h, fun _ => rfl, fun h => absurd rfl h⟩
def batA (q : Int) (m : Nat) : Bat := ⟨1, 3, 2, q, false, List.replicate m recK⟩
theorem check_A {q : Int} {m : Nat} (h0 : 0 ≤ q) (h1 : q ≤ 1000) (hm : 1 ≤ m) (h8 : m ≤ 8) : checkN (batA q m) = 0 := by
  have a1 : argOk (batA q m) = true := by simp [argOk, batA, Bat.marker]
  have a2 : manyOk (batA q m) = true := by simp [manyOk, batA, Bat.marker]; omega
  have a3 : (batA q m).recs.all recOk = true := by
    rw [List.all_eq_true]
    intro r hr
    rw [(List.mem_replicate.1 hr).2]
    decide
  have a4 : seqOk (batA q m) = true := by
    have e : lenN (batA q m) = (m : Int) := by rw [plain_len rfl]; simp [batA]
    simp only [seqOk, Bool.and_eq_true, decide_eq_true_eq]
    rw [e]
    show 0 ≤ q ∧ q ≤ 2147483648 - (m : Int)
    omega
  have a5 : sizeN (batA q m) ≤ 65536 := by
    show 18 + recsSize (List.replicate m recK) ≤ 65536
    rcases (show m = 1 ∨ m = 2 ∨ m = 3 ∨ m = 4 ∨ m = 5 ∨ m = 6 ∨ m = 7 ∨ m = 8 by omega) with rfl | rfl | rfl | rfl | rfl | rfl | rfl | rfl
    all_goals decide
  unfold checkN
  rw [if_pos a1, a2, a3]
  simp only [Bool.and_self, if_true]
  rw [if_pos a4, if_pos a5]
theorem get3 (s : PSt) : (tb0.set 3 s).get 3 = s := by simp [Tb.get, Tb.set]
theorem set_set (T : Tb) (p : Int) (s s' : PSt) : (T.set p s).set p s' = T.set p s' := by
  funext q
  unfold Tb.set
  by_cases h : q = p <;> simp [h]
theorem AgT.get {ds : List Dn} {T : Tb} (h : AgT ds T) : (ds = [] ∧ T.get 3 = ps0) ∨ ((T.get 3).epoch = 2 ∧ (T.get 3).next = lensD ds ∧ (T.get 3).last = last5 ds ∧ (T.get 3).ok) := by
  by_cases e : ds = []
  · exact Or.inl ⟨e, by rw [h.emp e]; rfl⟩
  · obtain ⟨s, rfl, h1, h2, h3, h4⟩ := h.full e
    rw [get3]
    exact Or.inr ⟨h1, h2, h3, h4⟩
theorem notS_last {s : PSt} (hs : s.ok) {b : Bat} {o : Int} (hk : b.kind = 1) : (notS s b o).last = addL (if s.epoch = b.epoch then s.last else []) ⟨b.seq, b.recs.length, o⟩ := by
  unfold notS
  rw [if_neg (by simp [hk])]
  by_cases he : s.epoch = b.epoch
  · rw [if_pos he, if_pos he]
    exact add_last (s := { s with epoch := b.epoch, next := s.next + b.recs.length }) ⟨hs.old, hs.cnt⟩ _
  · rw [if_neg he, if_neg he]
    exact add_last (s := { ps0 with epoch := b.epoch, next := ps0.next + b.recs.length }) ⟨ps0_ok.old, ps0_ok.cnt⟩ _
theorem notS_ok {s : PSt} (hs : s.ok) (b : Bat) (o : Int) : (notS s b o).ok := by
  unfold notS
  by_cases he : s.epoch = b.epoch
  · rw [if_pos he]
    split
    · exact ⟨hs.old, hs.cnt⟩
    · exact add_ok (s := { s with epoch := b.epoch, next := s.next + b.recs.length }) ⟨hs.old, hs.cnt⟩ _
  · rw [if_neg he]
    split
    · exact ⟨ps0_ok.old, ps0_ok.cnt⟩
    · exact add_ok (s := { ps0 with epoch := b.epoch, next := ps0.next + b.recs.length }) ⟨ps0_ok.old, ps0_ok.cnt⟩ _
/-- One more is noted. -/
theorem AgT.step {ds : List Dn} {T : Tb} (h : AgT ds T) {m : Nat} (hm : 1 ≤ m) (h8 : m ≤ 8) (hl : ds.length ≤ 100) :
    (notN T (batA (lensD ds) m) (1000 + lensD ds)).1 = 0 ∧ AgT (ds ++ [⟨lensD ds, m, 1000 + lensD ds⟩]) (notN T (batA (lensD ds) m) (1000 + lensD ds)).2 := by
  have hs := h.ok.sum ds.length (Nat.le_refl _)
  rw [List.take_length] at hs
  have hc := check_A (q := lensD ds) (m := m) (by omega) (by omega) hm h8
  have hd : decN T (batA (lensD ds) m) = (0, false, 0) := by
    unfold decN
    rw [if_neg (by rw [hc]; simp), if_neg (by simp [batA])]
    show (if (2 : Int) < (T.get 3).epoch then ((0, false, 50) : Int × Bool × Int) else if (1 : Int) ≠ 1 then (0, false, 0) else if (T.get 3).epoch < 2 then decS 0 [] (lensD ds) _ else decS (T.get 3).next (T.get 3).last (lensD ds) _) = _
    rcases h.get with ⟨e, hg⟩ | ⟨h1, h2, -, -⟩
    · subst e
      rw [hg]
      rfl
    · rw [h1, h2]
      simp [decS]
  have hn : notN T (batA (lensD ds) m) (1000 + lensD ds) = (0, T.set 3 (notS (T.get 3) (batA (lensD ds) m) (1000 + lensD ds))) := by
    unfold notN
    rw [if_neg (by omega), hd]
    simp [batA]
  rw [hn]
  refine ⟨rfl, h.ok.snoc m (by omega) (by omega), fun e => by simp at e, fun _ => ?_⟩
  have hT : ∀ s, T.set 3 s = tb0.set 3 s := fun s => by
    by_cases e : ds = []
    · rw [h.emp e]
    · obtain ⟨s0, rfl, -⟩ := h.full e
      rw [set_set]
  refine ⟨_, hT _, ?_⟩
  have e1 := notS_epoch (T.get 3) (batA (lensD ds) m) (1000 + lensD ds)
  have e2 := notS_next (T.get 3) (batA (lensD ds) m) (1000 + lensD ds)
  have hg : (T.get 3).ok := by
    rcases h.get with ⟨-, hg⟩ | ⟨-, -, -, h4⟩
    · rw [hg]; exact ps0_ok
    · exact h4
  have e3 := notS_last hg (b := batA (lensD ds) m) (o := 1000 + lensD ds) rfl
  have hb1 : (batA (lensD ds) m).epoch = 2 := rfl
  have hb2 : ((batA (lensD ds) m).recs.length : Int) = m := by simp [batA]
  have hb3 : (batA (lensD ds) m).seq = lensD ds := rfl
  have hb4 : (batA (lensD ds) m).kind = 1 := rfl
  rw [hb1, if_pos hb4, hb2] at e2
  rw [hb1, hb2, hb3] at e3
  refine ⟨e1, ?_, ?_, notS_ok hg _ _⟩
  · rw [e2, lensD_append]
    simp only [lensD]
    rcases h.get with ⟨e, hg⟩ | ⟨h1, h2, -, -⟩
    · subst e; rw [hg, if_neg (by decide)]; simp [lensD]
    · rw [if_pos h1, h2]; omega
  · rw [e3]
    rcases h.get with ⟨e, hg⟩ | ⟨h1, h2, h3, h4⟩
    · subst e
      rw [hg, if_neg (by decide)]
      rfl
    · rw [if_pos h1, h3, addL_last5]
theorem findD_mem {d : Dn} : ∀ l : List Dn, (∀ x ∈ l, x.seq = d.seq → x = d) → d ∈ l → findD d.seq d.len l = some d
  | [], _, h => by cases h
  | x :: l, hu, h => by
    unfold findD
    by_cases e : x.seq = d.seq ∧ x.len = d.len
    · rw [if_pos e, hu x (by simp) e.1]
    · rw [if_neg e]
      rcases List.mem_cons.1 h with h | h
      · subst h; exact absurd ⟨rfl, rfl⟩ e
      · exact findD_mem l (fun y hy => hu y (by simp [hy])) h
theorem findD_none {q n : Int} : ∀ l : List Dn, (∀ x ∈ l, x.seq ≠ q) → findD q n l = none
  | [], _ => rfl
  | x :: l, h => by
    unfold findD
    rw [if_neg (fun e => h x (by simp) e.1)]
    exact findD_none l (fun y hy => h y (by simp [hy]))
/-- One of them, decided again. -/
theorem AgT.again {ds : List Dn} {T : Tb} (h : AgT ds T) {k : Nat} {d : Dn} (hd : ds[k]? = some d) {m : Nat} (hm : d.len = m) (hl : ds.length ≤ 100) :
    decN T (batA d.seq m) = if ds.length ≤ k + 5 then (d.off, true, 0) else (0, false, 52) := by
  have hkl : k < ds.length := (List.getElem?_eq_some_iff.1 hd).1
  have hok := h.ok k d hd
  have hs := h.ok.sum ds.length (Nat.le_refl _)
  have hsk := h.ok.sum k (by omega)
  have hlt := h.ok.mono (i := k) (j := ds.length) hkl (Nat.le_refl _)
  rw [List.take_length] at hs hlt
  have hc := check_A (q := d.seq) (m := m) (by omega) (by omega) (by omega) (by omega)
  have huniq : ∀ j x, ds[j]? = some x → x.seq = d.seq → j = k := fun j x hx e => by
    have h1 := h.ok j x hx
    have hjl : j < ds.length := (List.getElem?_eq_some_iff.1 hx).1
    by_cases e1 : j < k
    · have := h.ok.mono (i := j) (j := k) e1 (by omega)
      omega
    · by_cases e2 : k < j
      · have := h.ok.mono (i := k) (j := j) e2 (by omega)
        omega
      · omega
  have hne : ds ≠ [] := fun e => by rw [e] at hkl; simp at hkl
  obtain ⟨s, rfl, h1, h2, h3, -⟩ := h.full hne
  unfold decN
  rw [if_neg (by rw [hc]; simp), if_neg (by simp [batA])]
  show (if (2 : Int) < ((tb0.set 3 s).get 3).epoch then ((0, false, 50) : Int × Bool × Int) else if (1 : Int) ≠ 1 then (0, false, 0) else if ((tb0.set 3 s).get 3).epoch < 2 then decS 0 [] d.seq _ else decS ((tb0.set 3 s).get 3).next ((tb0.set 3 s).get 3).last d.seq ((List.replicate m recK).length : Nat)) = _
  rw [get3, h1, h2, h3, List.length_replicate, ← hm]
  simp only [Int.lt_irrefl, if_false, ne_eq, not_true_eq_false]
  unfold decS
  rw [if_neg (by omega)]
  by_cases hk : ds.length ≤ k + 5
  · have hf : findD d.seq d.len (last5 ds) = some d := by
      refine findD_mem _ (fun x hx e => ?_) ?_
      · obtain ⟨j, hj⟩ := List.mem_iff_getElem?.1 (List.mem_of_mem_drop hx)
        have := huniq j x hj e
        subst this
        rw [hd] at hj; cases hj; rfl
      · unfold last5
        refine List.mem_iff_getElem?.2 ⟨k - (ds.length - 5), ?_⟩
        rw [List.getElem?_drop, show ds.length - 5 + (k - (ds.length - 5)) = k by omega]
        exact hd
    rw [if_pos hk, hf]
  · have hf : findD d.seq d.len (last5 ds) = none := by
      refine findD_none _ (fun x hx e => ?_)
      unfold last5 at hx
      obtain ⟨j, hj⟩ := List.mem_iff_getElem?.1 hx
      rw [List.getElem?_drop] at hj
      have := huniq _ x hj e
      omega
    rw [if_neg hk, hf]
    simp only
    rw [if_pos (by omega)]
theorem AgT.noteAgain {ds : List Dn} {T : Tb} (h : AgT ds T) {k : Nat} {d : Dn} (hd : ds[k]? = some d) {m : Nat} (hm : d.len = m) (hl : ds.length ≤ 100) :
    notN T (batA d.seq m) 5 = (if ds.length ≤ k + 5 then 0 else 52, T) := by
  unfold notN
  rw [if_neg (by omega), h.again hd hm hl]
  by_cases hk : ds.length ≤ k + 5
  · simp [hk]
  · simp [hk]
end Go.Proofs.Ytobaeiicacpbnaa
