/- What a book does with any event, as plain data: what is asked, what is done, what may be. -/
import Derived.Test.YteogogmmnijagaaTExp
import Derived.Test.YteogogmmnijagaaTGrant
namespace Go.Proofs.Yteogogmmnijagaa
variable {B : Bk}

/-- What is asked ahead of an event that may be. -/
def Bk.ask (B : Bk) (x : Ev) : Bool × Int :=
  if x.kind = 1 then B.ask1 x else if x.kind = 2 then B.askW x ask2 else if x.kind = 3 then B.askW x ask3 else if x.kind = 4 then B.askW x ask4 else B.ask5 x
/-- What an event does that is taken, and not done. -/
noncomputable def Bk.grantTo (B : Bk) (x : Ev) : Bk := match B.num x.name with | none => B.more x.name x.tmo | some i => B.upd i ((B.at i).grant x.tmo)
noncomputable def Bk.deed (B : Bk) (x : Ev) : Bk :=
  if x.kind = 1 then B.grantTo x
  else if x.kind = 2 then B.upd x.prod.toNat ((B.at x.prod.toNat).add x.place x.now)
  else if x.kind = 3 then B.upd x.prod.toNat ((B.at x.prod.toNat).decide x.yes)
  else if x.kind = 4 then B.upd x.prod.toNat ((B.at x.prod.toNat).mark x.place)
  else B.expire x.now
def Bk.dec (B : Bk) (x : Ev) : Bool × Int := if x.may then B.ask x else (false, 1)
noncomputable def Bk.app (B : Bk) (x : Ev) : Bk := if (B.dec x).2 = 0 ∧ (B.dec x).1 = false then B.deed x else B

theorem dec_may {x : Ev} (h : B.dec x = (false, 0)) : x.may ∧ B.ask x = (false, 0) := by
  unfold Bk.dec at h
  by_cases hm : x.may
  · rw [if_pos hm] at h; exact ⟨hm, h⟩
  · rw [if_neg hm] at h; cases h
theorem app_yes {x : Ev} (h : B.dec x = (false, 0)) : B.app x = B.deed x := by unfold Bk.app; rw [h]; rfl
theorem app_no {x : Ev} (h : B.dec x ≠ (false, 0)) : B.app x = B := by
  unfold Bk.app
  rw [if_neg]
  rintro ⟨h1, h2⟩
  exact h (Prod.ext h2 h1)
/-- What is written is of a producer that is there, and of its epoch. -/
theorem askW_ok {x : Ev} {f : Pr → Ev → Bool × Int} (h : B.askW x f = (false, 0)) : ∃ i : Nat, i < B.ps.length ∧ x.prod = i ∧ x.prod.toNat = i ∧ (B.at i).ep = x.ep ∧ f (B.at i) x = (false, 0) := by
  rcases wr_cases B x with ⟨-, h0⟩ | ⟨i, h1, h2, h3, ⟨h4, h5⟩ | ⟨h4, h5⟩⟩
  · unfold Bk.askW at h; rw [h0] at h; cases h
  · unfold Bk.askW at h; rw [h5] at h; cases h
  · unfold Bk.askW at h
    rw [if_pos h5, h3] at h
    exact ⟨i, h1, h2, h3, h4, h⟩
theorem ask2_ok {p : Pr} {x : Ev} (h : ask2 p x = (false, 0)) : p.dec = false ∧ p.pl.contains x.place = false ∧ p.pl.length ≠ 100 := by
  unfold ask2 at h
  cases h1 : p.dec with
  | true => rw [h1] at h; cases h
  | false =>
    cases h2 : p.pl.contains x.place with
    | true => rw [h1, h2] at h; cases h
    | false =>
      rw [h1, h2] at h
      by_cases h3 : p.pl.length = 100
      · rw [if_neg (by decide), if_neg (by decide), if_pos h3] at h; cases h
      · exact ⟨rfl, rfl, h3⟩
theorem ask3_ok {p : Pr} {x : Ev} (h : ask3 p x = (false, 0)) : p.st = 1 := by
  unfold ask3 at h
  by_cases h1 : p.st = 1
  · exact h1
  · rw [if_neg h1] at h
    split at h <;> cases h
theorem ask4_ok {p : Pr} {x : Ev} (h : ask4 p x = (false, 0)) : p.dec = true ∧ x.place ∈ p.pl := by
  have h1 := congrArg Prod.fst h
  unfold ask4 at h1
  simp only [Bool.or_eq_false_iff, Bool.not_eq_false'] at h1
  exact ⟨h1.1, by simpa using h1.2⟩
theorem ask1_ok {x : Ev} (h : B.ask1 x = (false, 0)) : (B.num x.name = none ∧ B.ps.length ≠ 1000) ∨ ∃ i, B.num x.name = some i ∧ (B.at i).dec = false ∧ (B.at i).ep ≠ 2147483647 := by
  unfold Bk.ask1 at h
  cases hn : B.num x.name with
  | none =>
    rw [hn] at h
    by_cases h0 : B.ps.length = 1000
    · simp only [if_pos h0] at h; cases h
    · exact Or.inl ⟨rfl, h0⟩
  | some i =>
    rw [hn] at h
    cases h1 : (B.at i).dec with
    | true => simp only [h1] at h; cases h
    | false =>
      by_cases h2 : (B.at i).ep = 2147483647
      · simp only [h1, h2] at h; cases h
      · exact Or.inr ⟨i, rfl, h1, h2⟩
/-! ### What an event leaves may be -/
theorem cnt_take {x : Int} : ∀ {xs : List Int}, xs.Pairwise (· < ·) → (∀ a ∈ xs.take (cntP x xs), a < x) ∧ ∀ a ∈ xs.drop (cntP x xs), x ≤ a
  | [], _ => ⟨fun a h => by simp at h, fun a h => by simp at h⟩
  | y :: ys, h => by
    obtain ⟨h1, h2⟩ := List.pairwise_cons.1 h
    obtain ⟨i1, i2⟩ := cnt_take (x := x) h2
    by_cases hy : y < x
    · have e : cntP x (y :: ys) = cntP x ys + 1 := by unfold cntP; rw [List.countP_cons_of_pos (by simpa using hy)]
      rw [e, List.take_succ_cons, List.drop_succ_cons]
      exact ⟨fun a ha => (List.mem_cons.1 ha).elim (fun e => e ▸ hy) (i1 a), i2⟩
    · have e : cntP x (y :: ys) = 0 := by
        unfold cntP
        rw [List.countP_eq_zero]
        intro a ha
        rcases List.mem_cons.1 ha with rfl | ha
        · simpa using hy
        · have := h1 a ha; simp; omega
      rw [e]
      exact ⟨fun a ha => by simp at ha, fun a ha => (List.mem_cons.1 ha).elim (fun e => by omega) (fun ha => by have := h1 a ha; omega)⟩
theorem insZ_rise {x : Int} {xs : List Int} (h : xs.Pairwise (· < ·)) (hx : xs.contains x = false) : (insZ xs (cntP x xs) x).Pairwise (· < ·) := by
  obtain ⟨h1, h2⟩ := cnt_take (x := x) h
  have hn : ∀ a ∈ xs, a ≠ x := fun a ha e => by subst e; rw [List.contains_iff_mem.2 ha] at hx; cases hx
  unfold insZ
  rw [List.pairwise_append]
  refine ⟨h.sublist (List.take_sublist _ _), List.pairwise_cons.2 ⟨fun a ha => ?_, h.sublist (List.drop_sublist _ _)⟩, fun a ha b hb => ?_⟩
  · have := h2 a ha; have := hn a (List.mem_of_mem_drop ha); omega
  · have z := h1 a ha
    rcases List.mem_cons.1 hb with rfl | hb
    · exact z
    · have := h2 b hb; omega
theorem st_dec {p : Pr} (h : p.st = 0 ∨ p.st = 1 ∨ p.st = 2 ∨ p.st = 3) (hd : p.dec = false) : p.st = 0 ∨ p.st = 1 := by
  unfold Pr.dec at hd
  rcases h with e | e | e | e
  · exact Or.inl e
  · exact Or.inr e
  · rw [e] at hd; cases hd
  · rw [e] at hd; cases hd
theorem st_dec2 {p : Pr} (hd : p.dec = true) : p.st = 2 ∨ p.st = 3 := by
  unfold Pr.dec at hd
  simpa using hd
theorem add_ok {p : Pr} {x : Int} {now : Int} (h : PrOk p) (hn : inN now) (hx : p.pl.contains x = false) (hl : p.pl.length ≠ 100) : PrOk (p.add x now) := by
  have h1 : PrOk (p.open now) := by
    unfold Pr.open
    by_cases h0 : p.st = 0
    · rw [if_pos h0]; exact ⟨h.tmo, h.ep, Or.inr (Or.inl rfl), hn, h.rise, h.cnt⟩
    · rw [if_neg h0]; exact h
  exact ⟨h1.tmo, h1.ep, h1.st, h1.since, insZ_rise h.rise hx, by have := h.cnt; show (insZ p.pl _ x).length ≤ 100; rw [insZ_len]; omega⟩
theorem mark_ok {p : Pr} {x : Int} (h : PrOk p) : PrOk (p.mark x) :=
  settle_ok ⟨h.tmo, h.ep, h.st, h.since, h.rise.sublist (List.eraseIdx_sublist _ _), Nat.le_trans (List.eraseIdx_sublist _ _).length_le h.cnt⟩
theorem grant_ok {p : Pr} {t : Int} (h : PrOk p) (ht : 0 ≤ t ∧ t ≤ 3600) (he : p.ep ≠ 2147483647) : PrOk (p.grant t) := by
  have h1 : PrOk { p with ep := p.ep + 1, tmo := t } := ⟨ht, by have := h.ep; show 0 ≤ p.ep + 1 ∧ p.ep + 1 ≤ 2147483647; omega, h.st, h.since, h.rise, h.cnt⟩
  unfold Pr.grant
  split
  · exact decide_ok h1 false
  · exact h1
theorem more_ok {nm : Nm} {t : Int} (h : BkOk B) (hl : B.ps.length ≠ 1000) (ht : 0 ≤ t ∧ t ≤ 3600) : BkOk (B.more nm t) := by
  have hc := h.cnt
  refine ⟨by show (B.ps ++ [_]).length ≤ 1000; simp; omega, fun nm' i hi => ?_, fun p hp => ?_⟩
  · show i < (B.ps ++ [_]).length
    rw [List.length_append]
    have hi' : setN B.num nm (some B.ps.length) nm' = some i := hi
    by_cases e : nm' = nm
    · subst e; rw [setN_same] at hi'; injection hi' with e; subst e; simp
    · rw [setN_other _ e] at hi'; have := h.num _ _ hi'; simp; omega
  · have hp' : p ∈ B.ps ++ [⟨t, 0, 0, 0, []⟩] := hp
    rcases List.mem_append.1 hp' with hp | hp
    · exact h.pr p hp
    · obtain rfl := List.mem_singleton.1 hp
      exact ⟨ht, by simp, Or.inl rfl, by simp [inN], List.Pairwise.nil, by simp⟩
theorem expireB_ok (h : BkOk B) (now : Int) : BkOk (B.expire now) := by
  refine ⟨by unfold Bk.expire; simpa using h.cnt, fun nm i hi => by unfold Bk.expire; simpa using h.num nm i hi, fun p hp => ?_⟩
  unfold Bk.expire at hp
  obtain ⟨q, hq, rfl⟩ := List.mem_map.1 hp
  split
  · exact expire_ok (h.pr q hq)
  · exact h.pr q hq
theorem tmo_may {x : Ev} (h : x.may) (hk : x.kind = 1) : 0 ≤ x.tmo ∧ x.tmo ≤ 3600 := by
  have h1 := (h.2.2.1 hk).2
  unfold tmoOk at h1
  simp at h1
  omega
theorem now_may {x : Ev} (h : x.may) : inN x.now := h.2.2.2.1.2.2.2.2
theorem app_ok (h : BkOk B) (x : Ev) : BkOk (B.app x) := by
  by_cases hd : B.dec x = (false, 0)
  · obtain ⟨hm, ha⟩ := dec_may hd
    rw [app_yes hd]
    unfold Bk.deed
    unfold Bk.ask at ha
    by_cases k1 : x.kind = 1
    · rw [if_pos k1] at ha ⊢
      unfold Bk.grantTo
      rcases ask1_ok ha with ⟨hn, hl⟩ | ⟨i, hn, -, he⟩
      · rw [hn]; exact more_ok h hl (tmo_may hm k1)
      · rw [hn]; exact upd_ok h (grant_ok (h.at i) (tmo_may hm k1) he)
    · rw [if_neg k1] at ha ⊢
      by_cases k2 : x.kind = 2
      · rw [if_pos k2] at ha ⊢
        obtain ⟨i, hi, -, e, -, hf⟩ := askW_ok ha
        obtain ⟨-, f2, f3⟩ := ask2_ok hf
        rw [e]
        exact upd_ok h (add_ok (h.at i) (now_may hm) f2 f3)
      · rw [if_neg k2] at ha ⊢
        by_cases k3 : x.kind = 3
        · rw [if_pos k3] at ha ⊢
          exact upd_ok h (decide_ok (h.at _) _)
        · rw [if_neg k3] at ha ⊢
          by_cases k4 : x.kind = 4
          · rw [if_pos k4]; exact upd_ok h (mark_ok (h.at _))
          · rw [if_neg k4]; exact expireB_ok h _
  · rw [app_no hd]; exact h
/-! ### P1606, P1607: a transaction is decided once, epochs never fall -/
/-- What one event may do to a producer. -/
structure PNx (p q : Pr) : Prop where
  ep : p.ep ≤ q.ep
  st : q.st = 0 ∨ q.st = 1 ∨ q.st = 2 ∨ q.st = 3
  c : p.st = 2 → q.st = 2 ∨ q.st = 0
  a : p.st = 3 → q.st = 3 ∨ q.st = 0
  e : p.st = 0 → q.st = 0 ∨ q.st = 1
theorem PNx.refl {p : Pr} (h : PrOk p) : PNx p p := ⟨Int.le_refl _, h.st, Or.inl, Or.inl, Or.inl⟩
theorem settle_ep (p : Pr) : p.settle.ep = p.ep := by unfold Pr.settle; split <;> rfl
theorem settle_st (p : Pr) : p.settle.st = p.st ∨ p.settle.st = 0 := by
  unfold Pr.settle
  split
  · exact Or.inr rfl
  · exact Or.inl rfl
theorem decide_st (p : Pr) (y : Bool) : (p.decide y).st = outc y ∨ (p.decide y).st = 0 := settle_st _
theorem outc_st (y : Bool) : outc y = 2 ∨ outc y = 3 := by
  cases y
  · exact Or.inr rfl
  · exact Or.inl rfl
/-- Whoever is Open is decided. -/
theorem PNx.decided {p q : Pr} (hp : p.st = 1) (he : p.ep ≤ q.ep) (hq : q.st = 2 ∨ q.st = 3 ∨ q.st = 0) : PNx p q :=
  ⟨he, by omega, fun h => by omega, fun h => by omega, fun h => by omega⟩
theorem decide_nx {p : Pr} (y : Bool) (h : p.st = 1) {q : Pr} (hq : p.ep ≤ q.ep) : PNx p (q.decide y) := by
  refine PNx.decided h (by unfold Pr.decide; rw [settle_ep]; exact hq) ?_
  have h1 := decide_st q y
  have h2 := outc_st y
  omega
theorem grant_nx {p : Pr} {t : Int} (h : PrOk p) (hd : p.dec = false) : PNx p (p.grant t) := by
  unfold Pr.grant
  by_cases h1 : p.st = 1
  · rw [if_pos h1]
    exact decide_nx false h1 (by show p.ep ≤ p.ep + 1; omega)
  · rw [if_neg h1]
    have h2 := st_dec h.st hd
    exact ⟨by show p.ep ≤ p.ep + 1; omega, h.st, fun e => by omega, fun e => by omega, fun e => Or.inl e⟩
theorem add_nx {p : Pr} {x now : Int} (h : PrOk p) (hd : p.dec = false) : PNx p (p.add x now) := by
  have h2 := st_dec h.st hd
  have e1 : (p.add x now).ep = p.ep := by unfold Pr.add Pr.open; split <;> rfl
  have e2 : (p.add x now).st = 1 := by
    unfold Pr.add Pr.open
    by_cases h0 : p.st = 0
    · rw [if_pos h0]
    · rw [if_neg h0]; show p.st = 1; omega
  exact ⟨by omega, by omega, fun e => by omega, fun e => by omega, fun e => Or.inr e2⟩
theorem mark_nx {p : Pr} {x : Int} (hd : p.dec = true) : PNx p (p.mark x) := by
  have h2 := st_dec2 hd
  have e1 : (p.mark x).ep = p.ep := by unfold Pr.mark; rw [settle_ep]
  have e2 : (p.mark x).st = p.st ∨ (p.mark x).st = 0 := settle_st _
  exact ⟨by omega, by omega, fun e => by omega, fun e => by omega, fun e => by omega⟩
theorem expire_nx {p : Pr} {now : Int} (h : PrOk p) : PNx p (if p.over now = true then p.expire else p) := by
  by_cases ho : p.over now = true
  · rw [if_pos ho]
    have h1 : p.st = 1 := by unfold Pr.over at ho; simp at ho; exact ho.1
    have := h.ep
    exact decide_nx false h1 (by show p.ep ≤ min (p.ep + 1) 2147483647; omega)
  · rw [if_neg ho]; exact PNx.refl h
theorem upd_nx {i : Nat} {p : Pr} (h : BkOk B) (hp : PNx (B.at i) p) : ∀ k, PNx (B.at k) ((B.upd i p).at k) := fun k => by
  by_cases e : k = i
  · subst e
    by_cases hi : k < B.ps.length
    · rw [Bk.upd_at hi]; exact hp
    · have : B.upd k p = B := by unfold Bk.upd; rw [List.set_eq_of_length_le (by omega)]
      rw [this]; exact PNx.refl (h.at k)
  · rw [Bk.upd_other e]; exact PNx.refl (h.at k)
theorem more_at {nm : Nm} {t : Int} (k : Nat) : (B.more nm t).at k = B.at k ∨ (k = B.ps.length ∧ (B.more nm t).at k = ⟨t, 0, 0, 0, []⟩) := by
  unfold Bk.at Bk.more
  by_cases h : k < B.ps.length
  · left; rw [List.getD_eq_getElem?_getD, List.getElem?_append_left h, List.getD_eq_getElem?_getD]
  · by_cases e : k = B.ps.length
    · right; refine ⟨e, ?_⟩; subst e; rw [List.getD_eq_getElem?_getD, List.getElem?_append_right (Nat.le_refl _)]; simp
    · left
      rw [List.getD_eq_getElem?_getD, List.getD_eq_getElem?_getD, List.getElem?_eq_none (by simp; omega), List.getElem?_eq_none (by omega)]
theorem app_nx (h : BkOk B) (x : Ev) : (∀ k, PNx (B.at k) ((B.app x).at k)) ∧ B.ps.length ≤ (B.app x).ps.length := by
  have hself : (∀ k, PNx (B.at k) (B.at k)) ∧ B.ps.length ≤ B.ps.length := ⟨fun k => PNx.refl (h.at k), Nat.le_refl _⟩
  by_cases hd : B.dec x = (false, 0)
  · obtain ⟨hm, ha⟩ := dec_may hd
    rw [app_yes hd]
    unfold Bk.deed
    unfold Bk.ask at ha
    by_cases k1 : x.kind = 1
    · rw [if_pos k1] at ha ⊢
      unfold Bk.grantTo
      rcases ask1_ok ha with ⟨hn, hl⟩ | ⟨i, hn, hdd, he⟩
      · rw [hn]
        refine ⟨fun k => ?_, by show _ ≤ (B.ps ++ [_]).length; simp⟩
        rcases more_at (B := B) (nm := x.name) (t := x.tmo) k with e | ⟨rfl, e⟩
        · show PNx _ ((B.more x.name x.tmo).at k); rw [e]; exact PNx.refl (h.at k)
        · show PNx _ ((B.more x.name x.tmo).at _)
          rw [e, at_len (Nat.le_refl _)]
          exact ⟨Int.le_refl _, Or.inl rfl, fun h => absurd h (by decide), fun h => absurd h (by decide), fun _ => Or.inl rfl⟩
      · rw [hn]
        refine ⟨upd_nx h (grant_nx (h.at i) hdd), by show _ ≤ (B.upd i _).ps.length; rw [Bk.upd_len]; exact Nat.le_refl _⟩
    · rw [if_neg k1] at ha ⊢
      by_cases k2 : x.kind = 2
      · rw [if_pos k2] at ha ⊢
        obtain ⟨i, hi, -, e, -, hf⟩ := askW_ok ha
        obtain ⟨f1, -, -⟩ := ask2_ok hf
        rw [e]
        exact ⟨upd_nx h (add_nx (h.at i) f1), by rw [Bk.upd_len]; exact Nat.le_refl _⟩
      · rw [if_neg k2] at ha ⊢
        by_cases k3 : x.kind = 3
        · rw [if_pos k3] at ha ⊢
          obtain ⟨i, hi, -, e, -, hf⟩ := askW_ok ha
          rw [e]
          exact ⟨upd_nx h (decide_nx _ (ask3_ok hf) (Int.le_refl _)), by rw [Bk.upd_len]; exact Nat.le_refl _⟩
        · rw [if_neg k3] at ha ⊢
          by_cases k4 : x.kind = 4
          · rw [if_pos k4] at ha ⊢
            obtain ⟨i, hi, -, e, -, hf⟩ := askW_ok ha
            obtain ⟨f1, -⟩ := ask4_ok hf
            rw [e]
            exact ⟨upd_nx h (mark_nx f1), by rw [Bk.upd_len]; exact Nat.le_refl _⟩
          · rw [if_neg k4]
            refine ⟨fun k => ?_, by unfold Bk.expire; simp⟩
            by_cases hk : k < B.ps.length
            · rw [expire_at _ hk]; exact expire_nx (h.at k)
            · rw [at_len (B := B) (by omega), at_len (by unfold Bk.expire; simp; omega)]; exact PNx.refl pr0_ok
  · rw [app_no hd]; exact hself
end Go.Proofs.Yteogogmmnijagaa
