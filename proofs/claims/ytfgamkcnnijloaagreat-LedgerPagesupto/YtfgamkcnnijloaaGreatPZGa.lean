/- P1304 over plain data: what an entry leaves behind it, whatever it is. A ledger that a caller made: Apply and Decide of any entry, Start, End. -/
import Derived.Test.YtfgamkcnnijloaaGreatLStayM
import Derived.Test.YtfgamkcnnijloaaGreatLAppA
import Derived.Test.YtfgamkcnnijloaaGreatLKnows
namespace Go.Proofs.YtfgamkcnnijloaaGreat
open Go.RowKit

theorem rec_short {r : Rec} (h : recOk r = true) : r.key.size ≤ 65536 := by
  unfold recOk at h
  simp only [Bool.and_eq_true, decide_eq_true_eq] at h
  omega
/-- How great a ledger may be behind n entries. -/
structure LFew (g : Lg) (n : Nat) : Prop where
  rows : g.rows.length ≤ 64 * n
  opn : g.opn.length ≤ n
  gone : g.gone.length ≤ n
  keys : LKeys g
theorem few0 : LFew lg0 0 := ⟨by decide, by decide, by decide, fun r hr => by cases hr⟩
theorem opn_take {g : Lg} {b : Bat} {t : Tx} (h : t ∈ (takeB g b).opn) : t ∈ g.opn ∨ t = ⟨b.prod, g.fin⟩ := by
  unfold takeB at h
  dsimp only at h
  by_cases hk : b.kind ≠ 1
  · rw [if_pos hk] at h
    cases ho : opAt b.prod g.opn with
    | none => rw [ho] at h; exact Or.inl h
    | some i => rw [ho] at h; exact Or.inl (List.mem_of_mem_eraseIdx h)
  · rw [if_neg hk] at h
    by_cases hx : b.txn = true ∧ opAt b.prod g.opn = none
    · rw [if_pos hx] at h
      rcases List.mem_append.1 h with h | h
      · exact Or.inl h
      · exact Or.inr (by simpa using h)
    · rw [if_neg hx] at h
      exact Or.inl h
theorem few_take {g : Lg} {b : Bat} {n : Nat} (h : LFew g n) (hc : checkN b = 0) : LFew (takeB g b) (n + 1) := by
  have hn := (checkN_nums hc).2.2.2.2.2.2.2.1
  have hr := (checkN_ok hc).2.2.1
  refine ⟨?_, ?_, ?_, ?_⟩
  · show (g.rows ++ rowsB g.fin b b.recs).length ≤ _
    rw [List.length_append, rowsB_len]
    have := h.rows
    omega
  · unfold takeB
    dsimp only
    have h1 := h.opn
    by_cases hk : b.kind ≠ 1
    · rw [if_pos hk]
      cases ho : opAt b.prod g.opn with
      | none => dsimp only; omega
      | some i =>
        dsimp only
        have := List.length_eraseIdx_le g.opn i
        omega
    · rw [if_neg hk]
      split
      · simp; omega
      · omega
  · unfold takeB
    dsimp only
    have h1 := h.gone
    split
    · cases ho : opAt b.prod g.opn with
      | none => dsimp only; omega
      | some i => simp; omega
    · omega
  · intro r hm
    rcases List.mem_append.1 (show r ∈ g.rows ++ rowsB g.fin b b.recs from hm) with hm | hm
    · exact h.keys r hm
    · have hx : r.rc ∈ b.recs := by
        obtain ⟨j, hj, e⟩ := List.getElem_of_mem hm
        rw [rowsB_len] at hj
        have hg := rowsB_get g.fin b b.recs j hj
        rw [List.getElem?_eq_getElem (by rw [rowsB_len]; exact hj), e] at hg
        injection hg with hg
        rw [hg]
        show b.recs.getD j rec0 ∈ b.recs
        rw [List.getD_eq_getElem?_getD, List.getElem?_eq_getElem hj]
        exact List.getElem_mem _
      have hk := hr _ hx
      exact rec_short hk
theorem few_app {g : Lg} {n : Nat} (h : LFew g n) (x : Et) : LFew (appG g x) (n + 1) := by
  have hs : LFew g (n + 1) := ⟨by have := h.rows; omega, by have := h.opn; omega, by have := h.gone; omega, h.keys⟩
  unfold appG
  by_cases hd : (decE g x).2.2 ≠ 0 ∨ (decE g x).2.1 = true
  · rw [if_pos hd]; exact hs
  · rw [if_neg hd]
    by_cases h1 : x.kind = 1
    · rw [if_pos h1]
      have hm : mayE x = true := by
        cases hm : mayE x with
        | true => rfl
        | false =>
          refine absurd (Or.inl ?_) hd
          unfold decE
          rw [if_pos hm]
          decide
      have hb : (decE g x) = decB g x.b := by unfold decE; rw [if_neg (by rw [hm]; simp), if_pos h1]
      obtain ⟨⟨o, dd, er⟩, hdb⟩ : ∃ d, decB g x.b = d := ⟨_, rfl⟩
      rw [hb, hdb] at hd
      simp only [ne_eq, not_or, Decidable.not_not, Bool.not_eq_true] at hd
      obtain ⟨rfl, rfl⟩ := hd
      exact few_take h (decB_take hdb).1
    · rw [if_neg h1]
      have hl : (g.left x).length ≤ g.rows.length ∧ ∀ r ∈ g.left x, r ∈ g.rows := by
        rw [left_stay]
        exact ⟨List.length_filter_le _ _, fun r hr => (List.mem_filter.1 hr).1⟩
      by_cases h2 : x.kind = 2
      · rw [if_pos h2]
        refine ⟨Nat.le_trans hl.1 hs.rows, hs.opn, ?_, fun r hr => h.keys r (hl.2 r hr)⟩
        exact Nat.le_trans (List.length_filter_le _ _) hs.gone
      · rw [if_neg h2]
        exact ⟨Nat.le_trans hl.1 hs.rows, hs.opn, hs.gone, fun r hr => h.keys r (hl.2 r hr)⟩
/-- P1304: neither start nor end nor what is stable falls. -/
structure LGrow (g G : Lg) : Prop where
  start : g.start ≤ G.start
  stable : g.stable ≤ G.stable
  fin : g.fin ≤ G.fin
theorem LGrow.refl (g : Lg) : LGrow g g := ⟨Int.le_refl _, Int.le_refl _, Int.le_refl _⟩
theorem grow_take {g : Lg} {b : Bat} (h : LgOk g) (hc : checkN b = 0) : LGrow g (takeB g b) := by
  obtain ⟨h1, h2⟩ := recs_le_len hc
  have hf : g.fin ≤ (takeB g b).fin := by show g.fin ≤ g.fin + lenN b; omega
  obtain ⟨k1, k2, k3⟩ := stable_first h
  refine ⟨Int.le_refl _, ?_, hf⟩
  have hm : ∀ t ∈ (takeB g b).opn, g.stable ≤ t.first := fun t ht => by
    rcases opn_take ht with h | rfl
    · exact k3 t h
    · exact k2
  show g.stable ≤ match (takeB g b).opn with
    | [] => (takeB g b).fin
    | t :: _ => t.first
  cases ho : (takeB g b).opn with
  | nil => exact Int.le_trans k2 hf
  | cons t l => exact hm t (by rw [ho]; simp)
theorem app_all {g : Lg} (h : LgOk g) (x : Et) : LgOk (appG g x) ∧ LGrow g (appG g x) := by
  unfold appG
  by_cases hd : (decE g x).2.2 ≠ 0 ∨ (decE g x).2.1 = true
  · rw [if_pos hd]; exact ⟨h, LGrow.refl g⟩
  · rw [if_neg hd]
    have hm : mayE x = true := by
      cases hm : mayE x with
      | true => rfl
      | false =>
        refine absurd (Or.inl ?_) hd
        unfold decE
        rw [if_pos hm]
        decide
    by_cases h1 : x.kind = 1
    · rw [if_pos h1]
      have hb : (decE g x) = decB g x.b := by unfold decE; rw [if_neg (by rw [hm]; simp), if_pos h1]
      obtain ⟨⟨o, dd, er⟩, hdb⟩ : ∃ d, decB g x.b = d := ⟨_, rfl⟩
      rw [hb, hdb] at hd
      simp only [ne_eq, not_or, Decidable.not_not, Bool.not_eq_true] at hd
      obtain ⟨rfl, rfl⟩ := hd
      obtain ⟨hc, hf, -, -⟩ := decB_take hdb
      exact ⟨takeB_ok h hc hf, grow_take h hc⟩
    · rw [if_neg h1]
      have hde : decE g x = if g.stable < x.n then (0, false, 11) else if x.kind = 2 then (0, decide (x.n ≤ g.start), 0) else (0, (g.left x).length == g.rows.length, 0) := by
        unfold decE
        rw [if_neg (by rw [hm]; simp), if_neg h1]
      have hst : ¬ g.stable < x.n := fun hs => hd (Or.inl (by rw [hde, if_pos hs]; decide))
      by_cases h2 : x.kind = 2
      · rw [if_pos h2]
        have hsn : g.start ≤ x.n := by
          rw [hde, if_neg hst, if_pos h2] at hd
          simp only [ne_eq, not_or, decide_eq_true_eq] at hd
          omega
        have hok := retain_ok h hsn (by omega) (fun y => decide (x.n ≤ y.last))
        refine ⟨?_, ⟨hsn, Int.le_refl _, Int.le_refl _⟩⟩
        unfold Lg.left
        rw [if_pos h2]
        exact hok
      · rw [if_neg h2, left_stay]
        exact ⟨compact_ok h _, ⟨Int.le_refl _, Int.le_refl _, Int.le_refl _⟩⟩
end Go.Proofs.YtfgamkcnnijloaaGreat
namespace Go.Proofs.YtfgamkcnnijloaaGreat
open Go.RowKit Go.Shelf
variable {w w' : World} {L t M n N : Nat} {vr vo va : Value} {g : Lg} {B : Nat}

theorem startL_any (h : LPic0 w L t M n N vr vo va g) : Calls Tryz.prog 18 #[.pointer (some ⟨L, 0, none⟩)] w fun r w' => r = .returned (.int .i64 g.start) ∧ w' = w := by
  have c1 := h.c1
  have lq := h.lt
  have HM := hid (madeL_any h.c0)
  clear h
  go_enter Tryz.func18, Tryz.ntmps18
  go_wp2_with (go_at_call 23; (with_reducible_and_instances (refine HM.out.mono ?_)); rintro x w1 ⟨rfl, hw1⟩; obtain rfl := hw1.symm)
  go_ret
  exact ⟨rfl, rfl⟩
theorem endL_any (h : LPic0 w L t M n N vr vo va g) : Calls Tryz.prog 10 #[.pointer (some ⟨L, 0, none⟩)] w fun r w' => r = .returned (.int .i64 g.fin) ∧ w' = w := by
  have c2 := h.c2
  have lq := h.lt
  have HM := hid (madeL_any h.c0)
  clear h
  go_enter Tryz.func10, Tryz.ntmps10
  go_wp2_with (go_at_call 23; (with_reducible_and_instances (refine HM.out.mono ?_)); rintro x w1 ⟨rfl, hw1⟩; obtain rfl := hw1.symm)
  go_ret
  exact ⟨rfl, rfl⟩
theorem LOf.start (h : LOf B w L n g) : Calls Tryz.prog 18 #[.pointer (some ⟨L, 0, none⟩)] w fun r w' => r = .returned (.int .i64 g.start) ∧ w' = w := by
  obtain ⟨t, M, vr, vo, va, n', h0, h1, h2, h3⟩ := h.ex
  exact startL_any h1.toLPic0
theorem LOf.fin (h : LOf B w L n g) : Calls Tryz.prog 10 #[.pointer (some ⟨L, 0, none⟩)] w fun r w' => r = .returned (.int .i64 g.fin) ∧ w' = w := by
  obtain ⟨t, M, vr, vo, va, n', h0, h1, h2, h3⟩ := h.ex
  exact endL_any h1.toLPic0
theorem LOf.ok (h : LOf B w L n g) : LgOk g := by
  obtain ⟨t, M, vr, vo, va, n', h0, h1, h2, h3⟩ := h.ex
  exact h1.ok
theorem LFew.room (h : LFew g n) (hn : n ≤ 1048576) : LRoom g := by
  have h1 := h.rows
  have h2 := h.opn
  have h3 := h.gone
  unfold maxLen at *
  exact ⟨by omega, ⟨by unfold maxLen; omega, by omega⟩, ⟨by unfold maxLen; omega, by omega⟩⟩
theorem mayE_kind {kd nn : Int} {b : Bat} (h : mayE ⟨kd, nn, b⟩ = true) (h1 : kd ≠ 1) : kd = 2 ∨ kd = 3 := by
  unfold mayE at h
  dsimp only at h
  rw [if_neg h1] at h
  by_cases h2 : kd = 2 ∨ kd = 3
  · exact h2
  · rw [if_neg h2] at h; cases h
theorem LOf.applyA (h : LOf B w L n g) (hf : LFew g n) (hn : n ≤ 1048576) (kd nn k p e q : Int) (tx : Bool) (rs : List Rec) (ad : Option Addr) (len cap : Nat) (hB : BArg w ⟨k, p, e, q, tx, rs⟩ ad len cap) (hT : RTyp w ad len) (G : Lg) (hG : G = appG g ⟨kd, nn, ⟨k, p, e, q, tx, rs⟩⟩) :
    Calls Tryz.prog 12 #[.pointer (some ⟨L, 0, none⟩), .agg #[.int .i64 kd, .int .i64 nn, .int .i64 k, .int .i64 p, .int .i64 e, .int .i64 q, .bool tx, .slice ad len cap]] w fun x w' => x = .returned (.tuple #[.int .i64 (decE g ⟨kd, nn, ⟨k, p, e, q, tx, rs⟩⟩).1, .int .i64 (decE g ⟨kd, nn, ⟨k, p, e, q, tx, rs⟩⟩).2.2]) ∧ LOf B w' L (n + 1) G ∧ Below B w w' := by
  obtain ⟨⟨o, dd, er⟩, hd⟩ : ∃ d, decE g ⟨kd, nn, ⟨k, p, e, q, tx, rs⟩⟩ = d := ⟨_, rfl⟩
  rw [hd]
  have hr := hf.room hn
  by_cases hk : kd = 1 ∨ mayE ⟨kd, nn, ⟨k, p, e, q, tx, rs⟩⟩ = false
  · exact h.apply (by omega) hr kd nn k p e q tx rs ad len cap hB hT hk o dd er hd G hG
  · have hm : mayE ⟨kd, nn, ⟨k, p, e, q, tx, rs⟩⟩ = true := by
      cases hm : mayE ⟨kd, nn, ⟨k, p, e, q, tx, rs⟩⟩ with
      | true => rfl
      | false => exact absurd (Or.inr hm) hk
    have hkd := mayE_kind hm (fun e => hk (Or.inl e))
    obtain ⟨t, M, vr, vo, va, n', h0, h1, h2, h3⟩ := h.ex
    have hro := hr.rows
    have hgo := hr.gone
    refine (ApplyL_keep h1 h.b (by omega) hf.keys (by omega) kd nn k p e q tx rs ad len cap hB hkd hm o dd er hd G hG).mono ?_
    rintro x w' ⟨rfl, hm2⟩
    have hb := LMv.base h1 hm2 h.l h3 (Nat.le_refl _) h.b
    obtain ⟨n2, vr', vo', va', e1, e2, -⟩ := hm2
    exact ⟨rfl, ⟨⟨t, M, vr', vo', va', n2, by omega, e2, h2, h3⟩, h.l, Nat.le_trans h.b hb.size⟩, hb⟩
theorem LOf.decideA (h : LOf B w L n g) (hf : LFew g n) (hn : n ≤ 1048576) (kd nn k p e q : Int) (tx : Bool) (rs : List Rec) (ad : Option Addr) (len cap : Nat) (hB : BArg w ⟨k, p, e, q, tx, rs⟩ ad len cap) :
    Calls Tryz.prog 11 #[.pointer (some ⟨L, 0, none⟩), .agg #[.int .i64 kd, .int .i64 nn, .int .i64 k, .int .i64 p, .int .i64 e, .int .i64 q, .bool tx, .slice ad len cap]] w fun x w' => x = .returned (decV (decE g ⟨kd, nn, ⟨k, p, e, q, tx, rs⟩⟩)) ∧ Below w.heap.size w w' := by
  have hr := (hf.room hn).rows
  obtain ⟨t, M, vr, vo, va, n', h0, h1, h2, h3⟩ := h.ex
  by_cases hk : kd = 1 ∨ mayE ⟨kd, nn, ⟨k, p, e, q, tx, rs⟩⟩ = false
  · exact DecideL_batch h1 (by omega) kd nn k p e q tx rs ad len cap hB hk
  · have hm : mayE ⟨kd, nn, ⟨k, p, e, q, tx, rs⟩⟩ = true := by
      cases hm : mayE ⟨kd, nn, ⟨k, p, e, q, tx, rs⟩⟩ with
      | true => rfl
      | false => exact absurd (Or.inr hm) hk
    have hkd := mayE_kind hm (fun e => hk (Or.inl e))
    exact DecideL_keep h1 hf.keys (by omega) kd nn k p e q tx rs ad len cap hB hkd hm
end Go.Proofs.YtfgamkcnnijloaaGreat
