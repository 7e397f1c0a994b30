/- Plain mathematics of P205 and P206: a batch is read as it was written; one byte less, or more behind it. How package batch reads: a Record is dead just if its byte is 1. What comes of it is what the document says. What comes of a batch that was read: it is written again and held against the bytes. -/
import Derived.Test.YtfgamkcnnijloaaGreatPZRec
import Derived.Test.YtfgamkcnnijloaaGreatPZMath
namespace Go.Proofs.YtfgamkcnnijloaaGreat
open Go.RowKit

theorem recBs_length (r : Rec) : (recBs r).length = 5 + r.key.size + r.val.size := by
  simp [recBs, spellN_length, sbytes_length]; omega
theorem recsBs_length (rs : List Rec) : (recsBs rs).length = recsSize rs := by
  induction rs with
  | nil => rfl
  | cons r rs ih => rw [recsBs, List.length_append, recBs_length, ih, recsSize]
theorem recsBs_append (rs ss : List Rec) : recsBs (rs ++ ss) = recsBs rs ++ recsBs ss := by
  induction rs with
  | nil => rfl
  | cons r rs ih => rw [List.cons_append, recsBs, ih, recsBs, List.append_assoc]
theorem recsBs_one (r : Rec) : recsBs [r] = recBs r := by simp [recsBs]
theorem headBs_length (b : Bat) : (headBs b).length = 18 := by simp [headBs, spellN_length]
theorem writeN_length (b : Bat) : (writeN b).length = sizeN b := by rw [writeN, List.length_append, headBs_length, recsBs_length, sizeN]
theorem lenAt_eq (A B : List Nat) (n p : Nat) (hp : A.length = p) (hn : n ≤ 65535) : lenAt (A ++ (spellN n 2 ++ B)) p = n := by
  unfold lenAt
  have e := drop_ahead A (spellN n 2 ++ B) p 0 hp
  rw [Nat.add_zero, List.drop_zero] at e
  rw [e, take_front _ _ 2 (spellN_length _ _)]
  exact pow_two_mod _ 2 (by omega)
/-- A Record is read as it was written, whatever stands ahead and behind. -/
theorem recAt_back (A B : List Nat) (r : Rec) (p : Nat) (hp : A.length = p) (hk : r.key.size ≤ 65535) (hv : r.val.size ≤ 65535) :
    recAt (A ++ (recBs r ++ B)) p = some (r, p + (recBs r).length) := by
  have hL : (A ++ (recBs r ++ B)).length = p + (5 + r.key.size + r.val.size) + B.length := by rw [List.length_append, List.length_append, recBs_length, hp]; omega
  have f1 : A ++ (recBs r ++ B) = (A ++ [if r.dead then 1 else 0]) ++ (spellN r.key.size 2 ++ (sbytes r.key ++ (spellN r.val.size 2 ++ (sbytes r.val ++ B)))) := by simp [recBs]
  have f2 : A ++ (recBs r ++ B) = (A ++ [if r.dead then 1 else 0] ++ spellN r.key.size 2 ++ sbytes r.key) ++ (spellN r.val.size 2 ++ (sbytes r.val ++ B)) := by simp [recBs]
  have h1 : lenAt (A ++ (recBs r ++ B)) (p + 1) = r.key.size := by rw [f1]; exact lenAt_eq _ _ _ _ (by simp [hp]) hk
  have h2 : lenAt (A ++ (recBs r ++ B)) (p + 3 + r.key.size) = r.val.size := by rw [f2]; exact lenAt_eq _ _ _ _ (by simp [spellN_length, sbytes_length, hp]; omega) hv
  unfold recAt
  rw [h1, h2, hL, if_pos (by omega), if_pos (by omega), recBs_length]
  have g1 : (A ++ (recBs r ++ B)).drop (p + 3) = sbytes r.key ++ (spellN r.val.size 2 ++ (sbytes r.val ++ B)) := by
    have : A ++ (recBs r ++ B) = (A ++ [if r.dead then 1 else 0] ++ spellN r.key.size 2) ++ (sbytes r.key ++ (spellN r.val.size 2 ++ (sbytes r.val ++ B))) := by simp [recBs]
    rw [this]; exact drop_front _ _ _ (by simp [spellN_length, hp])
  have g2 : (A ++ (recBs r ++ B)).drop (p + 3 + r.key.size + 2) = sbytes r.val ++ B := by
    have : A ++ (recBs r ++ B) = (A ++ [if r.dead then 1 else 0] ++ spellN r.key.size 2 ++ sbytes r.key ++ spellN r.val.size 2) ++ (sbytes r.val ++ B) := by simp [recBs]
    rw [this]; exact drop_front _ _ _ (by simp [spellN_length, sbytes_length, hp]; omega)
  have g3 : (A ++ (recBs r ++ B)).getD p 0 = if r.dead then 1 else 0 := by
    rw [List.getD_eq_getElem?_getD, List.getElem?_append_right (by omega), hp, Nat.sub_self]
    simp [recBs]
  rw [g1, g2, g3, take_front _ _ _ (sbytes_length _), take_front _ _ _ (sbytes_length _), bstr_sbytes, bstr_sbytes]
  obtain ⟨k, v, d⟩ := r
  cases d <;> simp <;> omega
/-- Records are read as they were written. -/
theorem readN_back (A : List Nat) (p : Nat) (hp : A.length = p) (rs : List Rec) (ok : ∀ r ∈ rs, r.key.size ≤ 65535 ∧ r.val.size ≤ 65535) (B : List Nat) :
    ∀ k, k ≤ rs.length → readN (A ++ (recsBs rs ++ B)) p k = some (rs.take k, p + (recsBs (rs.take k)).length) := by
  intro k
  induction k with
  | zero => intro _; simp [readN, recsBs]
  | succ k ih =>
    intro hk
    rw [readN, ih (by omega)]
    simp only
    have hlt : k < rs.length := by omega
    have e : rs = rs.take k ++ (rs[k] :: rs.drop (k + 1)) := by rw [List.getElem_cons_drop, List.take_append_drop]
    have hA : A ++ (recsBs rs ++ B) = (A ++ recsBs (rs.take k)) ++ (recBs rs[k] ++ (recsBs (rs.drop (k + 1)) ++ B)) := by
      conv => lhs; rw [e]
      rw [recsBs_append, recsBs]
      simp only [List.append_assoc]
    obtain ⟨o1, o2⟩ := ok rs[k] (List.getElem_mem hlt)
    rw [hA, recAt_back _ _ _ _ (by rw [List.length_append, hp]) o1 o2]
    simp only
    rw [List.take_succ_eq_append_getElem hlt, recsBs_append, recsBs_one, List.length_append, Nat.add_assoc]
theorem readN_all (A : List Nat) (p : Nat) (hp : A.length = p) (rs : List Rec) (ok : ∀ r ∈ rs, r.key.size ≤ 65535 ∧ r.val.size ≤ 65535) (B : List Nat) :
    readN (A ++ (recsBs rs ++ B)) p rs.length = some (rs, p + recsSize rs) := by
  have h := readN_back A p hp rs ok B rs.length (Nat.le_refl _)
  rw [List.take_length, recsBs_length] at h
  exact h
/-- What Check asks, part by part. -/
theorem checkN_ok {b : Bat} (h : checkN b = 0) : argOk b = true ∧ manyOk b = true ∧ (∀ r ∈ b.recs, recOk r = true) ∧ seqOk b = true ∧ sizeN b ≤ 65536 := by
  unfold checkN at h
  split at h
  · rename_i h1
    split at h
    · rename_i h2
      split at h
      · rename_i h3
        split at h
        · rename_i h4
          simp only [Bool.and_eq_true, List.all_eq_true] at h2
          exact ⟨h1, h2.1, h2.2, h3, h4⟩
        · omega
      · omega
    · omega
  · omega
/-- Numbers of a batch that may be. -/
theorem checkN_nums {b : Bat} (h : checkN b = 0) : (1 ≤ b.kind ∧ b.kind ≤ 3) ∧ -1 ≤ b.prod ∧ b.prod < 281474976710656 ∧ 0 ≤ b.epoch ∧ b.epoch < 2147483648 ∧ 0 ≤ b.seq ∧ b.seq ≤ 2147483648 ∧ b.recs.length ≤ 64 ∧ (b.marker = true → b.recs.length = 0) ∧ (b.marker = false → 1 ≤ b.recs.length ∧ b.seq < 2147483648) ∧ (b.marker = true → b.seq = 0 ∧ b.prod ≠ -1) := by
  obtain ⟨h1, h2, _, h4, _⟩ := checkN_ok h
  obtain ⟨k, p, e, s, t, rs⟩ := b
  simp only [argOk, manyOk, seqOk, lenN, Bat.marker, Bool.and_eq_true, Bool.or_eq_true, beq_iff_eq, decide_eq_true_eq] at h1 h2 h4 ⊢
  obtain ⟨hk, h1⟩ := h1
  by_cases hm : k = 2 ∨ k = 3
  · have hm' : ((k == 2 || k == 3) = true) := by simpa using hm
    rw [if_pos hm] at h2
    rw [if_pos hm] at h4
    by_cases hp : p = -1
    · rw [if_pos hp] at h1; simp [hm'] at h1
    · rw [if_neg hp] at h1
      simp [hm'] at h1 h2
      subst h2
      have hs : s = 0 := h1.2.1
      refine ⟨by omega, by omega, by omega, by omega, by omega, by omega, by omega, by simp, by simp, by simp [hm'], by simp [hs, hp]⟩
  · have hm' : ((k == 2 || k == 3) = false) := by simpa using hm
    rw [if_neg hm] at h2
    rw [if_neg hm] at h4
    simp at h2
    have h0 : 0 < rs.length := List.length_pos_iff.2 h2.1
    by_cases hp : p = -1
    · rw [if_pos hp] at h1
      simp [hm'] at h1
      refine ⟨by omega, by omega, by omega, by omega, by omega, by omega, by omega, by omega, fun h => absurd h hm, fun _ => by omega, fun h => absurd h hm⟩
    · rw [if_neg hp] at h1
      simp [hm'] at h1
      refine ⟨by omega, by omega, by omega, by omega, by omega, by omega, by omega, by omega, fun h => absurd h hm, fun _ => by omega, fun h => absurd h hm⟩
theorem told_back (b : Bat) (M : List Nat) (h : b.recs.length < 65536) : toldRecs (headBs b ++ M) = b.recs.length := by
  unfold toldRecs
  have : headBs b ++ M = ([b.kind.toNat, flagsN b] ++ spellN (prodN b) 6 ++ spellN b.epoch.toNat 4 ++ spellN b.seq.toNat 4) ++ (spellN b.recs.length 2 ++ M) := by simp [headBs]
  rw [this, drop_front _ _ 16 (by simp [spellN_length]), take_front _ _ 2 (spellN_length _ _)]
  exact pow_two_mod _ 2 (by omega)
theorem batOf_back (b : Bat) (M : List Nat) (h : checkN b = 0) : batOf (headBs b ++ M) b.recs = b := by
  obtain ⟨⟨k1, k2⟩, p1, p2, e1, e2, s1, s2, n1, m1, m2, m3⟩ := checkN_nums h
  have s3 : b.seq < 2147483648 := by
    cases hm : b.marker with
    | true => rw [(m3 hm).1]; omega
    | false => exact (m2 hm).2
  have f2 : headBs b ++ M = ([b.kind.toNat, flagsN b]) ++ (spellN (prodN b) 6 ++ (spellN b.epoch.toNat 4 ++ (spellN b.seq.toNat 4 ++ (spellN b.recs.length 2 ++ M)))) := by simp [headBs]
  have f8 : headBs b ++ M = ([b.kind.toNat, flagsN b] ++ spellN (prodN b) 6) ++ (spellN b.epoch.toNat 4 ++ (spellN b.seq.toNat 4 ++ (spellN b.recs.length 2 ++ M))) := by simp [headBs]
  have f12 : headBs b ++ M = ([b.kind.toNat, flagsN b] ++ spellN (prodN b) 6 ++ spellN b.epoch.toNat 4) ++ (spellN b.seq.toNat 4 ++ (spellN b.recs.length 2 ++ M)) := by simp [headBs]
  have g2 : valN (((headBs b ++ M).drop 2).take 6) = prodN b := by
    rw [f2, drop_front _ _ 2 rfl, take_front _ _ 6 (spellN_length _ _)]
    exact pow_two_mod _ 6 (by unfold prodN; split <;> omega)
  have g8 : valN (((headBs b ++ M).drop 8).take 4) = b.epoch.toNat := by
    rw [f8, drop_front _ _ 8 (by simp [spellN_length]), take_front _ _ 4 (spellN_length _ _)]
    exact pow_two_mod _ 4 (by omega)
  have g12 : valN (((headBs b ++ M).drop 12).take 4) = b.seq.toNat := by
    rw [f12, drop_front _ _ 12 (by simp [spellN_length]), take_front _ _ 4 (spellN_length _ _)]
    exact pow_two_mod _ 4 (by omega)
  have g0 : (headBs b ++ M).getD 0 0 = b.kind.toNat := rfl
  have g1 : (headBs b ++ M).getD 1 0 = flagsN b := rfl
  unfold batOf
  rw [g0, g1, g2, g8, g12]
  obtain ⟨k, p, e, s, t, rs⟩ := b
  simp only at k1 p1 e1 s1
  have hf : (flagsN ⟨k, p, e, s, t, rs⟩ / 2 % 2 == 1) = t := by
    unfold flagsN; cases t <;> simp <;> (split <;> rfl)
  have hp : (if flagsN ⟨k, p, e, s, t, rs⟩ % 2 = 1 then ((prodN ⟨k, p, e, s, t, rs⟩ : Nat) : Int) else -1) = p := by
    unfold flagsN prodN
    by_cases h1 : p = -1
    · subst h1; cases t <;> simp
    · have : (p == -1) = false := by simpa using h1
      simp only [this]
      cases t <;> simp <;> omega
  rw [hf, hp]
  simp only [Bat.mk.injEq, and_true, true_and]
  omega
theorem recs_ok {b : Bat} (h : checkN b = 0) : ∀ r ∈ b.recs, r.key.size ≤ 65535 ∧ r.val.size ≤ 65535 := fun r hr => by
  have := recOk_parts ((checkN_ok h).2.2.1 r hr); omega
theorem decodeN_err (l : List Nat) (h : l.length < 18) : decodeN l = (bat0, 20) := by unfold decodeN; rw [if_pos h]
theorem decodeN_end (l : List Nat) (h : ¬ l.length < 18) (hr : readN l 18 (toldRecs l) = none) : decodeN l = (bat0, 20) := by unfold decodeN; rw [if_neg h, hr]
theorem decodeN_ok (l : List Nat) (rs : List Rec) (q : Nat) (h : ¬ l.length < 18) (hr : readN l 18 (toldRecs l) = some (rs, q)) (h2 : checkN (batOf l rs) = 0 ∧ writeN (batOf l rs) = l) : decodeN l = (batOf l rs, 0) := by
  unfold decodeN; rw [if_neg h, hr]; simp only; rw [if_pos h2]
theorem decodeN_form (l : List Nat) (rs : List Rec) (q : Nat) (h : ¬ l.length < 18) (hr : readN l 18 (toldRecs l) = some (rs, q)) (h2 : ¬ (checkN (batOf l rs) = 0 ∧ writeN (batOf l rs) = l)) : decodeN l = (bat0, 22) := by
  unfold decodeN; rw [if_neg h, hr]; simp only; rw [if_neg h2]
/-- P205: what is written is read as it was. -/
theorem decode_back (b : Bat) (h : checkN b = 0) : decodeN (writeN b) = (b, 0) := by
  have hn := (checkN_nums h).2.2.2.2.2.2.2.1
  have e := readN_all (headBs b) 18 (headBs_length b) b.recs (recs_ok h) []
  rw [List.append_nil] at e
  have hb := batOf_back b (recsBs b.recs) h
  have h2 := decodeN_ok (writeN b) b.recs _ (by rw [writeN_length, sizeN]; omega) (by rw [writeN, told_back b _ (by omega)]; exact e) (by unfold writeN at *; rw [hb]; exact ⟨h, rfl⟩)
  rw [h2]
  unfold writeN
  rw [hb]
end Go.Proofs.YtfgamkcnnijloaaGreat
namespace Go.Proofs.YtfgamkcnnijloaaGreat
open Go.RowKit

/-- The Record at p as package batch reads it. -/
def recAt1 (l : List Nat) (p : Nat) : Option (Rec × Nat) := (recAt l p).map fun x => (⟨x.1.key, x.1.val, l.getD p 0 == 1⟩, x.2)
def readN1 (l : List Nat) (p : Nat) : Nat → Option (List Rec × Nat)
  | 0 => some ([], p)
  | n + 1 => match readN1 l p n with
    | none => none
    | some (rs, q) => match recAt1 l q with
      | none => none
      | some (r, q') => some (rs ++ [r], q')
/-- Both read as far as the other. -/
theorem readN1_place (l : List Nat) (p n : Nat) : (readN1 l p n).map (·.2) = (readN l p n).map (·.2) := by
  induction n with
  | zero => rfl
  | succ n ih =>
    rw [readN1, readN]
    cases h1 : readN1 l p n with
    | none =>
      rw [h1] at ih
      cases h2 : readN l p n with
      | none => rfl
      | some x => rw [h2] at ih; cases ih
    | some x =>
      obtain ⟨rs, q⟩ := x
      rw [h1] at ih
      cases h2 : readN l p n with
      | none => rw [h2] at ih; cases ih
      | some y =>
        obtain ⟨ss, q2⟩ := y
        rw [h2] at ih
        simp only [Option.map_some, Option.some.injEq] at ih
        subst ih
        simp only
        unfold recAt1
        cases recAt l q with
        | none => rfl
        | some z => rfl
theorem recAt1_back (A B : List Nat) (r : Rec) (p : Nat) (hp : A.length = p) (hk : r.key.size ≤ 65535) (hv : r.val.size ≤ 65535) (q : Nat) (h : recAt (A ++ (recBs r ++ B)) p = some (r, q)) : recAt1 (A ++ (recBs r ++ B)) p = some (r, q) := by
  unfold recAt1
  rw [h]
  have e : (A ++ (recBs r ++ B)).getD p 0 = if r.dead then 1 else 0 := by
    rw [List.getD_eq_getElem?_getD, List.getElem?_append_right (by omega), hp, Nat.sub_self, recBs]
    rfl
  simp only [Option.map_some]
  rw [e]
  obtain ⟨a, b, c⟩ := r
  cases c <;> rfl
theorem readN1_back (A : List Nat) (p : Nat) (hp : A.length = p) (rs : List Rec) (ok : ∀ r ∈ rs, r.key.size ≤ 65535 ∧ r.val.size ≤ 65535) (B : List Nat) :
    ∀ k, k ≤ rs.length → readN1 (A ++ (recsBs rs ++ B)) p k = some (rs.take k, p + (recsBs (rs.take k)).length) := by
  intro k
  induction k with
  | zero => intro _; simp [readN1, recsBs]
  | succ k ih =>
    intro hk
    rw [readN1, ih (by omega)]
    simp only
    have hlt : k < rs.length := by omega
    have e : rs = rs.take k ++ (rs[k] :: rs.drop (k + 1)) := by rw [List.getElem_cons_drop, List.take_append_drop]
    have hA : A ++ (recsBs rs ++ B) = (A ++ recsBs (rs.take k)) ++ (recBs rs[k] ++ (recsBs (rs.drop (k + 1)) ++ B)) := by
      conv => lhs; rw [e]
      rw [recsBs_append, recsBs]
      simp only [List.append_assoc]
    obtain ⟨o1, o2⟩ := ok rs[k] (List.getElem_mem hlt)
    rw [hA, recAt1_back _ _ _ _ (by rw [List.length_append, hp]) o1 o2 _ (recAt_back _ _ _ _ (by rw [List.length_append, hp]) o1 o2)]
    simp only
    rw [List.take_succ_eq_append_getElem hlt, recsBs_append, recsBs_one, List.length_append, Nat.add_assoc]
theorem readN1_write (b : Bat) (h : checkN b = 0) : readN1 (writeN b) 18 (toldRecs (writeN b)) = some (b.recs, 18 + recsSize b.recs) := by
  have ht : toldRecs (writeN b) = b.recs.length := told_back b _ (by have := (checkN_nums h).2.2.2.2.2.2.2.1; omega)
  have hk := readN1_back (headBs b) 18 (headBs_length b) b.recs (recs_ok h) [] b.recs.length (Nat.le_refl _)
  rw [List.take_length, recsBs_length, List.append_nil] at hk
  rw [ht]
  exact hk
open Classical in
/-- Decode as package batch does it. -/
noncomputable def decode1 (l : List Nat) : Bat × Int :=
  if l.length < 18 then (bat0, 20)
  else match readN1 l 18 (toldRecs l) with
    | none => (bat0, 20)
    | some (rs, _) => if checkN (batOf l rs) = 0 ∧ writeN (batOf l rs) = l then (batOf l rs, 0) else (bat0, 22)
theorem decode1_eq (l : List Nat) : decode1 l = decodeN l := by
  unfold decode1
  by_cases h : l.length < 18
  · rw [if_pos h, decodeN_err l h]
  · rw [if_neg h]
    have hp := readN1_place l 18 (toldRecs l)
    cases h1 : readN1 l 18 (toldRecs l) with
    | none =>
      rw [h1] at hp
      cases h2 : readN l 18 (toldRecs l) with
      | none => rw [decodeN_end l h h2]
      | some x => rw [h2] at hp; cases hp
    | some x =>
      obtain ⟨rs, q⟩ := x
      rw [h1] at hp
      cases h2 : readN l 18 (toldRecs l) with
      | none => rw [h2] at hp; cases hp
      | some y =>
        obtain ⟨ss, q2⟩ := y
        simp only
        by_cases hc : checkN (batOf l rs) = 0 ∧ writeN (batOf l rs) = l
        · rw [if_pos hc]
          have hd := decode_back (batOf l rs) hc.1
          rw [hc.2] at hd
          exact hd.symm
        · rw [if_neg hc]
          by_cases hc2 : checkN (batOf l ss) = 0 ∧ writeN (batOf l ss) = l
          · exfalso
            apply hc
            have hw := readN1_write _ hc2.1
            rw [hc2.2, h1] at hw
            have e : rs = ss := (Prod.mk.inj (Option.some.inj hw)).1
            rw [e]
            exact hc2
          · rw [decodeN_form l ss q2 h h2 hc2]
end Go.Proofs.YtfgamkcnnijloaaGreat
namespace Go.Proofs.YtfgamkcnnijloaaGreat
open Go.RowKit

/-- Decode: nothing to be read. -/
theorem decode_none {l : List Nat} (h : l.length < 18 ∨ readN1 l 18 (toldRecs l) = none) : decodeN l = (bat0, 20) := by
  rw [← decode1_eq, decode1]
  by_cases h1 : l.length < 18
  · rw [if_pos h1]
  · rw [if_neg h1, h.resolve_left h1]
theorem decode_some {l : List Nat} {rs : List Rec} {q : Nat} (h : 18 ≤ l.length) (h2 : readN1 l 18 (toldRecs l) = some (rs, q)) (hc : checkN (batOf l rs) = 0) (hw : writeN (batOf l rs) = l) : decodeN l = (batOf l rs, 0) := by
  rw [← decode1_eq, decode1, if_neg (by omega), h2]
  simp only
  rw [if_pos ⟨hc, hw⟩]
theorem decode_other {l : List Nat} {rs : List Rec} {q : Nat} (h : 18 ≤ l.length) (h2 : readN1 l 18 (toldRecs l) = some (rs, q)) (hc : ¬ (checkN (batOf l rs) = 0 ∧ writeN (batOf l rs) = l)) : decodeN l = (bat0, 22) := by
  rw [← decode1_eq, decode1, if_neg (by omega), h2]
  simp only
  rw [if_neg hc]
end Go.Proofs.YtfgamkcnnijloaaGreat
