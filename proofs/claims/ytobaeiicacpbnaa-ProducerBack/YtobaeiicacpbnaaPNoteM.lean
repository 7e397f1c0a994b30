/- What is noted, and where (P1203): the memory of a table. -/
import Derived.Test.YtobaeiicacpbnaaPDecide
import Derived.Test.YtobaeiicacpbnaaPAdd
namespace Go.Proofs.Ytobaeiicacpbnaa
open Go.RowKit Go.Shelf
variable {w w' : World} {t M n : Nat} {T : Tb}

theorem once2 {F T : World → Prop} {G : Prop} (main : (∀ W, F W → T W) → G) (rest : ∀ W, F W → T W) : G := main rest
theorem TPic.mono (h : TPic w t M n T) {m : Nat} (hm : n ≤ m) : TPic w t M m T := ⟨h.box, h.map.mono hm, h.ok⟩
theorem TPic.eq (h : TPic w t M n T) {T' : Tb} (e : T = T') : TPic w t M n T' := e ▸ h
theorem TPic.store (h : TPic w t M n T) (hn : n < maxLen) {p : Int} (h1 : -9223372036854775808 ≤ p) (h2 : p ≤ 9223372036854775807) {s : PSt} (hs : s.ok) :
    ∃ w', (Instr.mapUpdate TMp (.map (some M)) (.int .i64 p) (.agg (psL s).toArray)).run Try.prog w = .ok () w' ∧ TPic w' t M (n + 1) (T.set p s) ∧ Chg [M] w w' := by
  obtain ⟨w', hr, hm, hc⟩ := h.map.store keyI Try.underlying50 hn (val := .agg (psL s).toArray) (keyOf_z h1 h2)
  refine ⟨w', hr, ⟨h.box.chg hc (by simp; exact h.ne), hm.congr (tbF_set T p s), fun q x hq => ?_⟩, hc⟩
  unfold Tb.set at hq
  split at hq
  · cases hq; exact hs
  · exact h.ok q x hq
theorem TPic.drop (h : TPic w t M n T) {p : Int} (h1 : -9223372036854775808 ≤ p) (h2 : p ≤ 9223372036854775807) (ty : TypeId) :
    ∃ w', (Builtin.delete_ #[TMp, 3] ty #[.map (some M), .int .i64 p]).run Try.prog w = .ok (.tuple #[]) w' ∧ TPic w' t M n (T.del p) ∧ Chg [M] w w' := by
  obtain ⟨w', hr, hm, hc⟩ := h.map.drop keyI Try.underlying50 (keyOf_z h1 h2) ty
  refine ⟨w', hr, ⟨h.box.chg hc (by simp; exact h.ne), hm.congr (tbF_del T p), fun q x hq => ?_⟩, hc⟩
  unfold Tb.del at hq
  split at hq
  · cases hq
  · exact h.ok q x hq
theorem del_get (T : Tb) (p : Int) : (T.del p).get p = ps0 := by simp [Tb.get, Tb.del]
theorem del_set (T : Tb) (p : Int) (s : PSt) : (T.del p).set p s = T.set p s := by
  funext q
  unfold Tb.set Tb.del
  by_cases h : q = p <;> simp [h]
theorem field_epoch (s : PSt) (w : World) : (Instr.field TSt (.agg (psL s).toArray) 0).run Try.prog w = .ok (.int .i64 s.epoch) w := by kernel_rfl
theorem dec_check {b : Bat} {x : Int} {d : Bool} (h : decN T b = (x, d, 0)) : checkN b = 0 := by
  unfold decN at h
  by_cases hc : checkN b = 0
  · exact hc
  · rw [if_pos hc] at h
    exact absurd (congrArg (fun y => y.2.2) h) hc
theorem check_seq {b : Bat} (h : checkN b = 0) : 0 ≤ b.seq ∧ b.seq ≤ 2147483648 - lenN b := by
  unfold checkN at h
  split at h
  · split at h
    · split at h
      · rename_i hs
        unfold seqOk at hs
        simpa using hs
      · cases h
    · cases h
  · cases h
theorem check_epoch {b : Bat} (h : checkN b = 0) (hp : b.prod ≠ -1) : 0 ≤ b.epoch ∧ b.epoch < 2147483648 ∧ 0 ≤ b.prod := by
  unfold checkN at h
  split at h
  · rename_i ha
    unfold argOk at ha
    simp only [Bool.and_eq_true] at ha
    obtain ⟨-, ha⟩ := ha
    rw [if_neg (by simpa using hp)] at ha
    simp only [Bool.and_eq_true, decide_eq_true_eq] at ha
    exact ⟨ha.1.1.2, ha.1.2, ha.1.1.1.1⟩
  · cases h
theorem decS_new {nx : Int} {l : List Dn} {q n x : Int} (h : decS nx l q n = (x, false, 0)) : q = nx := by
  unfold decS at h
  by_cases hq : q = nx
  · exact hq
  · rw [if_neg hq] at h
    split at h
    · simp at h
    · split at h <;> simp at h
/-- What is new has the number that must come. -/
theorem dec_next {b : Bat} {x : Int} (h : decN T b = (x, false, 0)) (hp : b.prod ≠ -1) (hk : b.kind = 1) : b.seq = if (T.get b.prod).epoch = b.epoch then (T.get b.prod).next else 0 := by
  have hc := dec_check h
  unfold decN at h
  rw [if_neg (by rw [hc]; simp), if_neg hp] at h
  split at h
  · simp at h
  · rename_i h1
    rw [if_neg (by simp [hk])] at h
    split at h
    · rename_i h2
      rw [if_neg (by omega)]
      exact decS_new h
    · rw [if_pos (by omega)]
      exact decS_new h
theorem plain_len {b : Bat} (hk : b.kind = 1) : lenN b = b.recs.length := by
  unfold lenN Bat.marker
  rw [hk]; rfl
/-- Whether the state goes on. -/
theorem base_eq (s : PSt) (e : Int) (h : s.epoch = e) : (if s.epoch = e then s else ps0) = s := if_pos h
theorem base_ne (s : PSt) (e : Int) (h : s.epoch ≠ e) : (if s.epoch = e then s else ps0) = ps0 := if_neg h
end Go.Proofs.Ytobaeiicacpbnaa
