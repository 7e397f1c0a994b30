/- Maps by a pair of numbers; what ProducerOnce keeps (P1205, P1207), as plain data. -/
import Derived.Test.YtobaeiicacpbnaaPNoteM
namespace Go.Proofs.Ytobaeiicacpbnaa
open Go.RowKit Go.Shelf

abbrev TA2 : TypeId := 57
/-- The key of a pair. -/
def kA (p e : Int) : Lit := .string (keyBytes [.int .i64 p, .int .i64 e])
theorem laidOut : laidOutB Try.prog = true := by kernel_rfl
theorem rowA2 : TA2 < Try.prog.types.size := of_decide_eq_true (by kernel_rfl)
set_option maxRecDepth 100000 in
theorem wideA2 : (match Try.prog.underlying TA2 with | some (.array _ _) | some (.struct _) => true | _ => false) = true := by rw [Try.underlying57]
set_option maxRecDepth 100000 in
theorem keyA2 : Maps.Keyed Try.prog TA2 := Maps.Keyed.of_law (deep_law_laid laidOut (m := 2) (by omega) rowA2 (by kernel_rfl) wideA2)
theorem keyTypeA2 : Try.prog.keyType TA2 = true := by kernel_rfl
theorem cellsInt : Try.prog.cellsOf 3 = 1 := by kernel_rfl
theorem cellsA2 : Try.prog.cellsOf TA2 = 2 := by kernel_rfl
def In64 (x : Int) : Prop := -9223372036854775808 ≤ x ∧ x ≤ 9223372036854775807
theorem wf64 {i : Int} (hi : In64 i) : (Lit.int .i64 i).wf = true := by
  have h1 : IntKind.i64.min = -9223372036854775808 := rfl
  have h2 : IntKind.i64.max = 9223372036854775807 := rfl
  have := hi.1
  have := hi.2
  simp [Lit.wf, h1, h2]; omega
theorem keyOf_a {p e : Int} (hp : In64 p) (he : In64 e) : keyOf Try.prog TA2 (.agg #[.int .i64 p, .int .i64 e]) = some (kA p e) := by
  have h1 := wf64 hp
  have h2 := wf64 he
  obtain ⟨m, hm⟩ : ∃ m, Try.prog.types.size = m + 1 := ⟨_, (by kernel_rfl : Try.prog.types.size = (Try.prog.types.size - 1) + 1)⟩
  unfold keyOf
  simp only [Try.underlying57]
  rw [if_pos (by simp [keyTypeA2, Value.formed, Try.underlying57, cellsA2]), hm]
  unfold Program.keyLits
  simp only [Try.underlying57, Value.cells]
  simp [cellsA2, Program.keyLits, Try.underlying3, h1, h2, kA, cellsInt, show List.range 2 = [0, 1] from rfl]
theorem kA_inj {p e p' e' : Int} (hp : In64 p) (he : In64 e) (hp' : In64 p') (he' : In64 e') (h : kA p e = kA p' e') : p = p' ∧ e = e' := by
  have h1 := keyA2.inj (keyOf_a hp he) (h ▸ keyOf_a hp' he')
  simp only [Value.agg.injEq, Array.mk.injEq, List.cons.injEq, Value.int.injEq, true_and, and_true] at h1
  exact h1
/-- What is kept: the highest epoch of each producer, and how far its numbers go. -/
structure OnI (T : Tb) (P : Int → Int) (N : Int → Int → Int) : Prop where
  top : ∀ p, P p = (T.get p).epoch
  next : ∀ p, N p (T.get p).epoch = (T.get p).next
  none : ∀ p e, (T.get p).epoch < e → N p e = 0
theorem onI0 : OnI (fun _ => none) (fun _ => 0) (fun _ _ => 0) := ⟨fun _ => rfl, fun _ => rfl, fun _ _ _ => rfl⟩
def updP (P : Int → Int) (p e : Int) : Int → Int := fun q => if q = p then e else P q
def updN (N : Int → Int → Int) (p e x : Int) : Int → Int → Int := fun q f => if q = p ∧ f = e then x else N q f
theorem get_set (T : Tb) (p : Int) (s : PSt) (q : Int) : (T.set p s).get q = if q = p then s else T.get q := by
  unfold Tb.get Tb.set
  by_cases h : q = p <;> simp [h]
theorem note_ok {T : Tb} {b : Bat} {o x : Int} (hd : decN T b = (x, false, 0)) (hp : b.prod ≠ -1) (h0 : 0 ≤ o) (h1 : o ≤ 281474976710656) : notN T b o = (0, T.set b.prod (notS (T.get b.prod) b o)) := by
  unfold notN
  rw [if_neg (by omega), hd]
  simp [hp]
theorem dec_fence {T : Tb} {b : Bat} {x : Int} {d : Bool} (hd : decN T b = (x, d, 0)) (hp : b.prod ≠ -1) : (T.get b.prod).epoch ≤ b.epoch := by
  have hc := dec_check hd
  unfold decN at hd
  rw [if_neg (by rw [hc]; simp), if_neg hp] at hd
  split at hd
  · simp at hd
  · omega
theorem notS_epoch (s : PSt) (b : Bat) (o : Int) : (notS s b o).epoch = b.epoch := by
  unfold notS
  split
  · rfl
  · rw [add_epoch]
theorem notS_next (s : PSt) (b : Bat) (o : Int) : (notS s b o).next = (if s.epoch = b.epoch then s.next else 0) + (if b.kind = 1 then (b.recs.length : Int) else 0) := by
  unfold notS
  by_cases hk : b.kind = 1
  · rw [if_neg (by simp [hk]), if_pos hk, add_next]
    split <;> rfl
  · rw [if_pos hk, if_neg hk]
    split
    · simp
    · rfl
/-- A marker is noted. -/
theorem OnI.marker {T : Tb} {P : Int → Int} {N : Int → Int → Int} {b : Bat} {o : Int} (h : OnI T P N) (hf : (T.get b.prod).epoch ≤ b.epoch) (hk : b.kind ≠ 1) : OnI (T.set b.prod (notS (T.get b.prod) b o)) (updP P b.prod b.epoch) N := by
  refine ⟨fun p => ?_, fun p => ?_, fun p e he => ?_⟩
  · rw [get_set]; unfold updP
    split
    · rw [notS_epoch]
    · exact h.top p
  · rw [get_set]
    split
    · rename_i hp; subst hp
      rw [notS_epoch, notS_next, if_neg hk]
      by_cases he : (T.get b.prod).epoch = b.epoch
      · rw [if_pos he, ← he, h.next]; omega
      · rw [if_neg he, h.none _ _ (by omega)]; rfl
    · exact h.next p
  · rw [get_set] at he
    split at he
    · rename_i hp; subst hp
      rw [notS_epoch] at he
      exact h.none _ _ (by omega)
    · exact h.none p e he
/-- Records have the number that must come. -/
theorem OnI.seq {T : Tb} {P : Int → Int} {N : Int → Int → Int} {b : Bat} {x : Int} (h : OnI T P N) (hd : decN T b = (x, false, 0)) (hp : b.prod ≠ -1) (hk : b.kind = 1) : b.seq = N b.prod b.epoch := by
  have hf := dec_fence hd hp
  rw [dec_next hd hp hk]
  by_cases he : (T.get b.prod).epoch = b.epoch
  · rw [if_pos he, ← he, h.next]
  · rw [if_neg he, h.none _ _ (by omega)]
/-- Records are noted. -/
theorem OnI.records {T : Tb} {P : Int → Int} {N : Int → Int → Int} {b : Bat} {o x : Int} (h : OnI T P N) (hd : decN T b = (x, false, 0)) (hp : b.prod ≠ -1) (hk : b.kind = 1) : OnI (T.set b.prod (notS (T.get b.prod) b o)) (updP P b.prod b.epoch) (updN N b.prod b.epoch (b.seq + b.recs.length)) := by
  have hf := dec_fence hd hp
  have hn := dec_next hd hp hk
  refine ⟨fun p => ?_, fun p => ?_, fun p e he => ?_⟩
  · rw [get_set]; unfold updP
    split
    · rw [notS_epoch]
    · exact h.top p
  · rw [get_set]
    split
    · rename_i hp; subst hp
      rw [notS_epoch, notS_next, if_pos hk, ← hn]
      unfold updN
      rw [if_pos ⟨rfl, rfl⟩]
    · rename_i hq
      unfold updN
      rw [if_neg (fun hh => hq hh.1)]
      exact h.next p
  · rw [get_set] at he
    unfold updN
    split at he
    · rename_i hp; subst hp
      rw [notS_epoch] at he
      rw [if_neg (by omega)]
      exact h.none _ _ (by omega)
    · rename_i hq
      rw [if_neg (fun hh => hq hh.1)]
      exact h.none p e he
/-- A map of numbers, by numbers and by pairs, that has 0 where nothing is. -/
def MapP (w : World) (M n : Nat) (P : Int → Int) : Prop := ∃ f, MapF w 3 M n f ∧ ∀ p, In64 p → (f (kZ p)).getD (.int .i64 0) = .int .i64 (P p)
def MapN (w : World) (M n : Nat) (N : Int → Int → Int) : Prop := ∃ f, MapF w TA2 M n f ∧ ∀ p e, In64 p → In64 e → (f (kA p e)).getD (.int .i64 0) = .int .i64 (N p e)
variable {w w' : World} {M n : Nat} {P : Int → Int} {N : Int → Int → Int}
theorem MapP.lt (h : MapP w M n P) : M < w.heap.size := by obtain ⟨f, h, -⟩ := h; exact h.lt
theorem MapN.lt (h : MapN w M n N) : M < w.heap.size := by obtain ⟨f, h, -⟩ := h; exact h.lt
theorem MapP.keep (h : MapP w M n P) (hk : w'.heap[M]? = w.heap[M]?) : MapP w' M n P := by obtain ⟨f, h, h2⟩ := h; exact ⟨f, h.keep hk, h2⟩
theorem MapN.keep (h : MapN w M n N) (hk : w'.heap[M]? = w.heap[M]?) : MapN w' M n N := by obtain ⟨f, h, h2⟩ := h; exact ⟨f, h.keep hk, h2⟩
theorem MapP.mono (h : MapP w M n P) {m : Nat} (hm : n ≤ m) : MapP w M m P := by obtain ⟨f, h, h2⟩ := h; exact ⟨f, h.mono hm, h2⟩
theorem MapN.mono (h : MapN w M n N) {m : Nat} (hm : n ≤ m) : MapN w M m N := by obtain ⟨f, h, h2⟩ := h; exact ⟨f, h.mono hm, h2⟩
theorem MapP.look (h : MapP w M n P) {p : Int} (hp : In64 p) : (Instr.lookup 55 (.map (some M)) (.int .i64 p) false).run Try.prog w = .ok (.int .i64 (P p)) w := by
  obtain ⟨f, h, h2⟩ := h
  rw [h.look keyI Try.underlying55 (Try.zeroValue3 w) (keyOf_z hp.1 hp.2), h2 p hp]
theorem MapN.look (h : MapN w M n N) {p e : Int} (hp : In64 p) (he : In64 e) : (Instr.lookup 54 (.map (some M)) (.agg #[.int .i64 p, .int .i64 e]) false).run Try.prog w = .ok (.int .i64 (N p e)) w := by
  obtain ⟨f, h, h2⟩ := h
  rw [h.look keyA2 Try.underlying54 (Try.zeroValue3 w) (keyOf_a hp he), h2 p e hp he]
theorem MapP.store (h : MapP w M n P) (hn : n < maxLen) {p : Int} (hp : In64 p) (x : Int) :
    ∃ w', (Instr.mapUpdate 55 (.map (some M)) (.int .i64 p) (.int .i64 x)).run Try.prog w = .ok () w' ∧ MapP w' M (n + 1) (updP P p x) ∧ Chg [M] w w' := by
  obtain ⟨f, h, h2⟩ := h
  obtain ⟨w', hr, hm, hc⟩ := h.store keyI Try.underlying55 hn (val := .int .i64 x) (keyOf_z hp.1 hp.2)
  refine ⟨w', hr, ⟨_, hm, fun q hq => ?_⟩, hc⟩
  unfold updP
  by_cases e : q = p
  · subst e; rw [updF_same, if_pos rfl]; rfl
  · rw [updF_other _ (fun he => e (kZ_inj he)), if_neg e]
    exact h2 q hq
theorem MapN.store (h : MapN w M n N) (hn : n < maxLen) {p e : Int} (hp : In64 p) (he : In64 e) (x : Int) :
    ∃ w', (Instr.mapUpdate 54 (.map (some M)) (.agg #[.int .i64 p, .int .i64 e]) (.int .i64 x)).run Try.prog w = .ok () w' ∧ MapN w' M (n + 1) (updN N p e x) ∧ Chg [M] w w' := by
  obtain ⟨f, h, h2⟩ := h
  obtain ⟨w', hr, hm, hc⟩ := h.store keyA2 Try.underlying54 hn (val := .int .i64 x) (keyOf_a hp he)
  refine ⟨w', hr, ⟨_, hm, fun q f hq hf => ?_⟩, hc⟩
  unfold updN
  by_cases e1 : q = p ∧ f = e
  · obtain ⟨rfl, rfl⟩ := e1; rw [updF_same, if_pos ⟨rfl, rfl⟩]; rfl
  · rw [updF_other _ (fun h => e1 (kA_inj hq hf hp he h)), if_neg e1]
    exact h2 q f hq hf
end Go.Proofs.Ytobaeiicacpbnaa
