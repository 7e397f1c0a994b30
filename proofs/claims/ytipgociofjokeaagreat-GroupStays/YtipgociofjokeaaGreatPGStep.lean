/- What one store makes of a group in memory; what a deed leaves. The dealing of a generation, as plain data and as what it wants. -/
import Derived.Test.YtipgociofjokeaaGreatGRise
namespace Go.Proofs.YtipgociofjokeaaGreat
open Go.RowKit Go.Shelf Go.Sort
variable {w w' : World} {g M1 M2 M3 n : Nat} {A : Nm → Sl} {pv : Value} {G : Gp} {F F' : List Nat}

theorem GP.mono (h : GP w F g M1 M2 M3 n A pv G) {m : Nat} (hm : n ≤ m) : GP w F g M1 M2 M3 m A pv G := ⟨h.box, h.mem.mono hm, h.off.mono (by omega), h.pend, h.ep.mono hm, h.rows, h.ne12, h.ne13, h.ne23, h.inG, h.in1, h.in2, h.in3, h.inP, h.inR⟩
theorem GP.wide (h : GP w F g M1 M2 M3 n A pv G) (hF : ∀ b ∈ F, b ∈ F') : GP w F' g M1 M2 M3 n A pv G := ⟨h.box, h.mem, h.off, h.pend, h.ep, h.rows, h.ne12, h.ne13, h.ne23, hF _ h.inG, hF _ h.in1, hF _ h.in2, hF _ h.in3, fun b hb => hF b (h.inP b hb), fun nm mb b hm hb => hF b (h.inR nm mb b hm hb)⟩
theorem mapF_chg {K : TypeId} {M : Nat} {f : Lit → Option Value} {X : List Nat} (h : MapF w K M n f) (hc : Chg X w w') (hn : M ∉ X) : MapF w' K M n f := h.keep (hc.block M h.lt hn)
theorem GP.memSet (h : GP w F g M1 M2 M3 n A pv G) (hc : Chg [M1] w w') {nm : Nm} {mb : Mb} {s : Sl} (hm : MapF w' 9 M1 (n + 1) (updF (memF G.mem A) (.string nm) (some (.agg #[.int .i64 mb.heard, .slice s.ad s.m s.c])))) (hrow : OwnK kZ w 0 s.v mb.parts) (hs : ∀ b, s.v.ownBlock = some b → b ∈ F) :
    GP w' F g M1 M2 M3 (n + 1) (setA A nm s) pv { G with mem := setN G.mem nm (some mb) } := by
  refine ⟨h.box.chg hc (by have := blk_map_ne h.box h.mem; simpa using this), hm.congr (memF_set _ _ _ _ _), (mapF_chg h.off hc (by have := h.ne12; simp; omega)).mono (by show n - G.pend.length ≤ n + 1 - G.pend.length; omega), h.pend.chg hc (fun b hb => by have := own_map_ne h.pend hb h.mem; simpa using this), (mapF_chg h.ep hc (by have := h.ne13; simp; omega)).mono (by omega), fun q mb' hq => ?_, h.ne12, h.ne13, h.ne23, h.inG, h.in1, h.in2, h.in3, h.inP, fun q mb' b hq hb => ?_⟩
  · by_cases e : q = nm
    · subst e
      rw [setA_same]
      have hq' : setN G.mem q (some mb) q = some mb' := hq
      rw [setN_same] at hq'
      cases hq'
      exact hrow.chg hc (fun b hb => by have := own_map_ne hrow hb h.mem; simpa using this)
    · have hq' : setN G.mem nm (some mb) q = some mb' := hq
      rw [setN_other _ e] at hq'
      rw [setA_other _ e]
      exact (h.rows q mb' hq').chg hc (fun b hb => by have := own_map_ne (h.rows q mb' hq') hb h.mem; simpa using this)
  · by_cases e : q = nm
    · subst e
      rw [setA_same] at hb
      exact hs b hb
    · have hq' : setN G.mem nm (some mb) q = some mb' := hq
      rw [setN_other _ e] at hq'
      rw [setA_other _ e] at hb
      exact h.inR q mb' b hq' hb
theorem GP.memDel (h : GP w F g M1 M2 M3 n A pv G) (hc : Chg [M1] w w') {nm : Nm} (hm : MapF w' 9 M1 n (updF (memF G.mem A) (.string nm) none)) :
    GP w' F g M1 M2 M3 n A pv { G with mem := setN G.mem nm none } := by
  have hk : ∀ q mb', setN G.mem nm none q = some mb' → G.mem q = some mb' := fun q mb' hq => by
    by_cases e : q = nm
    · subst e; rw [setN_same] at hq; cases hq
    · rwa [setN_other _ e] at hq
  refine ⟨h.box.chg hc (by have := blk_map_ne h.box h.mem; simpa using this), hm.congr (memF_del _ _ _), mapF_chg h.off hc (by have := h.ne12; simp; omega), h.pend.chg hc (fun b hb => by have := own_map_ne h.pend hb h.mem; simpa using this), mapF_chg h.ep hc (by have := h.ne13; simp; omega), fun q mb' hq => ?_, h.ne12, h.ne13, h.ne23, h.inG, h.in1, h.in2, h.in3, h.inP, fun q mb' b hq hb => h.inR q mb' b (hk q mb' hq) hb⟩
  exact (h.rows q mb' (hk q mb' hq)).chg hc (fun b hb => by have := own_map_ne (h.rows q mb' (hk q mb' hq)) hb h.mem; simpa using this)
theorem GP.offSet (h : GP w F g M1 M2 M3 n A pv G) (hc : Chg [M2] w w') {p y : Int} (hm : MapF w' 3 M2 (n + 1 - G.pend.length) (updF (intF G.off) (litZ p) (some (.int .i64 y)))) :
    GP w' F g M1 M2 M3 (n + 1) A pv { G with off := setN G.off p (some y) } := by
  refine ⟨h.box.chg hc (by have := blk_map_ne h.box h.off; simpa using this), (mapF_chg h.mem hc (by have := h.ne12; simp; omega)).mono (by omega), hm.congr (intF_set _ _ _), h.pend.chg hc (fun b hb => by have := own_map_ne h.pend hb h.off; simpa using this), (mapF_chg h.ep hc (by have := h.ne23; simp; omega)).mono (by omega), fun q mb' hq => ?_, h.ne12, h.ne13, h.ne23, h.inG, h.in1, h.in2, h.in3, h.inP, h.inR⟩
  exact (h.rows q mb' hq).chg hc (fun b hb => by have := own_map_ne (h.rows q mb' hq) hb h.off; simpa using this)
theorem GP.epSet (h : GP w F g M1 M2 M3 n A pv G) (hc : Chg [M3] w w') {p y : Int} (hm : MapF w' 3 M3 (n + 1) (updF (intF G.ep) (litZ p) (some (.int .i64 y)))) :
    GP w' F g M1 M2 M3 (n + 1) A pv { G with ep := setN G.ep p (some y) } := by
  refine ⟨h.box.chg hc (by have := blk_map_ne h.box h.ep; simpa using this), (mapF_chg h.mem hc (by have := h.ne13; simp; omega)).mono (by omega), (mapF_chg h.off hc (by have := h.ne23; simp; omega)).mono (by show n - G.pend.length ≤ n + 1 - G.pend.length; omega), h.pend.chg hc (fun b hb => by have := own_map_ne h.pend hb h.ep; simpa using this), hm.congr (intF_set _ _ _), fun q mb' hq => ?_, h.ne12, h.ne13, h.ne23, h.inG, h.in1, h.in2, h.in3, h.inP, h.inR⟩
  exact (h.rows q mb' hq).chg hc (fun b hb => by have := own_map_ne (h.rows q mb' hq) hb h.ep; simpa using this)
/-- .. a cell of the group's own box. -/
theorem GP.boxSet (h : GP w F g M1 M2 M3 n A pv G) {i : Nat} {v : Value} {G' : Gp} {pv' : Value} (hb : (#[.int .i64 G.parts, .int .i64 G.sess, .int .i64 G.gen, .map (some M1), .map (some M2), pv, .map (some M3)] : Array Value).setIfInBounds i v = #[.int .i64 G'.parts, .int .i64 G'.sess, .int .i64 G'.gen, .map (some M1), .map (some M2), pv', .map (some M3)])
    (e1 : G'.mem = G.mem) (e2 : G'.off = G.off) (e4 : MapF w 3 M2 (n - G'.pend.length) (intF G.off)) (e3 : G'.ep = G.ep) (hp : OwnK kPd w 0 pv' G'.pend) (hP : ∀ b, pv'.ownBlock = some b → b ∈ F) : GP (w.setCell ⟨g, i, none⟩ v) F g M1 M2 M3 n A pv' G' := by
  have hc : Chg [g] w (w.setCell ⟨g, i, none⟩ v) := (Chg.refl _ _).set (Or.inl (by simp)) i v
  have hx := h.box.set i v
  rw [hb] at hx
  have n1 := blk_map_ne h.box h.mem
  have n2 := blk_map_ne h.box h.off
  have n3 := blk_map_ne h.box h.ep
  refine ⟨hx, ?_, ?_, hp.chg hc (fun b hb => ?_), ?_, fun q mb' hq => ?_, h.ne12, h.ne13, h.ne23, h.inG, h.in1, h.in2, h.in3, hP, fun q mb' b hq hb => h.inR q mb' b (by rw [← e1]; exact hq) hb⟩
  · rw [e1]; exact mapF_chg h.mem hc (by simp; omega)
  · rw [e2]; exact mapF_chg e4 hc (by simp; omega)
  · have := own_blk_ne hp hb h.box (by decide); simpa using this
  · rw [e3]; exact mapF_chg h.ep hc (by simp; omega)
  · have hr := h.rows q mb' (by rw [← e1]; exact hq)
    exact hr.chg hc (fun b hb => by have := own_blk_ne hr hb h.box (by decide); simpa using this)
/-- A group somewhere: its blocks are among F. -/
def GAt (w : World) (F : List Nat) (g n : Nat) (G : Gp) : Prop := (∃ M1 M2 M3 A pv, GP w F g M1 M2 M3 n A pv G) ∧ GOk n G ∧ ∀ b ∈ F, b < w.heap.size
/-- What a call leaves of a group. -/
def GMv (w w' : World) (F : List Nat) (g n : Nat) (G : Gp) : Prop := ∃ F', GAt w' F' g n G ∧ Chg F w w' ∧ ∀ b ∈ F', b ∈ F ∨ w.heap.size ≤ b
theorem GAt.later (h : GAt w F g n G) (hb : Below w.heap.size w w') : GAt w' F g n G := by
  obtain ⟨⟨M1, M2, M3, A, pv, h1⟩, h2, h3⟩ := h
  exact ⟨⟨M1, M2, M3, A, pv, h1.later hb⟩, h2, fun b hb' => Nat.lt_of_lt_of_le (h3 b hb') hb.size⟩
theorem GAt.chg {X : List Nat} (h : GAt w F g n G) (hc : Chg X w w') (hn : ∀ b ∈ F, b ∉ X) : GAt w' F g n G := by
  obtain ⟨⟨M1, M2, M3, A, pv, h1⟩, h2, h3⟩ := h
  exact ⟨⟨M1, M2, M3, A, pv, h1.chg hc hn⟩, h2, fun b hb' => Nat.lt_of_lt_of_le (h3 b hb') hc.size⟩
theorem GOk.mono (h : GOk n G) {m : Nat} (hm : n ≤ m) : GOk m G := ⟨h.sorted, h.nodup, h.mem, h.name, h.cnt, h.parts, h.sess, h.heard, h.share, ⟨h.gen.1, by have := h.gen.2; omega⟩, Nat.le_trans h.pend hm, h.pin⟩
theorem GAt.mono (h : GAt w F g n G) {m : Nat} (hm : n ≤ m) : GAt w F g m G := by
  obtain ⟨⟨M1, M2, M3, A, pv, h1⟩, h2, h3⟩ := h
  exact ⟨⟨M1, M2, M3, A, pv, h1.mono hm⟩, h2.mono hm, h3⟩
/-- A store of a member into the map. -/
theorem GP.storeMem (h : GP w F g M1 M2 M3 n A pv G) (hn : n < maxLen) (nm : Nm) (hs : nm.length ≤ maxLen) (mb : Mb) (s : Sl) (hrow : OwnK kZ w 0 s.v mb.parts) (hF : ∀ b, s.v.ownBlock = some b → b ∈ F) :
    ∃ w', (Instr.mapUpdate TMb (.map (some M1)) (.string (nmS nm)) (.agg #[.int .i64 mb.heard, .slice s.ad s.m s.c])).run Tryz.prog w = .ok () w' ∧ GP w' F g M1 M2 M3 (n + 1) (setA A nm s) pv { G with mem := setN G.mem nm (some mb) } ∧ Chg [M1] w w' := by
  obtain ⟨w', hr, hM, hc⟩ := h.mem.store keyN Tryz.underlying37 hn (key := .string (nmS nm)) (val := .agg #[.int .i64 mb.heard, .slice s.ad s.m s.c]) (keyOf_n nm hs)
  exact ⟨w', hr, h.memSet hc hM hrow hF, hc⟩
theorem GP.dropMem (h : GP w F g M1 M2 M3 n A pv G) (nm : Nm) (hs : nm.length ≤ maxLen) (ty : TypeId) :
    ∃ w', (Builtin.delete_ #[TMb, 9] ty #[.map (some M1), .string (nmS nm)]).run Tryz.prog w = .ok (.tuple #[]) w' ∧ GP w' F g M1 M2 M3 n A pv { G with mem := setN G.mem nm none } ∧ Chg [M1] w w' := by
  obtain ⟨w', hr, hM, hc⟩ := h.mem.drop keyN Tryz.underlying37 (key := .string (nmS nm)) (keyOf_n nm hs) ty
  exact ⟨w', hr, h.memDel hc hM, hc⟩
theorem GP.storeOff (h : GP w F g M1 M2 M3 n A pv G) (hp : G.pend.length ≤ n) (hn : n < maxLen) {p : Int} (h1 : -9223372036854775808 ≤ p) (h2 : p ≤ 9223372036854775807) (y : Int) :
    ∃ w', (Instr.mapUpdate TIi (.map (some M2)) (.int .i64 p) (.int .i64 y)).run Tryz.prog w = .ok () w' ∧ GP w' F g M1 M2 M3 (n + 1) A pv { G with off := setN G.off p (some y) } ∧ Chg [M2] w w' := by
  obtain ⟨w', hr, hM, hc⟩ := h.off.store keyI Tryz.underlying38 (by omega) (key := .int .i64 p) (val := .int .i64 y) (keyOf_z h1 h2)
  exact ⟨w', hr, h.offSet hc (hM.mono (by omega)), hc⟩
theorem GP.storeEp (h : GP w F g M1 M2 M3 n A pv G) (hn : n < maxLen) {p : Int} (h1 : -9223372036854775808 ≤ p) (h2 : p ≤ 9223372036854775807) (y : Int) :
    ∃ w', (Instr.mapUpdate TIi (.map (some M3)) (.int .i64 p) (.int .i64 y)).run Tryz.prog w = .ok () w' ∧ GP w' F g M1 M2 M3 (n + 1) A pv { G with ep := setN G.ep p (some y) } ∧ Chg [M3] w w' := by
  obtain ⟨w', hr, hM, hc⟩ := h.ep.store keyI Tryz.underlying38 hn (key := .int .i64 p) (val := .int .i64 y) (keyOf_z h1 h2)
  exact ⟨w', hr, h.epSet hc hM, hc⟩
end Go.Proofs.YtipgociofjokeaaGreat
namespace Go.Proofs.YtipgociofjokeaaGreat
open Go.RowKit Go.Shelf Go.Sort Go.Lib
variable {w w' : World} {g M1 M2 M3 n : Nat} {A : Nm → Sl} {pv : Value} {G : Gp} {F : List Nat}

theorem compact_full {s : List Nm} (h : ∀ j, 0 < j → j < s.length → s.getD j [] ≠ s.getD (j - 1) []) : (compact s).length = s.length := by
  unfold compact compactUpTo
  rw [List.length_map]
  have hf : ((List.range s.length).filter (keeps s.toArray)) = List.range s.length := by
    refine List.filter_eq_self.2 (fun j hj => ?_)
    have hj : j < s.length := by simpa using hj
    unfold keeps
    simp only [decide_eq_true_eq]
    by_cases h0 : j = 0
    · exact Or.inl h0
    · refine Or.inr ?_
      have e1 : s.toArray[j]! = s.getD j [] := by simp [List.getD_eq_getElem?_getD, hj]
      have e2 : s.toArray[j - 1]! = s.getD (j - 1) [] := by
        have : j - 1 < s.length := by omega
        simp [List.getD_eq_getElem?_getD, this]
      rw [e1, e2]
      exact h j (by omega) hj
  rw [hf, List.length_range]
theorem nameOk_len {s : Nm} (h : nameOk s = true) : 1 ≤ s.length ∧ s.length ≤ 64 := by
  unfold nameOk at h
  rw [Bool.and_eq_true, decide_eq_true_eq, decide_eq_true_eq] at h
  exact h
theorem noName_no {s : Nm} (h : nameOk s = true) : noName s = false := by
  have h1 := nameOk_len h
  have e1 : (s.length == 0) = false := beq_eq_false_iff_ne.2 (by omega)
  have e2 : decide (64 < s.length) = false := decide_eq_false (by omega)
  unfold noName
  rw [e1, e2]
  rfl
theorem risN_of {l : List Nm} (h : l.Pairwise (· ≤ ·)) : risN l = l := List.mergeSort_of_pairwise (h.imp (fun {a b} hab => by simpa using hab))
theorem GOk.ris {k : Nat} (ho : GOk k G) : risN G.ks = G.ks := risN_of ho.sorted
/-- The names of a group are members that may be. -/
theorem GOk.may {k : Nat} (ho : GOk k G) : mayN G.ks G.parts = true := by
  have hr := ho.ris
  have hc : (compact G.ks).length = G.ks.length := compact_full (fun j h0 hj e => by
    have hn := ho.nodup
    unfold List.Nodup at hn
    rw [List.pairwise_iff_getElem] at hn
    have := hn (j - 1) j (by omega) hj (by omega)
    rw [getD_at _ _ _ hj, getD_at _ _ _ (show j - 1 < G.ks.length by omega)] at e
    exact this e.symm)
  have ha : G.ks.any noName = false := by
    rw [List.any_eq_false]
    intro x hx
    rw [noName_no (ho.name x hx)]
    simp
  have b1 := ho.cnt
  have b2 := ho.parts
  have h1 : ¬ 1000 < G.ks.length := by omega
  have h2 : ¬ G.parts < 0 := by omega
  have h3 : ¬ 32 < G.parts := by omega
  unfold mayN
  rw [hr, hc, ha]
  simp [h1, h2, h3]
theorem getD_name {j : Nat} (hj : j < G.ks.length) : G.ks.getD j [] ∈ G.ks := by rw [getD_at _ _ _ hj]; exact List.getElem_mem hj
theorem idxOf_at {k : Nat} (ho : GOk k G) {j : Nat} (hj : j < G.ks.length) : G.ks.idxOf (G.ks.getD j []) = j := by
  rw [getD_at _ _ _ hj]
  exact List.Nodup.idxOf_getElem ho.nodup j hj
theorem idxOf_ne {j : Nat} (hj : j < G.ks.length) {q : Nm} (hq : q ≠ G.ks.getD j []) : G.ks.idxOf q ≠ j := by
  intro e
  apply hq
  have hl : G.ks.idxOf q < G.ks.length := by omega
  have := List.getElem_idxOf hl
  rw [getD_at _ _ _ hj]
  subst e
  exact this.symm
/-- One member more is given its share. -/
theorem dealTo_step {k : Nat} (ho : GOk k G) (P : List (List Int)) {j : Nat} (hj : j < G.ks.length) : setN (dealTo G P j) (G.ks.getD j []) (some ⟨G.heard (G.ks.getD j []), P.getD j []⟩) = dealTo G P (j + 1) := by
  funext q
  by_cases e : q = G.ks.getD j []
  · subst e
    rw [setN_same]
    unfold dealTo
    rw [idxOf_at ho hj, if_pos (by omega)]
    have hs := (ho.mem _).1 (getD_name hj)
    cases hm : G.mem (G.ks.getD j []) with
    | none => rw [hm] at hs; cases hs
    | some mb => unfold Gp.heard; rw [hm]; rfl
  · rw [setN_other _ e]
    have := idxOf_ne hj e
    unfold dealTo
    by_cases h1 : G.ks.idxOf q < j
    · rw [if_pos h1, if_pos (by omega)]
    · rw [if_neg h1, if_neg (by omega)]
theorem dealTo_zero (P : List (List Int)) : dealTo G P 0 = G.mem := by funext q; unfold dealTo; rw [if_neg (by omega)]
theorem dealTo_heard (P : List (List Int)) (j : Nat) (q : Nm) : (((dealTo G P j) q).getD ⟨0, []⟩).heard = G.heard q := by
  unfold dealTo Gp.heard
  split
  · cases G.mem q <;> rfl
  · rfl
theorem dealTo_isSome (P : List (List Int)) (j : Nat) (q : Nm) : ((dealTo G P j) q).isSome = (G.mem q).isSome := by
  unfold dealTo
  split
  · cases G.mem q <;> rfl
  · rfl
theorem cov_len {P : List (List Int)} {p : Nat} (h : CovP P p) : ∀ q ∈ P, q.length ≤ p := fun q hq => by
  have h1 : q.length ≤ P.flatten.length := by
    have : q.Sublist P.flatten := List.sublist_flatten_of_mem hq
    exact this.length_le
  rw [h.perm.length_eq, allP_len] at h1
  exact h1
theorem dealt_len {k : Nat} (ho : GOk k G) (i : Nat) : (G.dealt.getD i []).length ≤ 32 := by
  by_cases h0 : G.ks = []
  · unfold Gp.dealt
    rw [h0]
    unfold stickyP
    rw [show risN ([] : List Nm) = [] from risN_nil]
    have : ∀ s : Dk, (stepsN (stickF (G.parts.toNat / ([] : List Nm).length) [] (hadN [] (([] : List Nm).map G.share) (allP G.parts.toNat) []).2) [] (s, List.replicate ([] : List Nm).length []) 4).2 = [] := fun s => rfl
    rw [this]
    simp
  · have hc := sticky_cov G.ks (G.ks.map G.share) G.ks G.parts.toNat h0
    by_cases hi : i < G.dealt.length
    · have h2 := cov_len hc (G.dealt.getD i []) (by rw [getD_at _ _ _ hi]; exact List.getElem_mem hi)
      have h3 := ho.parts
      omega
    · rw [List.getD_eq_getElem?_getD, List.getElem?_eq_none (by omega)]; simp
theorem GOk.dealt {k : Nat} (ho : GOk k G) : GOk (k + 1) G.deal := by
  refine ⟨ho.sorted, ho.nodup, fun nm => ?_, ho.name, ho.cnt, ho.parts, ho.sess, fun nm mb hm => ?_, fun nm mb hm => ?_, ⟨?_, ?_⟩, Nat.le_succ_of_le ho.pend, ho.pin⟩
  · show nm ∈ G.ks ↔ ((dealTo G G.dealt G.ks.length) nm).isSome = true
    rw [dealTo_isSome]
    exact ho.mem nm
  · have hm' : dealTo G G.dealt G.ks.length nm = some mb := hm
    have h1 := dealTo_heard (G := G) G.dealt G.ks.length nm
    rw [hm'] at h1
    have h2 : mb.heard = G.heard nm := h1
    rw [h2]
    unfold Gp.heard
    cases hg : G.mem nm with
    | none => show (0 : Int) ≤ 0 ∧ (0 : Int) < 281474976710656; omega
    | some mb' => exact ho.heard nm mb' hg
  · have hm' : dealTo G G.dealt G.ks.length nm = some mb := hm
    unfold dealTo at hm'
    split at hm'
    · cases hg : G.mem nm with
      | none => rw [hg] at hm'; cases hm'
      | some mb' =>
        rw [hg] at hm'
        cases hm'
        exact dealt_len ho _
    · exact ho.share nm mb hm'
  · show 0 ≤ G.gen + 1
    have := ho.gen.1
    omega
  · show G.gen + 1 ≤ ((k + 1 : Nat) : Int)
    have := ho.gen.2
    omega
theorem sh_row2 (Y : World) (s : ByteArray) (d : Nm) (h : nmS d = s) (sa : Option Addr) (sm sc : Nat) : RowK kSh (Y.alloc (.cells #[.string s, .slice sa sm sc] 87)) (some ⟨Y.heap.size, 0, none⟩) [(d, ⟨sa, sm, sc⟩)] := by
  subst h
  refine Or.inr ⟨_, 0, rfl, by simp, fun i hi c hc => ?_⟩
  obtain rfl : i = 0 := by simp at hi; omega
  have hb : Blk (Y.alloc (.cells #[.string (nmS d), .slice sa sm sc] 87)) Y.heap.size _ _ := heap_alloc_new Y _
  have : kSh.sz = 2 := rfl
  rcases (show c = 0 ∨ c = 1 by omega) with rfl | rfl
  · exact hb.cell 0
  · exact hb.cell 1
/-- The old shares, as Sticky takes them. -/
theorem GP.old (h : GP w F g M1 M2 M3 n A pv G) {k : Nat} (ho : GOk k G) {a : Option Addr} {cc base : Nat} (hO : OwnK kSh w base (.slice a G.ks.length cc) (G.ks.map (fun nm => (nm, slOf G A nm)))) : OldA w (G.ks.map (fun nm => (nm, slOf G A nm))) (G.ks.map G.share) a G.ks.length cc := by
  obtain ⟨a', c', e, hA⟩ := hO.form kSh_ok.tofit
  rw [List.length_map] at e hA
  obtain ⟨rfl, rfl⟩ : a = a' ∧ cc = c' := by injection e with e1 e2 e3; exact ⟨e1, e3⟩
  have hat : ∀ i, i < G.ks.length → (G.ks.map (fun nm => ((nm, slOf G A nm) : ShA))).getD i sh0 = (G.ks.getD i [], slOf G A (G.ks.getD i [])) := fun i hi => by
    rw [List.getD_eq_getElem?_getD, List.getElem?_map, List.getElem?_eq_getElem hi, getD_at _ _ _ hi]; rfl
  refine ⟨hA, by simp, fun i hi => ?_, fun i hi => ?_⟩
  · have hi' : i < G.ks.length := by simpa using hi
    rw [hat i hi']
    obtain ⟨b, d, e2, h2⟩ := (h.shareAt (G.ks.getD i [])).form kZ_ok.tofit
    rw [show (G.ks.map G.share).getD i [] = G.share (G.ks.getD i []) by rw [List.getD_eq_getElem?_getD, List.getElem?_map, List.getElem?_eq_getElem hi', getD_at _ _ _ hi']; rfl]
    unfold Sl.v at e2
    injection e2 with f1 f2 f3
    show ArgK kZ w _ (slOf G A (G.ks.getD i [])).ad (slOf G A (G.ks.getD i [])).m (slOf G A (G.ks.getD i [])).c
    rw [f1, f2, f3]
    exact h2
  · have hi' : i < G.ks.length := by simpa using hi
    rw [hat i hi']
    have := nameOk_len (ho.name _ (getD_name hi'))
    show (G.ks.getD i []).length ≤ maxLen
    unfold maxLen
    omega
theorem ansP_open {names : List Nm} {P : List (List Int)} {e : Ending} {m : Nat} (h : AnsP w true names P e w') (hm : names.length = m) : ∃ a As c, e = .returned (.tuple #[.slice a m c, .int .i64 0]) ∧ Shs w' w.heap.size (.slice a m c) As P ∧ As.map (·.1) = names ∧ Below w.heap.size w w' := by
  obtain ⟨⟨v, As, h1, h2, h3⟩, h4⟩ := h
  obtain ⟨a, c, e1, -⟩ := h2.row.form kSh_ok.tofit
  have hl : As.length = m := by have := congrArg List.length h3; rw [List.length_map, hm] at this; exact this
  rw [hl] at e1
  subst e1
  exact ⟨a, As, c, h1, h2, h3, h4⟩
theorem GMv.ahead {W : World} {m : Nat} {G' : Gp} (h : GMv W w' F g m G') (hc : Chg F w W) : GMv w w' F g m G' := by
  obtain ⟨F', h1, h2, h3⟩ := h
  exact ⟨F', h1, hc.trans h2 (fun k hk => Or.inl hk), fun b hb => (h3 b hb).imp id (fun h => Nat.le_trans hc.size h)⟩
end Go.Proofs.YtipgociofjokeaaGreat
