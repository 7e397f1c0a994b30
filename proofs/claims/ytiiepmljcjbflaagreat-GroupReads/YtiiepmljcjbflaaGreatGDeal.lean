/- What one store makes of a group in memory; what a deed leaves. The dealing of a generation, as plain data and as what it wants. -/
import Derived.Test.YtiiepmljcjbflaaGreatPGDec
import Derived.Deep.RegionHeld3
import Derived.OrdersHeld
namespace Go.Proofs.YtiiepmljcjbflaaGreat
open Go.RowKit Go.Shelf Go.Sort
variable {w w' : World} {g M1 M2 M3 n : Nat} {A : Nm → Sl} {pv : Value} {G : Gp} {F F' : List Nat}

theorem GP.mono (h : GP w F g M1 M2 M3 n A pv G) {m : Nat} (hm : n ≤ m) : GP w F g M1 M2 M3 m A pv G := ⟨h.box, h.mem.mono hm, h.off.mono (by omega), h.pend, h.ep.mono hm, h.rows, h.ne12, h.ne13, h.ne23, h.inG, h.in1, h.in2, h.in3, h.inP, h.inR⟩
theorem GP.wide (h : GP w F g M1 M2 M3 n A pv G) (hF : ∀ b ∈ F, b ∈ F') : GP w F' g M1 M2 M3 n A pv G := ⟨h.box, h.mem, h.off, h.pend, h.ep, h.rows, h.ne12, h.ne13, h.ne23, hF _ h.inG, hF _ h.in1, hF _ h.in2, hF _ h.in3, fun b hb => hF b (h.inP b hb), fun nm mb b hm hb => hF b (h.inR nm mb b hm hb)⟩
theorem mapF_chg {K : TypeId} {M : Nat} {f : Lit → Option Value} {X : List Nat} (h : MapF w K M n f) (hc : Chg X w w') (hn : M ∉ X) : MapF w' K M n f := h.keep (hc.block M h.lt hn)
theorem GP.memSet (h : GP w F g M1 M2 M3 n A pv G) (hc : Chg [M1] w w') {nm : Nm} {mb : Mb} {s : Sl} (hm : MapF w' 9 M1 (n + 1) (updF (memF G.mem A) (.string nm) (some (.agg #[.int .i64 mb.heard, .slice s.ad s.m s.c])))) (hrow : OwnK kZ w 0 s.v mb.parts) (hs : ∀ b, s.v.ownBlock = some b → b ∈ F) :
    GP w' F g M1 M2 M3 (n + 1) (setA A nm s) pv { G with mem := setN G.mem nm (some mb) } := by
  refine ⟨h.box.chg hc (by have := blk_map_ne h.box h.mem; simpa using this), hm.congr (memF_set _ _ _ _ _), (mapF_chg h.off hc (by have := h.ne12; simp; omega)).mono (by show n - G.pend.length ≤ n + 1 - G.pend.length; omega), h.pend.chg hc (fun b hb => by have := own_map_ne h.pend hb h.mem; simpa using this), (mapF_chg h.ep hc (by have := h.ne13; simp; omega)).mono (by omega), fun q mb' hq => ?_, h.ne12, h.ne13, h.ne23, h.inG, h.in1, h.in2, h.in3, h.inP, fun q mb' b hq hb => ?_⟩
  · by_cases e : q = nm
    · subst e
      rw [setA_same]
      have hq' : setN G.mem q (some mb) q = some mb' := hq
      rw [setN_same] at hq'
      cases hq'
      exact hrow.chg hc (fun b hb => by have := own_map_ne hrow hb h.mem; simpa using this)
    · have hq' : setN G.mem nm (some mb) q = some mb' := hq
      rw [setN_other _ e] at hq'
      rw [setA_other _ e]
      exact (h.rows q mb' hq').chg hc (fun b hb => by have := own_map_ne (h.rows q mb' hq') hb h.mem; simpa using this)
  · by_cases e : q = nm
    · subst e
      rw [setA_same] at hb
      exact hs b hb
    · have hq' : setN G.mem nm (some mb) q = some mb' := hq
      rw [setN_other _ e] at hq'
      rw [setA_other _ e] at hb
      exact h.inR q mb' b hq' hb
theorem GP.memDel (h : GP w F g M1 M2 M3 n A pv G) (hc : Chg [M1] w w') {nm : Nm} (hm : MapF w' 9 M1 n (updF (memF G.mem A) (.string nm) none)) :
    GP w' F g M1 M2 M3 n A pv { G with mem := setN G.mem nm none } := by
  have hk : ∀ q mb', setN G.mem nm none q = some mb' → G.mem q = some mb' := fun q mb' hq => by
    by_cases e : q = nm
    · subst e; rw [setN_same] at hq; cases hq
    · rwa [setN_other _ e] at hq
  refine ⟨h.box.chg hc (by have := blk_map_ne h.box h.mem; simpa using this), hm.congr (memF_del _ _ _), mapF_chg h.off hc (by have := h.ne12; simp; omega), h.pend.chg hc (fun b hb => by have := own_map_ne h.pend hb h.mem; simpa using this), mapF_chg h.ep hc (by have := h.ne13; simp; omega), fun q mb' hq => ?_, h.ne12, h.ne13, h.ne23, h.inG, h.in1, h.in2, h.in3, h.inP, fun q mb' b hq hb => h.inR q mb' b (hk q mb' hq) hb⟩
  exact (h.rows q mb' (hk q mb' hq)).chg hc (fun b hb => by have := own_map_ne (h.rows q mb' (hk q mb' hq)) hb h.mem; simpa using this)
theorem GP.offSet (h : GP w F g M1 M2 M3 n A pv G) (hc : Chg [M2] w w') {p y : Int} (hm : MapF w' 3 M2 (n + 1 - G.pend.length) (updF (intF G.off) (litZ p) (some (.int .i64 y)))) :
    GP w' F g M1 M2 M3 (n + 1) A pv { G with off := setN G.off p (some y) } := by
  refine ⟨h.box.chg hc (by have := blk_map_ne h.box h.off; simpa using this), (mapF_chg h.mem hc (by have := h.ne12; simp; omega)).mono (by omega), hm.congr (intF_set _ _ _), h.pend.chg hc (fun b hb => by have := own_map_ne h.pend hb h.off; simpa using this), (mapF_chg h.ep hc (by have := h.ne23; simp; omega)).mono (by omega), fun q mb' hq => ?_, h.ne12, h.ne13, h.ne23, h.inG, h.in1, h.in2, h.in3, h.inP, h.inR⟩
  exact (h.rows q mb' hq).chg hc (fun b hb => by have := own_map_ne (h.rows q mb' hq) hb h.off; simpa using this)
theorem GP.epSet (h : GP w F g M1 M2 M3 n A pv G) (hc : Chg [M3] w w') {p y : Int} (hm : MapF w' 3 M3 (n + 1) (updF (intF G.ep) (litZ p) (some (.int .i64 y)))) :
    GP w' F g M1 M2 M3 (n + 1) A pv { G with ep := setN G.ep p (some y) } := by
  refine ⟨h.box.chg hc (by have := blk_map_ne h.box h.ep; simpa using this), (mapF_chg h.mem hc (by have := h.ne13; simp; omega)).mono (by omega), (mapF_chg h.off hc (by have := h.ne23; simp; omega)).mono (by show n - G.pend.length ≤ n + 1 - G.pend.length; omega), h.pend.chg hc (fun b hb => by have := own_map_ne h.pend hb h.ep; simpa using this), hm.congr (intF_set _ _ _), fun q mb' hq => ?_, h.ne12, h.ne13, h.ne23, h.inG, h.in1, h.in2, h.in3, h.inP, h.inR⟩
  exact (h.rows q mb' hq).chg hc (fun b hb => by have := own_map_ne (h.rows q mb' hq) hb h.ep; simpa using this)
/-- .. a cell of the group's own box. -/
theorem GP.boxSet (h : GP w F g M1 M2 M3 n A pv G) {i : Nat} {v : Value} {G' : Gp} {pv' : Value} (hb : (#[.int .i64 G.parts, .int .i64 G.sess, .int .i64 G.gen, .map (some M1), .map (some M2), pv, .map (some M3)] : Array Value).setIfInBounds i v = #[.int .i64 G'.parts, .int .i64 G'.sess, .int .i64 G'.gen, .map (some M1), .map (some M2), pv', .map (some M3)])
    (e1 : G'.mem = G.mem) (e2 : G'.off = G.off) (e4 : MapF w 3 M2 (n - G'.pend.length) (intF G.off)) (e3 : G'.ep = G.ep) (hp : OwnK kPd w 0 pv' G'.pend) (hP : ∀ b, pv'.ownBlock = some b → b ∈ F) : GP (w.setCell ⟨g, i, none⟩ v) F g M1 M2 M3 n A pv' G' := by
  have hc : Chg [g] w (w.setCell ⟨g, i, none⟩ v) := (Chg.refl _ _).set (Or.inl (by simp)) i v
  have hx := h.box.set i v
  rw [hb] at hx
  have n1 := blk_map_ne h.box h.mem
  have n2 := blk_map_ne h.box h.off
  have n3 := blk_map_ne h.box h.ep
  refine ⟨hx, ?_, ?_, hp.chg hc (fun b hb => ?_), ?_, fun q mb' hq => ?_, h.ne12, h.ne13, h.ne23, h.inG, h.in1, h.in2, h.in3, hP, fun q mb' b hq hb => h.inR q mb' b (by rw [← e1]; exact hq) hb⟩
  · rw [e1]; exact mapF_chg h.mem hc (by simp; omega)
  · rw [e2]; exact mapF_chg e4 hc (by simp; omega)
  · have := own_blk_ne hp hb h.box (by decide); simpa using this
  · rw [e3]; exact mapF_chg h.ep hc (by simp; omega)
  · have hr := h.rows q mb' (by rw [← e1]; exact hq)
    exact hr.chg hc (fun b hb => by have := own_blk_ne hr hb h.box (by decide); simpa using this)
/-- A group somewhere: its blocks are among F. -/
def GAt (w : World) (F : List Nat) (g n : Nat) (G : Gp) : Prop := (∃ M1 M2 M3 A pv, GP w F g M1 M2 M3 n A pv G) ∧ GOk n G ∧ ∀ b ∈ F, b < w.heap.size
/-- What a call leaves of a group. -/
def GMv (w w' : World) (F : List Nat) (g n : Nat) (G : Gp) : Prop := ∃ F', GAt w' F' g n G ∧ Chg F w w' ∧ ∀ b ∈ F', b ∈ F ∨ w.heap.size ≤ b
theorem GAt.later (h : GAt w F g n G) (hb : Below w.heap.size w w') : GAt w' F g n G := by
  obtain ⟨⟨M1, M2, M3, A, pv, h1⟩, h2, h3⟩ := h
  exact ⟨⟨M1, M2, M3, A, pv, h1.later hb⟩, h2, fun b hb' => Nat.lt_of_lt_of_le (h3 b hb') hb.size⟩
theorem GAt.chg {X : List Nat} (h : GAt w F g n G) (hc : Chg X w w') (hn : ∀ b ∈ F, b ∉ X) : GAt w' F g n G := by
  obtain ⟨⟨M1, M2, M3, A, pv, h1⟩, h2, h3⟩ := h
  exact ⟨⟨M1, M2, M3, A, pv, h1.chg hc hn⟩, h2, fun b hb' => Nat.lt_of_lt_of_le (h3 b hb') hc.size⟩
theorem GOk.mono (h : GOk n G) {m : Nat} (hm : n ≤ m) : GOk m G := ⟨h.sorted, h.nodup, h.mem, h.name, h.cnt, h.parts, h.sess, h.heard, h.share, ⟨h.gen.1, by have := h.gen.2; omega⟩, Nat.le_trans h.pend hm, h.pin⟩
theorem GAt.mono (h : GAt w F g n G) {m : Nat} (hm : n ≤ m) : GAt w F g m G := by
  obtain ⟨⟨M1, M2, M3, A, pv, h1⟩, h2, h3⟩ := h
  exact ⟨⟨M1, M2, M3, A, pv, h1.mono hm⟩, h2.mono hm, h3⟩
/-- A store of a member into the map. -/
theorem GP.storeMem (h : GP w F g M1 M2 M3 n A pv G) (hn : n < maxLen) (nm : Nm) (hs : nm.length ≤ maxLen) (mb : Mb) (s : Sl) (hrow : OwnK kZ w 0 s.v mb.parts) (hF : ∀ b, s.v.ownBlock = some b → b ∈ F) :
    ∃ w', (Instr.mapUpdate TMb (.map (some M1)) (.string (nmS nm)) (.agg #[.int .i64 mb.heard, .slice s.ad s.m s.c])).run Tryz.prog w = .ok () w' ∧ GP w' F g M1 M2 M3 (n + 1) (setA A nm s) pv { G with mem := setN G.mem nm (some mb) } ∧ Chg [M1] w w' := by
  obtain ⟨w', hr, hM, hc⟩ := h.mem.store keyN Tryz.underlying79 hn (key := .string (nmS nm)) (val := .agg #[.int .i64 mb.heard, .slice s.ad s.m s.c]) (keyOf_n nm hs)
  exact ⟨w', hr, h.memSet hc hM hrow hF, hc⟩
theorem GP.dropMem (h : GP w F g M1 M2 M3 n A pv G) (nm : Nm) (hs : nm.length ≤ maxLen) (ty : TypeId) :
    ∃ w', (Builtin.delete_ #[TMb, 9] ty #[.map (some M1), .string (nmS nm)]).run Tryz.prog w = .ok (.tuple #[]) w' ∧ GP w' F g M1 M2 M3 n A pv { G with mem := setN G.mem nm none } ∧ Chg [M1] w w' := by
  obtain ⟨w', hr, hM, hc⟩ := h.mem.drop keyN Tryz.underlying79 (key := .string (nmS nm)) (keyOf_n nm hs) ty
  exact ⟨w', hr, h.memDel hc hM, hc⟩
theorem GP.storeOff (h : GP w F g M1 M2 M3 n A pv G) (hp : G.pend.length ≤ n) (hn : n < maxLen) {p : Int} (h1 : -9223372036854775808 ≤ p) (h2 : p ≤ 9223372036854775807) (y : Int) :
    ∃ w', (Instr.mapUpdate TIi (.map (some M2)) (.int .i64 p) (.int .i64 y)).run Tryz.prog w = .ok () w' ∧ GP w' F g M1 M2 M3 (n + 1) A pv { G with off := setN G.off p (some y) } ∧ Chg [M2] w w' := by
  obtain ⟨w', hr, hM, hc⟩ := h.off.store keyI Tryz.underlying80 (by omega) (key := .int .i64 p) (val := .int .i64 y) (keyOf_z h1 h2)
  exact ⟨w', hr, h.offSet hc (hM.mono (by omega)), hc⟩
theorem GP.storeEp (h : GP w F g M1 M2 M3 n A pv G) (hn : n < maxLen) {p : Int} (h1 : -9223372036854775808 ≤ p) (h2 : p ≤ 9223372036854775807) (y : Int) :
    ∃ w', (Instr.mapUpdate TIi (.map (some M3)) (.int .i64 p) (.int .i64 y)).run Tryz.prog w = .ok () w' ∧ GP w' F g M1 M2 M3 (n + 1) A pv { G with ep := setN G.ep p (some y) } ∧ Chg [M3] w w' := by
  obtain ⟨w', hr, hM, hc⟩ := h.ep.store keyI Tryz.underlying80 hn (key := .int .i64 p) (val := .int .i64 y) (keyOf_z h1 h2)
  exact ⟨w', hr, h.epSet hc hM, hc⟩
end Go.Proofs.YtiiepmljcjbflaaGreat
namespace Go.Proofs.YtiiepmljcjbflaaGreat
open Go.RowKit Go.Shelf Go.Sort Go.Lib
variable {w w' : World} {g M1 M2 M3 n : Nat} {A : Nm → Sl} {pv : Value} {G : Gp} {F : List Nat}

theorem compact_full {s : List Nm} (h : ∀ j, 0 < j → j < s.length → s.getD j [] ≠ s.getD (j - 1) []) : (compact s).length = s.length := by
  unfold compact compactUpTo
  rw [List.length_map]
  have hf : ((List.range s.length).filter (keeps s.toArray)) = List.range s.length := by
    refine List.filter_eq_self.2 (fun j hj => ?_)
    have hj : j < s.length := by simpa using hj
    unfold keeps
    simp only [decide_eq_true_eq]
    by_cases h0 : j = 0
    · exact Or.inl h0
    · refine Or.inr ?_
      have e1 : s.toArray[j]! = s.getD j [] := by simp [List.getD_eq_getElem?_getD, hj]
      have e2 : s.toArray[j - 1]! = s.getD (j - 1) [] := by
        have : j - 1 < s.length := by omega
        simp [List.getD_eq_getElem?_getD, this]
      rw [e1, e2]
      exact h j (by omega) hj
  rw [hf, List.length_range]
theorem nameOk_len {s : Nm} (h : nameOk s = true) : 1 ≤ s.length ∧ s.length ≤ 64 := by
  unfold nameOk at h
  rw [Bool.and_eq_true, decide_eq_true_eq, decide_eq_true_eq] at h
  exact h
theorem noName_no {s : Nm} (h : nameOk s = true) : noName s = false := by
  have h1 := nameOk_len h
  have e1 : (s.length == 0) = false := beq_eq_false_iff_ne.2 (by omega)
  have e2 : decide (64 < s.length) = false := decide_eq_false (by omega)
  unfold noName
  rw [e1, e2]
  rfl
theorem risN_of {l : List Nm} (h : l.Pairwise (· ≤ ·)) : risN l = l := List.mergeSort_of_pairwise (h.imp (fun {a b} hab => by simpa using hab))
theorem GOk.ris {k : Nat} (ho : GOk k G) : risN G.ks = G.ks := risN_of ho.sorted
/-- The names of a group are members that may be. -/
theorem GOk.may {k : Nat} (ho : GOk k G) : mayN G.ks G.parts = true := by
  have hr := ho.ris
  have hc : (compact G.ks).length = G.ks.length := compact_full (fun j h0 hj e => by
    have hn := ho.nodup
    unfold List.Nodup at hn
    rw [List.pairwise_iff_getElem] at hn
    have := hn (j - 1) j (by omega) hj (by omega)
    rw [getD_at _ _ _ hj, getD_at _ _ _ (show j - 1 < G.ks.length by omega)] at e
    exact this e.symm)
  have ha : G.ks.any noName = false := by
    rw [List.any_eq_false]
    intro x hx
    rw [noName_no (ho.name x hx)]
    simp
  have b1 := ho.cnt
  have b2 := ho.parts
  have h1 : ¬ 1000 < G.ks.length := by omega
  have h2 : ¬ G.parts < 0 := by omega
  have h3 : ¬ 32 < G.parts := by omega
  unfold mayN
  rw [hr, hc, ha]
  simp [h1, h2, h3]
theorem getD_name {j : Nat} (hj : j < G.ks.length) : G.ks.getD j [] ∈ G.ks := by rw [getD_at _ _ _ hj]; exact List.getElem_mem hj
theorem idxOf_at {k : Nat} (ho : GOk k G) {j : Nat} (hj : j < G.ks.length) : G.ks.idxOf (G.ks.getD j []) = j := by
  rw [getD_at _ _ _ hj]
  exact List.Nodup.idxOf_getElem ho.nodup j hj
theorem idxOf_ne {j : Nat} (hj : j < G.ks.length) {q : Nm} (hq : q ≠ G.ks.getD j []) : G.ks.idxOf q ≠ j := by
  intro e
  apply hq
  have hl : G.ks.idxOf q < G.ks.length := by omega
  have := List.getElem_idxOf hl
  rw [getD_at _ _ _ hj]
  subst e
  exact this.symm
/-- One member more is given its share. -/
theorem dealTo_step {k : Nat} (ho : GOk k G) (P : List (List Int)) {j : Nat} (hj : j < G.ks.length) : setN (dealTo G P j) (G.ks.getD j []) (some ⟨G.heard (G.ks.getD j []), P.getD j []⟩) = dealTo G P (j + 1) := by
  funext q
  by_cases e : q = G.ks.getD j []
  · subst e
    rw [setN_same]
    unfold dealTo
    rw [idxOf_at ho hj, if_pos (by omega)]
    have hs := (ho.mem _).1 (getD_name hj)
    cases hm : G.mem (G.ks.getD j []) with
    | none => rw [hm] at hs; cases hs
    | some mb => unfold Gp.heard; rw [hm]; rfl
  · rw [setN_other _ e]
    have := idxOf_ne hj e
    unfold dealTo
    by_cases h1 : G.ks.idxOf q < j
    · rw [if_pos h1, if_pos (by omega)]
    · rw [if_neg h1, if_neg (by omega)]
theorem dealTo_zero (P : List (List Int)) : dealTo G P 0 = G.mem := by funext q; unfold dealTo; rw [if_neg (by omega)]
theorem dealTo_heard (P : List (List Int)) (j : Nat) (q : Nm) : (((dealTo G P j) q).getD ⟨0, []⟩).heard = G.heard q := by
  unfold dealTo Gp.heard
  split
  · cases G.mem q <;> rfl
  · rfl
theorem dealTo_isSome (P : List (List Int)) (j : Nat) (q : Nm) : ((dealTo G P j) q).isSome = (G.mem q).isSome := by
  unfold dealTo
  split
  · cases G.mem q <;> rfl
  · rfl
theorem cov_len {P : List (List Int)} {p : Nat} (h : CovP P p) : ∀ q ∈ P, q.length ≤ p := fun q hq => by
  have h1 : q.length ≤ P.flatten.length := by
    have : q.Sublist P.flatten := List.sublist_flatten_of_mem hq
    exact this.length_le
  rw [h.perm.length_eq, allP_len] at h1
  exact h1
theorem dealt_len {k : Nat} (ho : GOk k G) (i : Nat) : (G.dealt.getD i []).length ≤ 32 := by
  by_cases h0 : G.ks = []
  · unfold Gp.dealt
    rw [h0]
    unfold stickyP
    rw [show risN ([] : List Nm) = [] from risN_nil]
    have : ∀ s : Dk, (stepsN (stickF (G.parts.toNat / ([] : List Nm).length) [] (hadN [] (([] : List Nm).map G.share) (allP G.parts.toNat) []).2) [] (s, List.replicate ([] : List Nm).length []) 4).2 = [] := fun s => rfl
    rw [this]
    simp
  · have hc := sticky_cov G.ks (G.ks.map G.share) G.ks G.parts.toNat h0
    by_cases hi : i < G.dealt.length
    · have h2 := cov_len hc (G.dealt.getD i []) (by rw [getD_at _ _ _ hi]; exact List.getElem_mem hi)
      have h3 := ho.parts
      omega
    · rw [List.getD_eq_getElem?_getD, List.getElem?_eq_none (by omega)]; simp
theorem GOk.dealt {k : Nat} (ho : GOk k G) : GOk (k + 1) G.deal := by
  refine ⟨ho.sorted, ho.nodup, fun nm => ?_, ho.name, ho.cnt, ho.parts, ho.sess, fun nm mb hm => ?_, fun nm mb hm => ?_, ⟨?_, ?_⟩, Nat.le_succ_of_le ho.pend, ho.pin⟩
  · show nm ∈ G.ks ↔ ((dealTo G G.dealt G.ks.length) nm).isSome = true
    rw [dealTo_isSome]
    exact ho.mem nm
  · have hm' : dealTo G G.dealt G.ks.length nm = some mb := hm
    have h1 := dealTo_heard (G := G) G.dealt G.ks.length nm
    rw [hm'] at h1
    have h2 : mb.heard = G.heard nm := h1
    rw [h2]
    unfold Gp.heard
    cases hg : G.mem nm with
    | none => show (0 : Int) ≤ 0 ∧ (0 : Int) < 281474976710656; omega
    | some mb' => exact ho.heard nm mb' hg
  · have hm' : dealTo G G.dealt G.ks.length nm = some mb := hm
    unfold dealTo at hm'
    split at hm'
    · cases hg : G.mem nm with
      | none => rw [hg] at hm'; cases hm'
      | some mb' =>
        rw [hg] at hm'
        cases hm'
        exact dealt_len ho _
    · exact ho.share nm mb hm'
  · show 0 ≤ G.gen + 1
    have := ho.gen.1
    omega
  · show G.gen + 1 ≤ ((k + 1 : Nat) : Int)
    have := ho.gen.2
    omega
theorem sh_row2 (Y : World) (s : ByteArray) (d : Nm) (h : nmS d = s) (sa : Option Addr) (sm sc : Nat) : RowK kSh (Y.alloc (.cells #[.string s, .slice sa sm sc] 157)) (some ⟨Y.heap.size, 0, none⟩) [(d, ⟨sa, sm, sc⟩)] := by
  subst h
  refine Or.inr ⟨_, 0, rfl, by simp, fun i hi c hc => ?_⟩
  obtain rfl : i = 0 := by simp at hi; omega
  have hb : Blk (Y.alloc (.cells #[.string (nmS d), .slice sa sm sc] 157)) Y.heap.size _ _ := heap_alloc_new Y _
  have : kSh.sz = 2 := rfl
  rcases (show c = 0 ∨ c = 1 by omega) with rfl | rfl
  · exact hb.cell 0
  · exact hb.cell 1
/-- The old shares, as Sticky takes them. -/
theorem GP.old (h : GP w F g M1 M2 M3 n A pv G) {k : Nat} (ho : GOk k G) {a : Option Addr} {cc base : Nat} (hO : OwnK kSh w base (.slice a G.ks.length cc) (G.ks.map (fun nm => (nm, slOf G A nm)))) : OldA w (G.ks.map (fun nm => (nm, slOf G A nm))) (G.ks.map G.share) a G.ks.length cc := by
  obtain ⟨a', c', e, hA⟩ := hO.form kSh_ok.tofit
  rw [List.length_map] at e hA
  obtain ⟨rfl, rfl⟩ : a = a' ∧ cc = c' := by injection e with e1 e2 e3; exact ⟨e1, e3⟩
  have hat : ∀ i, i < G.ks.length → (G.ks.map (fun nm => ((nm, slOf G A nm) : ShA))).getD i sh0 = (G.ks.getD i [], slOf G A (G.ks.getD i [])) := fun i hi => by
    rw [List.getD_eq_getElem?_getD, List.getElem?_map, List.getElem?_eq_getElem hi, getD_at _ _ _ hi]; rfl
  refine ⟨hA, by simp, fun i hi => ?_, fun i hi => ?_⟩
  · have hi' : i < G.ks.length := by simpa using hi
    rw [hat i hi']
    obtain ⟨b, d, e2, h2⟩ := (h.shareAt (G.ks.getD i [])).form kZ_ok.tofit
    rw [show (G.ks.map G.share).getD i [] = G.share (G.ks.getD i []) by rw [List.getD_eq_getElem?_getD, List.getElem?_map, List.getElem?_eq_getElem hi', getD_at _ _ _ hi']; rfl]
    unfold Sl.v at e2
    injection e2 with f1 f2 f3
    show ArgK kZ w _ (slOf G A (G.ks.getD i [])).ad (slOf G A (G.ks.getD i [])).m (slOf G A (G.ks.getD i [])).c
    rw [f1, f2, f3]
    exact h2
  · have hi' : i < G.ks.length := by simpa using hi
    rw [hat i hi']
    have := nameOk_len (ho.name _ (getD_name hi'))
    show (G.ks.getD i []).length ≤ maxLen
    unfold maxLen
    omega
theorem ansP_open {names : List Nm} {P : List (List Int)} {e : Ending} {m : Nat} (h : AnsP w true names P e w') (hm : names.length = m) : ∃ a As c, e = .returned (.tuple #[.slice a m c, .int .i64 0]) ∧ Shs w' w.heap.size (.slice a m c) As P ∧ As.map (·.1) = names ∧ Below w.heap.size w w' := by
  obtain ⟨⟨v, As, h1, h2, h3⟩, h4⟩ := h
  obtain ⟨a, c, e1, -⟩ := h2.row.form kSh_ok.tofit
  have hl : As.length = m := by have := congrArg List.length h3; rw [List.length_map, hm] at this; exact this
  rw [hl] at e1
  subst e1
  exact ⟨a, As, c, h1, h2, h3, h4⟩
theorem GMv.ahead {W : World} {m : Nat} {G' : Gp} (h : GMv W w' F g m G') (hc : Chg F w W) : GMv w w' F g m G' := by
  obtain ⟨F', h1, h2, h3⟩ := h
  exact ⟨F', h1, hc.trans h2 (fun k hk => Or.inl hk), fun b hb => (h3 b hb).imp id (fun h => Nat.le_trans hc.size h)⟩
end Go.Proofs.YtiiepmljcjbflaaGreat

/- deal of package group (by gendeal15.py). -/
namespace Go.Proofs.YtiiepmljcjbflaaGreat
open Go.RowKit Go.Shelf Go.Sort
variable {w w' : World} {g M1 M2 M3 n : Nat} {A : Nm → Sl} {pv : Value} {G : Gp} {F : List Nat}

def blksOf (As : List ShA) : List Nat := As.flatMap (fun s => s.2.v.ownBlock.toList)
theorem mem_blksOf {As : List ShA} {b : Nat} : b ∈ blksOf As ↔ ∃ s ∈ As, s.2.v.ownBlock = some b := by
  unfold blksOf
  rw [List.mem_flatMap]
  constructor
  · rintro ⟨s, hs, hb⟩; exact ⟨s, hs, by simpa using hb⟩
  · rintro ⟨s, hs, hb⟩; exact ⟨s, hs, by simpa using hb⟩
theorem shs_arg {base m c : Nat} {a : Option Addr} {As : List ShA} {P : List (List Int)} (h : Shs w base (.slice a m c) As P) : ArgK kSh w As a m c := by
  obtain ⟨a', c', e, hA⟩ := h.row.form kSh_ok.tofit
  obtain ⟨rfl, rfl, rfl⟩ : a = a' ∧ m = As.length ∧ c = c' := by injection e with e1 e2 e3; exact ⟨e1, e2, e3⟩
  exact hA
set_option maxRecDepth 100000 in
set_option maxHeartbeats 4000000 in
theorem dealG_any (h : GP w F g M1 M2 M3 n A pv G) (ho : GOk n G) (hF : ∀ b ∈ F, b < w.heap.size) (hn : n + 200 ≤ 4611686018427387904) : Calls Tryz.prog 101 #[.pointer (some ⟨g, 0, none⟩)] w fun e w' => e = .returned (.tuple #[]) ∧ GMv w w' F g (n + 101) G.deal := by
  have hgn := ho.gen
  obtain ⟨w1, hw1⟩ : ∃ w1, w.setCell ⟨g, 2, none⟩ (.int .i64 (G.gen + 1)) = w1 := ⟨_, rfl⟩
  have h1 : GP w1 F g M1 M2 M3 n A pv { G with gen := G.gen + 1 } := by rw [← hw1]; exact h.boxSet (i := 2) rfl rfl rfl h.off rfl h.pend h.inP
  have k1 : Chg F w w1 := by rw [← hw1]; exact (Chg.refl _ _).set (Or.inl h.inG) 2 _
  have z1 : w1.heap.size = w.heap.size := by rw [← hw1]; simp [World.setCell]
  have ho1 : GOk (n + 1) { G with gen := G.gen + 1 } := ⟨ho.sorted, ho.nodup, ho.mem, ho.name, ho.cnt, ho.parts, ho.sess, ho.heard, ho.share, ⟨by show 0 ≤ G.gen + 1; omega, by show G.gen + 1 ≤ ((n + 1 : Nat) : Int); omega⟩, Nat.le_succ_of_le ho.pend, ho.pin⟩
  have c2 := h.box.cell 2
  have f2 := h.box.free 2
  simp only [List.getElem?_toArray, List.getElem?_cons_zero, List.getElem?_cons_succ] at c2
  have HMe := hid (Members_any h1 ho1)
  obtain ⟨m, hm⟩ : ∃ m, G.ks.length = m := ⟨_, rfl⟩
  have hcn := ho.cnt
  have hpa := ho.parts
  rw [hm] at hcn
  have HM := hid hm
  have H1 : Hid (∀ W, Below w1.heap.size w1 W → GP W F g M1 M2 M3 n A pv { G with gen := G.gen + 1 }) := fun W hW => h1.later hW
  have Hk1 := hid k1
  have HO := hid ho
  have HFl := hid hF
  have HZ1 := hid z1
  have HO1 := hid ho1
  have hgg : G.gen + 1 ≤ 4611686018427387904 ∧ 0 ≤ G.gen + 1 := by omega
  have HMay := hid ho.may
  have HRis := hid ho.ris
  obtain ⟨gp, hgp⟩ : ∃ gp, G.parts = gp := ⟨_, rfl⟩
  rw [hgp] at hpa
  have HGp := hid hgp
  clear h h1 ho ho1 hF k1 z1 hm hgp hgn
  obtain ⟨gg, hge⟩ : ∃ gg, G.gen = gg := ⟨_, rfl⟩
  rw [hge] at c2 hw1 hgg HMe H1 HO1
  have HGe := hid hge
  clear hge
  go_enter Tryz.func101, Tryz.ntmps101
  go_wp2_with (go_at_call 20; (with_reducible_and_instances (refine HMe.out.mono ?_)); rintro e w2 ⟨vn, rfl, hOn, hBn⟩; obtain ⟨na, nc, hvn, hAn⟩ := hOn.form kS_ok.tofit; dsimp only at hvn hAn; rw [HM.out] at hvn hAn; subst hvn; have HAn := hid hAn; have HBn := hid hBn; clear hOn hBn hAn)
  obtain ⟨N2, hN2⟩ : ∃ N2, w2.heap.size = N2 := ⟨_, rfl⟩
  go_loopw [3, 22] (fun v i wr => ∃ (j : Nat) (a : Option Addr) (cc : Nat), j ≤ m ∧ i = .int .i64 (j : Int) ∧ v = .slice a j cc ∧ Hid (OwnK kSh wr N2 (.slice a j cc) ((G.ks.take j).map (fun nm => (nm, slOf G A nm)))) ∧ Hid (Below N2 w2 wr)) (fun _ i _ => m - (intOf i).toNat)
  case atStart => exact ⟨0, none, 0, by omega, rfl, rfl, (by rw [List.take_zero]; exact OwnK.nil (K := kSh) w2 _), Below.refl _ _⟩
  case round =>
    obtain ⟨j, a, cc, hj, rfl, rfl, HOj, HB⟩ := hrel
    have hGr : Below w1.heap.size w1 wr := HBn.out.trans (HB.out.mono (by have := HBn.out.size; omega))
    have hp := H1.out wr hGr
    by_cases hlt : j < m
    · have hA := HAn.out.later (by rw [hN2]; exact HB.out)
      obtain ⟨b, off, rfl, hs, hc⟩ := hA.cells (by omega)
      have r0 : wr.cell? ⟨b, off + j, none⟩ = some (.string (nmS (G.ks.getD j []))) := by have := hc j hlt 0 (by decide); rw [Nat.mul_one, Nat.add_zero] at this; exact this
      have HTk := hid (take_snoc_any G.ks [] j (by rw [HM.out]; exact hlt))
      have HLk : Hid (((G.ks.take j).map (fun nm => ((nm, slOf G A nm) : ShA))).length = j) := by rw [List.length_map, List.length_take, HM.out]; show min j m = j; omega
      have hszr : N2 ≤ wr.heap.size := by have := HB.out.size; omega
      obtain ⟨d, hd⟩ : ∃ d, G.ks.getD j [] = d := ⟨_, rfl⟩
      have hdl : d.length ≤ maxLen := by rw [← hd]; have := nameOk_len (HO.out.name _ (getD_name (by rw [HM.out]; exact hlt))); unfold maxLen; omega
      have hlk := hp.look d hdl
      have c3 := hp.box.cell 3
      simp only [List.getElem?_toArray, List.getElem?_cons_zero, List.getElem?_cons_succ] at c3
      have hsl : slOf { G with gen := gg + 1 } A d = slOf G A d := rfl
      rw [hsl] at hlk
      rw [hd] at r0 HTk
      obtain ⟨ds, hds⟩ : ∃ ds, nmS d = ds := ⟨_, rfl⟩
      rw [hds] at r0 hlk
      obtain ⟨sl, hsle⟩ : ∃ sl, slOf G A d = sl := ⟨_, rfl⟩
      rw [hsle] at hlk
      have HSle := hid hsle
      obtain ⟨sa, sm, sc⟩ := sl
      dsimp only at hlk
      generalize Gp.heard _ d = hd0 at hlk
      have HRw := hid (sh_row2 wr ds d hds sa sm sc)
      have HO2 := hid (HOj.out.later ((Below.refl _ wr).alloc (Nat.le_refl _) (.cells #[.string ds, .slice sa sm sc] 157)))
      have hfl : ∀ w, (Instr.field 95 (.agg #[.int .i64 hd0, .slice sa sm sc]) 1).run Tryz.prog w = .ok (.slice sa sm sc) w := fun _ => by kernel_rfl
      clear hc hs hA hp hGr hd hds hsl hsle hdl
      go_wp2_with (first
        | (at_builtin; refine app_kd kSh_ok rfl _ _ rfl N2 (.slice a j cc) ((G.ks.take j).map (fun nm => (nm, slOf G A nm))) rfl HO2.out (some ⟨wr.heap.size, 0, none⟩) 1 1 [(d, ⟨sa, sm, sc⟩)] rfl rfl (fun e => by cases e) HRw.out (by rw [HLk.out]; unfold maxLen; omega) (by rw [HLk.out]; show (j + 1) * 40 ≤ _; omega) (by simp; omega) ?_; intro v3 w3 hown3 hg3; obtain ⟨a3, c3', e3, -⟩ := hown3.form kSh_ok.tofit; rw [List.length_append, HLk.out] at e3; subst e3; have HO3 := hid hown3; have HB3 := hid ((HB.out.alloc (by omega) _).grown hg3 (by simp; omega) (fun k hk => (HO2.out.block k hk).1)); clear hown3 hg3))
      refine ⟨⟨j + 1, a3, c3', by omega, by go_num, rfl, (by rw [HTk.out, List.map_append, List.map_cons, List.map_nil, HSle.out]; exact HO3.out), HB3⟩, by simp [intOf]; omega⟩
    · obtain rfl : m = j := by omega
      clear hlt
      obtain ⟨w5, rfl⟩ : ∃ x, x = wr := ⟨wr, rfl⟩
      have HAn5 := hid (HAn.out.later (by rw [hN2]; exact HB.out))
      have hO5 := HOj.out
      rw [List.take_of_length_le (by rw [HM.out]; exact Nat.le_refl _)] at hO5
      have hOld : OldA w5 (G.ks.map (fun nm => (nm, slOf G A nm))) (G.ks.map G.share) a m cc := by
        have h := hp.old (base := N2) (a := a) (cc := cc) HO1.out (by rw [← HM.out] at hO5; exact hO5)
        rw [← HM.out]
        exact h
      have e1 : (G.ks.map (fun nm => ((nm, slOf G A nm) : ShA))).map (·.1) = G.ks := by rw [List.map_map]; exact List.map_id G.ks
      have HSt : Hid (Calls Tryz.prog 113 #[.slice a m cc, .slice na m nc, .int .i64 gp] w5 fun e w' => AnsP w5 true G.ks G.dealt e w') := by
        have h := sticky_any hOld HAn5.out gp (by omega)
        rw [e1, HRis.out, ← HGp.out, HMay.out, HGp.out] at h
        unfold Gp.dealt
        rw [HGp.out]
        exact h
      have c0 := hp.box.cell 0
      simp only [List.getElem?_toArray, List.getElem?_cons_zero] at c0
      rw [HGp.out] at c0
      have HG5 := hid hp
      have HC5 : Hid (Chg F w w5) := Hk1.out.trans (Chg.of hGr) (fun k hk => Or.inl hk)
      clear e1 hOld hO5 hp hGr HOj HB HAn HAn5 HBn HMe H1 HMay
      go_wp2_with (go_at_call 113; (with_reducible_and_instances (refine HSt.out.mono ?_)); rintro e w6 hans; obtain ⟨sa0, As, sc0, rfl, hSh, hNm, hB6⟩ := ansP_open hans HM.out; have HSh := hid hSh; have HNm := hid hNm; have HB6 := hid hB6; clear hans hSh hNm hB6)
      have HAl : Hid (As.length = m) := by have := congrArg List.length HNm.out; rw [List.length_map, HM.out] at this; exact this
      have HG6 : Hid (GP w6 (F ++ blksOf As) g M1 M2 M3 n A pv { G with gen := gg + 1, mem := dealTo G G.dealt 0 }) := by
        rw [dealTo_zero]
        exact (HG5.out.later HB6.out).wide (fun b hb => List.mem_append_left _ hb)
      have hz6 : w5.heap.size ≤ w6.heap.size := HB6.out.size
      have HF5 : Hid (∀ b ∈ F, b < w5.heap.size) := fun b hb => Nat.lt_of_lt_of_le (HFl.out b hb) HC5.out.size
      go_loopw [51] (fun i wr => ∃ (j : Nat) (A' : Nm → Sl), j ≤ m ∧ i = .int .i64 (j : Int) ∧ Hid (GP wr (F ++ blksOf As) g M1 M2 M3 (n + j) A' pv { G with gen := gg + 1, mem := dealTo G G.dealt j }) ∧ Hid (Shs wr w5.heap.size (.slice sa0 m sc0) As G.dealt) ∧ Hid (Chg [M1] w6 wr)) (fun i _ => m - (intOf i).toNat)
      case atStart => exact ⟨0, A, by omega, rfl, HG6, HSh, Chg.refl _ _⟩
      case round =>
        obtain ⟨j, A', hj, rfl, HGj, HShj, HCj⟩ := hrel
        clear HG6 HSh
        by_cases hlt : j < m
        · have hA := shs_arg HShj.out
          obtain ⟨b, off, rfl, hs, hc⟩ := hA.cells (by omega)
          have r0 : wr.cell? ⟨b, off + j * 2, none⟩ = some (.string (nmS (As.getD j sh0).1)) := by have := hc j hlt 0 (by decide); rw [Nat.add_zero] at this; exact this
          have r1 : wr.cell? ⟨b, off + j * 2 + 1, none⟩ = some (.slice (As.getD j sh0).2.ad (As.getD j sh0).2.m (As.getD j sh0).2.c) := hc j hlt 1 (by decide)
          have hnm : (As.getD j sh0).1 = G.ks.getD j [] := by
            rw [← HNm.out, List.getD_eq_getElem?_getD, List.getD_eq_getElem?_getD, List.getElem?_map, List.getElem?_eq_getElem (by rw [HAl.out]; exact hlt)]; rfl
          have hrow := HShj.out.part j (by rw [HAl.out]; exact hlt)
          have hin : ∀ b, (As.getD j sh0).2.v.ownBlock = some b → b ∈ F ++ blksOf As := fun b hb => List.mem_append_right _ (mem_blksOf.2 ⟨_, by rw [getD_at _ _ _ (show j < As.length by rw [HAl.out]; exact hlt)]; exact List.getElem_mem _, hb⟩)
          obtain ⟨x, hx⟩ : ∃ x, As.getD j sh0 = x := ⟨_, rfl⟩
          rw [hx] at r0 r1 hnm hrow hin
          obtain ⟨nm, xa, xm, xc⟩ := x
          dsimp only at r0 r1 hnm hrow hin
          have hdl : nm.length ≤ maxLen := by rw [hnm]; have := nameOk_len (HO.out.name _ (getD_name (by rw [HM.out]; exact hlt))); unfold maxLen; omega
          obtain ⟨ds, hds⟩ : ∃ ds, nmS nm = ds := ⟨_, rfl⟩
          obtain ⟨hd, hhd⟩ : ∃ hd, G.heard nm = hd := ⟨_, rfl⟩
          obtain ⟨sl, hsle⟩ : ∃ sl, slOf { G with gen := gg + 1, mem := dealTo G G.dealt j } A' nm = sl := ⟨_, rfl⟩
          have hlk : ∀ W, Below wr.heap.size wr W → (Instr.lookup TMb (.map (some M1)) (.string ds) false).run Tryz.prog W = .ok (.agg #[.int .i64 hd, .slice sl.ad sl.m sl.c]) W := fun W hW => by
            have h := (HGj.out.later hW).look nm hdl
            rw [hds, hsle, show Gp.heard { G with gen := gg + 1, mem := dealTo G G.dealt j } nm = hd from (dealTo_heard G.dealt j nm).trans hhd] at h
            exact h
          obtain ⟨sa, sm, sc⟩ := sl
          dsimp only at hlk
          rw [hds] at r0
          obtain ⟨X1, hX1⟩ : ∃ X1, wr.alloc (.cells #[.string ds, .slice xa xm xc] 157) = X1 := ⟨_, rfl⟩
          have b1 : Below wr.heap.size wr X1 := by rw [← hX1]; exact (Below.refl _ _).alloc (Nat.le_refl _) _
          have x1 : Blk X1 wr.heap.size #[.string ds, .slice xa xm xc] 157 := by rw [← hX1]; exact heap_alloc_new wr _
          have HZX1 := hid (show X1.heap.size = wr.heap.size + 1 by rw [← hX1]; simp)
          have HS12 : Hid (∀ W, Below X1.heap.size X1 W → W.cell? ⟨g, 3, none⟩ = some (.map (some M1)) ∧ W.cell? ⟨wr.heap.size, 0, none⟩ = some (.string ds) ∧ (Instr.lookup TMb (.map (some M1)) (.string ds) false).run Tryz.prog W = .ok (.agg #[.int .i64 hd, .slice sa sm sc]) W) := fun W hW => by
            have hx := x1.later hW
            have hb2 : Below wr.heap.size wr W := b1.trans (hW.mono b1.size)
            exact ⟨(HGj.out.later hb2).box.cell 3, hx.cell 0, hlk W hb2⟩
          clear hc hs hA hx
          go_wp2_with fail
          refine wp_region_held_drew (S := fun W => W.cell? ⟨g, 3, none⟩ = some (.map (some M1)) ∧ W.cell? ⟨wr.heap.size, 0, none⟩ = some (.string ds) ∧ (Instr.lookup TMb (.map (some M1)) (.string ds) false).run Tryz.prog W = .ok (.agg #[.int .i64 hd, .slice sa sm sc]) W) (by kernel_rfl) (HS12.out _ (Below.refl _ X1).drew) (fun hHeld => ?_)
          refine wpAnyH_take (i := 0) (oi := { dst := some 55, op := Op.move (Operand.tmp 0), type := 42, pos := "deeds.go:141", after := #[], guard := none }) (v := ?_) rfl (by kernel_rfl) (by kernel_rfl) (by kernel_rfl) (fun _ _ _ h => h) (Or.inl ⟨by rfl, ?_⟩) hHeld ?_
          rotate_left
          · intro w hSw; (try dsimp only at hSw); go_simp; try with_reducible rfl
          try simp only [Act.put, List.setIfInBounds_toArray, List.set_cons_zero, List.set_cons_succ]
          refine wpAnyH_take (i := 1) (oi := { dst := some 56, op := Op.nilCheck (Operand.tmp 55), type := 0, pos := "deeds.go:141", after := #[{ on := 0, ground := Ground.data }], guard := none }) (v := ?_) rfl (by kernel_rfl) (by kernel_rfl) (by kernel_rfl) (fun _ _ _ h => h) (Or.inl ⟨by rfl, ?_⟩) hHeld ?_
          rotate_left
          · intro w hSw; (try dsimp only at hSw); go_simp; try with_reducible rfl
          try simp only [Act.put, List.setIfInBounds_toArray, List.set_cons_zero, List.set_cons_succ]
          refine wpAnyH_take (i := 2) (oi := { dst := some 57, op := Op.fieldAddr 82 (Operand.tmp 56) 3, type := 0, pos := "deeds.go:141", after := #[{ on := 1, ground := Ground.data }], guard := none }) (v := ?_) rfl (by kernel_rfl) (by kernel_rfl) (by kernel_rfl) (fun _ _ _ h => h) (Or.inl ⟨by rfl, ?_⟩) hHeld ?_
          rotate_left
          · intro w hSw; (try dsimp only at hSw); go_simp; try with_reducible rfl
          try simp only [Act.put, List.setIfInBounds_toArray, List.set_cons_zero, List.set_cons_succ]
          refine wpAnyH_take (i := 3) (oi := { dst := some 58, op := Op.load 79 (Operand.tmp 57), type := 79, pos := "deeds.go:141", after := #[{ on := 2, ground := Ground.data }], guard := none }) (v := ?_) rfl (by kernel_rfl) (by kernel_rfl) (by kernel_rfl) (fun _ _ _ h => h) (Or.inl ⟨by rfl, ?_⟩) hHeld ?_
          rotate_left
          · intro w hSw; (try dsimp only at hSw); go_simp; try with_reducible rfl
          try simp only [Act.put, List.setIfInBounds_toArray, List.set_cons_zero, List.set_cons_succ]
          refine wpAnyH_take (i := 4) (oi := { dst := some 59, op := Op.fieldAddr 157 (Operand.tmp 9) 0, type := 0, pos := "deeds.go:141", after := #[], guard := none }) (v := ?_) rfl (by kernel_rfl) (by kernel_rfl) (by kernel_rfl) (fun _ _ _ h => h) (Or.inl ⟨by rfl, ?_⟩) hHeld ?_
          rotate_left
          · intro w hSw; (try dsimp only at hSw); go_simp; try with_reducible rfl
          try simp only [Act.put, List.setIfInBounds_toArray, List.set_cons_zero, List.set_cons_succ]
          refine wpAnyH_take (i := 5) (oi := { dst := some 60, op := Op.load 9 (Operand.tmp 59), type := 9, pos := "deeds.go:141", after := #[{ on := 4, ground := Ground.data }], guard := none }) (v := ?_) rfl (by kernel_rfl) (by kernel_rfl) (by kernel_rfl) (fun _ _ _ h => h) (Or.inl ⟨by rfl, ?_⟩) hHeld ?_
          rotate_left
          · intro w hSw; (try dsimp only at hSw); go_simp; try with_reducible rfl
          try simp only [Act.put, List.setIfInBounds_toArray, List.set_cons_zero, List.set_cons_succ]
          refine wpAnyH_take (i := 6) (oi := { dst := some 61, op := Op.lookup 79 (Operand.tmp 58) (Operand.tmp 60) false, type := 95, pos := "deeds.go:141", after := #[{ on := 3, ground := Ground.data }, { on := 5, ground := Ground.data }], guard := none }) (v := .agg #[.int .i64 hd, .slice sa sm sc]) rfl (by kernel_rfl) (by kernel_rfl) (by kernel_rfl) (fun _ _ _ h => h) (Or.inl ⟨by rfl, ?_⟩) hHeld ?_
          · intro w hSw; obtain ⟨-, -, hlk⟩ := hSw; go_simp
          try simp only [Act.put, List.setIfInBounds_toArray, List.set_cons_zero, List.set_cons_succ]
          refine wpAnyH_ready (rs := [7]) (by kernel_rfl) (by simp) ?_
          refine AllReadyH.cons rfl (fun K hK => ?_) (AllReadyH.nil)
          go_simp
          refine hK.out _ _ (HS12.out _ (by first | exact ((Below.refl _ X1).alloc (Nat.le_refl _) _).drew | exact (Below.refl _ X1).drew.alloc (by simp) _)) (fun hHeld => ?_)
          clear hK K
          try simp only [Act.put, List.setIfInBounds_toArray, List.set_cons_zero, List.set_cons_succ]
          refine wpAnyH_ready (rs := [8]) (by kernel_rfl) (by simp) ?_
          refine AllReadyH.cons rfl (fun K hK => ?_) (AllReadyH.nil)
          go_simp
          refine hK.out _ _ (HS12.out _ (by first | exact ((Below.refl _ X1).alloc (Nat.le_refl _) _).drew | exact (Below.refl _ X1).drew.alloc (by simp) _)) (fun hHeld => ?_)
          clear hK K
          try simp only [Act.put, List.setIfInBounds_toArray, List.set_cons_zero, List.set_cons_succ]
          refine wpAnyH_done (by kernel_rfl) ?_ _
          clear hHeld
          obtain ⟨X2, hX2⟩ : ∃ X2, (X1.alloc (.cells #[.int .i64 hd, .slice sa sm sc] 95)).drew = X2 := ⟨_, rfl⟩
          rw [hX2]
          have b2 : Below X1.heap.size X1 X2 := by rw [← hX2]; exact ((Below.refl _ _).alloc (Nat.le_refl _) _).drew
          have x2 : Blk X2 X1.heap.size #[.int .i64 hd, .slice sa sm sc] 95 := by rw [← hX2]; exact heap_alloc_new X1 _
          have x12 := x1.later b2
          have q1 := x12.cell 1
          have q2 := x2.cell 1
          have q3 := x2.free 1
          simp only [List.getElem?_toArray, List.getElem?_cons_zero, List.getElem?_cons_succ] at q1 q2
          obtain ⟨X3, hX3⟩ : ∃ X3, X2.setCell ⟨X1.heap.size, 1, none⟩ (.slice xa xm xc) = X3 := ⟨_, rfl⟩
          have hc3 : Chg [X1.heap.size] X2 X3 := by rw [← hX3]; exact (Chg.refl _ _).set (Or.inl (by simp)) 1 _
          have x3 : Blk X3 X1.heap.size #[.int .i64 hd, .slice xa xm xc] 95 := by rw [← hX3]; exact x2.set 1 _
          have x13 := x12.chg hc3 (by have := HZX1.out; simp; omega)
          have b03 : Below wr.heap.size wr X3 := (b1.trans (b2.mono b1.size)).trans (hc3.below (fun k hk => by have := HZX1.out; simp at hk; omega) (by have := b1.size; have := b2.size; omega))
          have b03d : Below wr.heap.size wr X3.drew := b03.drew
          have hg3 := HGj.out.later b03d
          obtain ⟨X4, hr4, hg4, hc4⟩ := hg3.storeMem (by unfold maxLen; omega) nm hdl ⟨hd, G.dealt.getD j []⟩ ⟨xa, xm, xc⟩ ((hrow.mono (Nat.zero_le _)).later b03d) hin
          rw [hds] at hr4
          dsimp only at hr4
          have HS14 : Hid (X3.drew.cell? ⟨g, 3, none⟩ = some (.map (some M1)) ∧ X3.drew.cell? ⟨wr.heap.size, 0, none⟩ = some (.string ds) ∧ X3.drew.cell? ⟨X1.heap.size, 0, none⟩ = some (.int .i64 hd) ∧ X3.drew.cell? ⟨X1.heap.size, 1, none⟩ = some (.slice xa xm xc)) := ⟨hg3.box.cell 3, x13.cell 0, x3.cell 0, x3.cell 1⟩
          have hM1 : M1 < wr.heap.size := HGj.out.mem.lt
          have x14 : Blk X4 wr.heap.size #[.string ds, .slice xa xm xc] 157 := Blk.chg (w := X3.drew) x13 hc4 (by simp; omega)
          have x34 : Blk X4 X1.heap.size #[.int .i64 hd, .slice xa xm xc] 95 := Blk.chg (w := X3.drew) x3 hc4 (by have := HZX1.out; simp; omega)
          have HS14b : Hid (X4.cell? ⟨g, 3, none⟩ = some (.map (some M1)) ∧ X4.cell? ⟨wr.heap.size, 0, none⟩ = some (.string ds) ∧ X4.cell? ⟨X1.heap.size, 0, none⟩ = some (.int .i64 hd) ∧ X4.cell? ⟨X1.heap.size, 1, none⟩ = some (.slice xa xm xc)) := ⟨hg4.box.cell 3, x14.cell 0, x34.cell 0, x34.cell 1⟩
          have HG4 : Hid (GP X4 (F ++ blksOf As) g M1 M2 M3 (n + (j + 1)) (setA A' nm ⟨xa, xm, xc⟩) pv { G with gen := gg + 1, mem := dealTo G G.dealt (j + 1) }) := by
            have e := dealTo_step HO.out G.dealt (j := j) (by rw [HM.out]; exact hlt)
            rw [← hnm, hhd] at e
            rw [← e]
            exact hg4
          have HSh4 : Hid (Shs X4 w5.heap.size (.slice (some ⟨b, off, none⟩) m sc0) As G.dealt) := HShj.out.keep (fun k hk1 hk2 => by
            have hk3 : k ≠ M1 := by have := HF5.out M1 HG5.out.in1; omega
            exact (hc4.block k (Nat.lt_of_lt_of_le hk2 b03d.size) (by simpa using hk3)).trans (b03d.block k hk2))
          have HC4 : Hid (Chg [M1] w6 X4) := (HCj.out.trans (Chg.of b03d) (fun k hk => Or.inl hk)).trans hc4 (fun k hk => Or.inl hk)
          clear HS12 x1 x12 x2 x3 x13 x14 x34 hg3 hg4 hc4 hc3 b03 b03d b1 b2 HGj HShj HCj hrow hin hnm hlk hsle hhd hds hdl hM1 r0 r1
          go_wp2_with fail
          refine wp_region_held_drew (S := fun W => W.cell? ⟨g, 3, none⟩ = some (.map (some M1)) ∧ W.cell? ⟨wr.heap.size, 0, none⟩ = some (.string ds) ∧ W.cell? ⟨X1.heap.size, 0, none⟩ = some (.int .i64 hd) ∧ W.cell? ⟨X1.heap.size, 1, none⟩ = some (.slice xa xm xc)) (by kernel_rfl) (HS14.out) (fun hHeld => ?_)
          refine wpAnyH_take (i := 0) (oi := { dst := some 65, op := Op.move (Operand.tmp 0), type := 42, pos := "deeds.go:143", after := #[], guard := none }) (v := ?_) rfl (by kernel_rfl) (by kernel_rfl) (by kernel_rfl) (fun _ _ _ h => h) (Or.inl ⟨by rfl, ?_⟩) hHeld ?_
          rotate_left
          · intro w hSw; (try dsimp only at hSw); go_simp; try with_reducible rfl
          try simp only [Act.put, List.setIfInBounds_toArray, List.set_cons_zero, List.set_cons_succ]
          refine wpAnyH_take (i := 1) (oi := { dst := some 66, op := Op.nilCheck (Operand.tmp 65), type := 0, pos := "deeds.go:143", after := #[{ on := 0, ground := Ground.data }], guard := none }) (v := ?_) rfl (by kernel_rfl) (by kernel_rfl) (by kernel_rfl) (fun _ _ _ h => h) (Or.inl ⟨by rfl, ?_⟩) hHeld ?_
          rotate_left
          · intro w hSw; (try dsimp only at hSw); go_simp; try with_reducible rfl
          try simp only [Act.put, List.setIfInBounds_toArray, List.set_cons_zero, List.set_cons_succ]
          refine wpAnyH_take (i := 2) (oi := { dst := some 67, op := Op.fieldAddr 82 (Operand.tmp 66) 3, type := 0, pos := "deeds.go:143", after := #[{ on := 1, ground := Ground.data }], guard := none }) (v := ?_) rfl (by kernel_rfl) (by kernel_rfl) (by kernel_rfl) (fun _ _ _ h => h) (Or.inl ⟨by rfl, ?_⟩) hHeld ?_
          rotate_left
          · intro w hSw; (try dsimp only at hSw); go_simp; try with_reducible rfl
          try simp only [Act.put, List.setIfInBounds_toArray, List.set_cons_zero, List.set_cons_succ]
          refine wpAnyH_take (i := 3) (oi := { dst := some 68, op := Op.load 79 (Operand.tmp 67), type := 79, pos := "deeds.go:143", after := #[{ on := 2, ground := Ground.data }], guard := none }) (v := ?_) rfl (by kernel_rfl) (by kernel_rfl) (by kernel_rfl) (fun _ _ _ h => h) (Or.inl ⟨by rfl, ?_⟩) hHeld ?_
          rotate_left
          · intro w hSw; (try dsimp only at hSw); go_simp; try with_reducible rfl
          try simp only [Act.put, List.setIfInBounds_toArray, List.set_cons_zero, List.set_cons_succ]
          refine wpAnyH_take (i := 4) (oi := { dst := some 69, op := Op.fieldAddr 157 (Operand.tmp 9) 0, type := 0, pos := "deeds.go:143", after := #[], guard := none }) (v := ?_) rfl (by kernel_rfl) (by kernel_rfl) (by kernel_rfl) (fun _ _ _ h => h) (Or.inl ⟨by rfl, ?_⟩) hHeld ?_
          rotate_left
          · intro w hSw; (try dsimp only at hSw); go_simp; try with_reducible rfl
          try simp only [Act.put, List.setIfInBounds_toArray, List.set_cons_zero, List.set_cons_succ]
          refine wpAnyH_take (i := 5) (oi := { dst := some 70, op := Op.load 9 (Operand.tmp 69), type := 9, pos := "deeds.go:143", after := #[{ on := 4, ground := Ground.data }], guard := none }) (v := ?_) rfl (by kernel_rfl) (by kernel_rfl) (by kernel_rfl) (fun _ _ _ h => h) (Or.inl ⟨by rfl, ?_⟩) hHeld ?_
          rotate_left
          · intro w hSw; (try dsimp only at hSw); go_simp; try with_reducible rfl
          try simp only [Act.put, List.setIfInBounds_toArray, List.set_cons_zero, List.set_cons_succ]
          refine wpAnyH_take (i := 6) (oi := { dst := some 71, op := Op.load 95 (Operand.tmp 10), type := 95, pos := "deeds.go:143", after := #[], guard := none }) (v := ?_) rfl (by kernel_rfl) (by kernel_rfl) (by kernel_rfl) (fun _ _ _ h => h) (Or.inl ⟨by rfl, ?_⟩) hHeld ?_
          rotate_left
          · intro w hSw; (try dsimp only at hSw); go_simp; try with_reducible rfl
          try simp only [Act.put, List.setIfInBounds_toArray, List.set_cons_zero, List.set_cons_succ]
          refine wpAnyH_ready (rs := [7]) (by kernel_rfl) (by simp) ?_
          refine AllReadyH.cons rfl (fun K hK => ?_) (AllReadyH.nil)
          go_simp
          refine hK.out _ _ (HS14b.out) (fun hHeld => ?_)
          clear hK K
          try simp only [Act.put, List.setIfInBounds_toArray, List.set_cons_zero, List.set_cons_succ]
          refine wpAnyH_done (by kernel_rfl) ?_ _
          clear hHeld
          go_wp2_with fail
          exact ⟨⟨j + 1, _, by omega, by go_num, HG4, HSh4, HC4⟩, by simp [intOf]; omega⟩
        · obtain rfl : m = j := by omega
          have HFin : Hid (GMv w wr F g (n + 101) G.deal) := by
            refine ⟨F ++ blksOf As, ⟨⟨M1, M2, M3, A', pv, ?_⟩, HO.out.dealt.mono (by omega), fun b hb => ?_⟩, ?_, fun b hb => ?_⟩
            · have h := HGj.out.mono (show n + m ≤ n + 101 by omega)
              unfold Gp.deal
              rw [HM.out, HGe.out]
              exact h
            · rcases List.mem_append.1 hb with h | h
              · exact Nat.lt_of_lt_of_le (HF5.out b h) (Nat.le_trans hz6 HCj.out.size)
              · obtain ⟨s, hs, hsb⟩ := mem_blksOf.1 h
                obtain ⟨i, hi, rfl⟩ := List.getElem_of_mem hs
                have hp := HShj.out.part i hi
                rw [getD_at _ _ _ hi] at hp
                exact (hp.block b hsb).2.1
            · exact (HC5.out.trans (Chg.of HB6.out) (fun k hk => Or.inl hk)).trans (HCj.out.mono (fun k hk => by simp at hk; subst hk; exact HG5.out.in1)) (fun k hk => Or.inl hk)
            · rcases List.mem_append.1 hb with h | h
              · exact Or.inl h
              · obtain ⟨s, hs, hsb⟩ := mem_blksOf.1 h
                obtain ⟨i, hi, rfl⟩ := List.getElem_of_mem hs
                have hp := HShj.out.part i hi
                rw [getD_at _ _ _ hi] at hp
                exact Or.inr (Nat.le_trans HC5.out.size (hp.block b hsb).1)
          go_wp2_with fail
          go_end0
          exact ⟨rfl, HFin.out⟩
end Go.Proofs.YtiiepmljcjbflaaGreat
