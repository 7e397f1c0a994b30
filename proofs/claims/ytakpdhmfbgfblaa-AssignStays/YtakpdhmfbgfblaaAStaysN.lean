/- P1406 over plain data, whole: Sticky of what Range gave. -/
import Derived.Test.YtakpdhmfbgfblaaAStaysM
namespace Go.Proofs.Ytakpdhmfbgfblaa
open Go.RowKit

theorem range_even (l : List Nm) (p : Nat) (hl : l ≠ []) : (∀ q ∈ rangeP l p, p / l.length ≤ q.length ∧ q.length ≤ p / l.length + 1) ∧ (rangeP l p).length = l.length := by
  unfold rangeP
  have hn : 0 < l.length := List.length_pos_iff.2 hl
  obtain ⟨n, hnn⟩ : ∃ n, l.length = n := ⟨_, rfl⟩
  obtain ⟨ns, hns⟩ : ∃ ns, risN l = ns := ⟨_, rfl⟩
  have hnl : ns.length = n := by rw [← hns, risN_len]; exact hnn
  rw [hnn, hns]
  rw [hnn] at hn
  show (∀ q ∈ (allS (fRange (p / n)) ns ((allP p, p % n), List.replicate n []) ns.length).2.map risZ, _) ∧ ((allS (fRange (p / n)) ns ((allP p, p % n), List.replicate n []) ns.length).2.map risZ).length = n
  rw [allS_run (fRange (p / n)) ns _ _ (by simp [hnl])]
  have hrl : p % n < n := Nat.mod_lt _ hn
  have hpe : n * (p / n) + p % n = p := Nat.div_add_mod p n
  have k1 := range_run (p / n) ns (List.replicate n []) (allP p, p % n) (by simp [hnl]) (repl_nil n) (by rw [hnl]; exact Nat.le_of_lt hrl) (by show (allP p).length = _; rw [allP_len, hnl]; exact hpe.symm)
  refine ⟨fun q hq => ?_, by rw [List.length_map, runS_len]; simp⟩
  obtain ⟨x, hx, rfl⟩ := List.mem_map.1 hq
  rw [risZ_len]
  exact k1.1 x hx
theorem getD_map_nil (P : List (List Int)) (i : Nat) : (P.map risZ).getD i [] = risZ (P.getD i []) := by
  rw [List.getD_eq_getElem?_getD, List.getElem?_map, List.getD_eq_getElem?_getD]
  cases P[i]? with
  | none => exact risZ_nil.symm
  | some x => rfl
theorem getD_map_nm (D : Nm → List Int) (names : List Nm) (i : Nat) (hi : i < names.length) : (names.map D).getD i [] = D (names.getD i []) := by
  rw [List.getD_eq_getElem?_getD, List.getElem?_map, List.getElem?_eq_getElem hi, List.getD_eq_getElem?_getD, List.getElem?_eq_getElem hi]
  rfl
theorem getD_memN {names : List Nm} {i : Nat} (hi : i < names.length) : names.getD i [] ∈ names := by
  rw [List.getD_eq_getElem?_getD, List.getElem?_eq_getElem hi]
  exact List.getElem_mem _
/-- What Sticky gives, step by step. -/
theorem sticky_steps (ons : List Nm) (OP : List (List Int)) (l : List Nm) (p : Nat) (hc : CovP OP p) (hnd : (risN l).Nodup) :
    ∃ s1 s2 s3 : Dk, ∃ P2 P3 P4 : List (List Int),
      runS (fOne (p / l.length) (risN l) ((risN l).map (lstd ons OP))) s1 (risN l) ((risN l).map (fun nm => (lstd ons OP nm).take (p / l.length))) = (s2, P2) ∧
      runS (fFill (p / l.length)) s2 (risN l) P2 = (s3, P3) ∧ (runS (fLast (p / l.length)) s3 (risN l) P3).2 = P4 ∧ stickyP ons OP l p = P4.map risZ ∧ P2.length = l.length ∧ P3.length = l.length ∧ P4.length = l.length ∧
      s1.2 = p % l.length ∧ s1.1.Nodup ∧ (∀ z, z ∈ s1.1 ↔ z ∈ allP p ∧ ∀ nm ∈ risN l, z ∉ (lstd ons OP nm).take (p / l.length)) ∧
      (((risN l).map (fun nm => (lstd ons OP nm).take (p / l.length))).flatten ++ s1.1).Perm (allP p) := by
  obtain ⟨n, hnn⟩ : ∃ n, l.length = n := ⟨_, rfl⟩
  obtain ⟨ns, hns⟩ : ∃ ns, risN l = ns := ⟨_, rfl⟩
  have hnl : ns.length = n := by rw [← hns, risN_len]; exact hnn
  obtain ⟨b, hb⟩ : ∃ b, p / n = b := ⟨_, rfl⟩
  have hA := cov_apart (ns := ons) hc ns (hns ▸ hnd)
  have hHP : (hadN ons OP (allP p) ns).2 = ns.map (lstd ons OP) := by
    have h := had_fold ons OP ns (allP p) [] (allP_nodup p) hA
    show (ns.foldl (hadS ons OP) (allP p, [])).2 = _
    simpa using h
  have hD : ∀ nm ∈ ns, lstd ns (ns.map (lstd ons OP)) nm = lstd ons OP nm := fun nm h => lstd_map _ ns nm h
  obtain ⟨k1, k2, k3, k4⟩ := keep_exact b ns (ns.map (lstd ons OP)) (lstd ons OP) ns (allP p, p % n) hD (allP_nodup p) hA
  have m1 := runS_perm (fKeep b ns (ns.map (lstd ons OP))) (fKeep_perm b ns _) ns (List.replicate ns.length []) (allP p, p % n)
  rw [repl_flat] at m1
  unfold stickyP
  rw [hnn, hns, hHP, hb]
  obtain ⟨⟨s1, P1⟩, e1⟩ : ∃ t, runS (fKeep b ns (ns.map (lstd ons OP))) (allP p, p % n) ns (List.replicate ns.length []) = t := ⟨_, rfl⟩
  rw [e1] at k1 k2 k3 k4 m1
  dsimp only at k1 k2 k3 k4 m1
  subst k1
  obtain ⟨⟨s2, P2⟩, e2⟩ : ∃ t, runS (fOne b ns (ns.map (lstd ons OP))) s1 ns (ns.map (fun nm => (lstd ons OP nm).take b)) = t := ⟨_, rfl⟩
  obtain ⟨⟨s3, P3⟩, e3⟩ : ∃ t, runS (fFill b) s2 ns P2 = t := ⟨_, rfl⟩
  have l2 := runS_len (fOne b ns (ns.map (lstd ons OP))) ns (ns.map (fun nm => (lstd ons OP nm).take b)) s1
  rw [e2] at l2
  dsimp only at l2
  rw [List.length_map, hnl] at l2
  have l3 := runS_len (fFill b) ns P2 s2
  rw [e3] at l3
  dsimp only at l3
  have l4 := runS_len (fLast b) ns P3 s3
  refine ⟨s1, s2, s3, P2, P3, _, e2, e3, rfl, ?_, l2, l3.trans l2, l4.trans (l3.trans l2), k2, k3, k4, by simpa using m1⟩
  show (allS (fLast b) ns (allS (fFill b) ns (allS (fOne b ns (ns.map (lstd ons OP))) ns (allS (fKeep b ns (ns.map (lstd ons OP))) ns ((allP p, p % n), List.replicate n []) ns.length) ns.length) ns.length) ns.length).2.map risZ = _
  have e1' : runS (fKeep b ns (ns.map (lstd ons OP))) (allP p, p % n) ns (List.replicate n []) = (s1, ns.map (fun nm => (lstd ons OP nm).take b)) := by
    have h := e1
    rw [hnl] at h
    exact h
  rw [allS_run (fKeep b ns (ns.map (lstd ons OP))) ns _ _ (by simp [hnl]), e1', allS_run (fOne b ns (ns.map (lstd ons OP))) ns _ _ (by simp), e2, allS_run (fFill b) ns P2 s2 (by rw [hnl, l2]), e3, allS_run (fLast b) ns P3 s3 (by rw [hnl, l3, l2])]
/-- Who stays keeps what it had, if that is no more than each gets. -/
theorem stays_keep (ons : List Nm) (OP : List (List Int)) (l : List Nm) (p : Nat) (hc : CovP OP p) (hnd : (risN l).Nodup) (i : Nat) (hi : i < l.length) (hb : (lstd ons OP ((risN l).getD i [])).length ≤ p / l.length) :
    (lstd ons OP ((risN l).getD i [])).length ≤ ((stickyP ons OP l p).getD i []).length ∧ ∀ z ∈ lstd ons OP ((risN l).getD i []), z ∈ (stickyP ons OP l p).getD i [] := by
  obtain ⟨s1, s2, s3, P2, P3, P4, e2, e3, e4, hst, l2, l3, l4, -⟩ := sticky_steps ons OP l p hc hnd
  have hln : (risN l).length = l.length := risN_len l
  obtain ⟨m1, h1⟩ := run_grow (fOne (p / l.length) (risN l) ((risN l).map (lstd ons OP))) (risN l) ((risN l).map (fun nm => (lstd ons OP nm).take (p / l.length))) s1 i (by rw [List.length_map, hln]; exact hi)
  rw [e2] at h1
  obtain ⟨m2, h2⟩ := run_grow (fFill (p / l.length)) (risN l) P2 s2 i (by rw [l2]; exact hi)
  rw [e3] at h2
  obtain ⟨m3, h3⟩ := run_grow (fLast (p / l.length)) (risN l) P3 s3 i (by rw [l3]; exact hi)
  rw [e4] at h3
  dsimp only at h1 h2
  rw [getD_map_nm _ _ _ (by rw [hln]; exact hi), List.take_of_length_le hb] at h1
  rw [hst, getD_map_nil, h3, h2, h1]
  refine ⟨by rw [risZ_len]; simp, fun z hz => (risZ_perm _).mem_iff.2 (List.mem_append.2 (Or.inl (List.mem_append.2 (Or.inl (List.mem_append.2 (Or.inl hz))))))⟩
theorem lstd_at : ∀ (ns : List Nm) (P : List (List Int)) (i : Nat), ns.Nodup → ns.length = P.length → i < ns.length → lstd ns P (ns.getD i []) = P.getD i []
  | [], _, i, _, _, h => by simp at h
  | n :: ns, [], _, _, h, _ => by simp at h
  | n :: ns, q :: P, 0, _, _, _ => by
    show (if n = n then q else _) = q
    rw [if_pos rfl]
  | n :: ns, q :: P, i + 1, hn, hl, hi => by
    obtain ⟨h1, h2⟩ := List.nodup_cons.1 hn
    have hi' : i < ns.length := by simpa using hi
    show (if n = (n :: ns).getD (i + 1) [] then q else lstd ns P ((n :: ns).getD (i + 1) [])) = (q :: P).getD (i + 1) []
    rw [List.getD_cons_succ, List.getD_cons_succ, if_neg (fun e => h1 (by rw [e]; exact getD_memN hi'))]
    exact lstd_at ns P i h2 (by simpa using hl) hi'
theorem fill_none (b : Nat) : ∀ (ns : List Nm) (P : List (List Int)) (s : Dk), s.1 = [] → (runS (fFill b) s ns P).2 = P ∧ (runS (fFill b) s ns P).1.1 = []
  | [], P, s, h => ⟨rfl, h⟩
  | _ :: _, [], s, h => ⟨rfl, h⟩
  | nm :: ns, q :: P, s, h => by
    have e1 : (fFill b s nm q.length).1 = [] := by show s.1.take _ = []; rw [h]; simp
    have e2 : (fFill b s nm q.length).2.1 = [] := by show s.1.drop _ = []; rw [h]; simp
    obtain ⟨i1, i2⟩ := fill_none b ns P (fFill b s nm q.length).2 e2
    refine ⟨?_, i2⟩
    show (q ++ (fFill b s nm q.length).1) :: (runS (fFill b) (fFill b s nm q.length).2 ns P).2 = _
    rw [e1, i1, List.append_nil]
theorem last_none (b : Nat) : ∀ (ns : List Nm) (P : List (List Int)) (s : Dk), s.1 = [] → (runS (fLast b) s ns P).2 = P
  | [], P, s, h => rfl
  | _ :: _, [], s, h => rfl
  | nm :: ns, q :: P, s, h => by
    have e1 : (fLast b s nm q.length).1 = [] := by show s.1.take _ = []; rw [h]; simp
    have e2 : (fLast b s nm q.length).2.1 = [] := by show s.1.drop _ = []; rw [h]; simp
    show (q ++ (fLast b s nm q.length).1) :: (runS (fLast b) (fLast b s nm q.length).2 ns P).2 = _
    rw [e1, last_none b ns P (fLast b s nm q.length).2 e2, List.append_nil]
/-- With the same members nothing moves. -/
theorem stays_same (l : List Nm) (p : Nat) (hl : l ≠ []) (hnd : (risN l).Nodup) : stickyP (risN l) (rangeP l p) l p = rangeP l p := by
  have hc := range_cov l p hl
  obtain ⟨hev, hln⟩ := range_even l p hl
  obtain ⟨s1, s2, s3, P2, P3, P4, e2, e3, e4, hst, l2, l3, l4, k2, k3, k4, m1⟩ := sticky_steps (risN l) (rangeP l p) l p hc hnd
  have hrl : (risN l).length = l.length := risN_len l
  have hn : 0 < l.length := List.length_pos_iff.2 hl
  generalize hP : rangeP l p = P at *
  have hat : ∀ i, i < l.length → lstd (risN l) P ((risN l).getD i []) = P.getD i [] := fun i hi => lstd_at _ _ i hnd (by rw [hrl, hln]) (by rw [hrl]; exact hi)
  have hPD : (risN l).map (lstd (risN l) P) = P := by
    refine List.ext_getElem (by rw [List.length_map, hrl, hln]) (fun i h1 h2 => ?_)
    have hi : i < l.length := by rw [← hln]; exact h2
    have := hat i hi
    rw [List.getD_eq_getElem?_getD, List.getElem?_eq_getElem (by rw [hrl]; exact hi), List.getD_eq_getElem?_getD, List.getElem?_eq_getElem h2] at this
    simpa using this
  have hlen : ∀ nm ∈ risN l, (lstd (risN l) P nm).length ≤ p / l.length + 1 := fun nm hm => by
    rcases lstd_or (risN l) P nm with e | e
    · rw [e]; simp
    · exact (hev _ e).2
  have hov : overs (p / l.length) P = p % l.length := by
    have h1 := even_len (p / l.length) P hev
    have h2 := hc.perm.length_eq
    rw [allP_len] at h2
    have h3 := Nat.div_add_mod p l.length
    rw [hln] at h1
    omega
  have hcount : (risN l).countP (fun nm => decide (p / l.length < (lstd (risN l) P nm).length)) ≤ s1.2 := by
    have h1 : overs (p / l.length) ((risN l).map (lstd (risN l) P)) = (risN l).countP (fun nm => decide (p / l.length < (lstd (risN l) P nm).length)) := by
      unfold overs
      rw [List.countP_map]
      rfl
    rw [← h1, hPD, hov, k2]
    exact Nat.le_refl _
  have hA := cov_apart (ns := risN l) hc (risN l) hnd
  have hflat : P.flatten.Nodup := hc.perm.nodup_iff.2 (allP_nodup p)
  have hA2 : Apart (fun nm => (lstd (risN l) P nm).drop (p / l.length)) (risN l) s1.1 := by
    refine ⟨fun nm hm => (hA.rise nm hm).sublist (List.drop_sublist _ _), fun nm hm z hz => (k4 z).2 ⟨hA.sub nm hm z (List.mem_of_mem_drop hz), fun a ha hza => ?_⟩, hA.apart.imp (fun h z hz hz2 => h z (List.mem_of_mem_drop hz) (List.mem_of_mem_drop hz2))⟩
    by_cases e : a = nm
    · subst e
      have hr := hA.rise a ha
      have hsp : (lstd (risN l) P a).take (p / l.length) ++ (lstd (risN l) P a).drop (p / l.length) = lstd (risN l) P a := List.take_append_drop _ _
      rw [← hsp] at hr
      have := (List.pairwise_append.1 hr).2.2 z hza z hz
      omega
    · exact lstd_apart (risN l) P a nm hflat e z (List.mem_of_mem_take hza) (List.mem_of_mem_drop hz)
  have hone := one_exact (p / l.length) (risN l) ((risN l).map (lstd (risN l) P)) (lstd (risN l) P) (risN l) ((risN l).map (fun nm => (lstd (risN l) P nm).take (p / l.length))) s1 (by simp) (fun nm hm => lstd_map _ _ nm hm) hlen k3 hA2 hcount
  rw [e2] at hone
  dsimp only at hone
  have hP2 : P2 = P := by
    refine List.ext_getElem (by rw [l2, hln]) (fun i h1 h2 => ?_)
    have hi : i < (risN l).length := by rw [hrl, ← hln]; exact h2
    have h3 := hone i hi
    rw [getD_map_nm _ _ _ hi, List.take_append_drop, hat i (by rw [← hln]; exact h2)] at h3
    rw [List.getD_eq_getElem?_getD, List.getElem?_eq_getElem h1, List.getD_eq_getElem?_getD, List.getElem?_eq_getElem h2] at h3
    simpa using h3
  have m2 := runS_perm (fOne (p / l.length) (risN l) ((risN l).map (lstd (risN l) P))) (fOne_perm _ _ _) (risN l) ((risN l).map (fun nm => (lstd (risN l) P nm).take (p / l.length))) s1
  rw [e2] at m2
  dsimp only at m2
  have t2 := m2.trans m1
  rw [hP2] at t2
  have hs2 : s2.1 = [] := by
    have h1 := t2.length_eq
    have h2 := hc.perm.length_eq
    rw [List.length_append] at h1
    exact List.eq_nil_of_length_eq_zero (by omega)
  obtain ⟨f1, f2⟩ := fill_none (p / l.length) (risN l) P2 s2 hs2
  rw [e3] at f1 f2
  dsimp only at f1 f2
  have f3 := last_none (p / l.length) (risN l) P3 s3 f2
  rw [e4] at f3
  rw [hst, f3, f1, hP2]
  refine (List.map_congr_left (fun q hq => risZ_of (hc.rise q hq))).trans ?_
  simp
end Go.Proofs.Ytakpdhmfbgfblaa
