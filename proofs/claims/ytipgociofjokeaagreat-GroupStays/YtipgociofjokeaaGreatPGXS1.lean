/- P1406 over plain data: with the same members nothing moves; who stays keeps what it had. P1406 over plain data, whole: Sticky of what Range gave. -/
import Derived.Test.YtipgociofjokeaaGreatPGXA4
namespace Go.Proofs.YtipgociofjokeaaGreat
open Go.RowKit

theorem pick_all : ∀ (ws xs acc : List Int), ws.Nodup → xs.Nodup → (∀ z ∈ ws, z ∈ xs) → (ws.foldl pickS (xs, acc)).2 = acc ++ ws ∧ (ws.foldl pickS (xs, acc)).1.Nodup ∧ ∀ z, z ∈ (ws.foldl pickS (xs, acc)).1 ↔ z ∈ xs ∧ z ∉ ws
  | [], xs, acc, _, hx, _ => ⟨by simp, hx, fun z => by simp⟩
  | w :: ws, xs, acc, hw, hx, hs => by
    obtain ⟨h1, h2⟩ := List.nodup_cons.1 hw
    have hm : w ∈ xs := hs w (by simp)
    have e : pickS (xs, acc) w = (xs.erase w, acc ++ [w]) := by
      unfold pickS
      rw [if_pos (by simpa using hm)]
    rw [List.foldl_cons, e]
    obtain ⟨k1, k2, k3⟩ := pick_all ws (xs.erase w) (acc ++ [w]) h2 (hx.erase w) (fun z hz => (hx.mem_erase_iff).2 ⟨fun e => h1 (e ▸ hz), hs z (by simp [hz])⟩)
    refine ⟨by rw [k1, List.append_assoc]; rfl, k2, fun z => ?_⟩
    rw [k3 z, hx.mem_erase_iff]
    simp only [List.mem_cons, not_or]
    constructor
    · rintro ⟨⟨a, b⟩, c⟩; exact ⟨b, a, c⟩
    · rintro ⟨b, a, c⟩; exact ⟨⟨a, b⟩, c⟩
theorem risZ_of {l : List Int} (h : l.Pairwise (· < ·)) : risZ l = l := List.mergeSort_of_pairwise (h.imp (fun h => by simp; omega))
/-- What of a deck is left when some are picked out of it. -/
theorem pickD_all {ws : List Int} {s : Dk} (hw : ws.Pairwise (· < ·)) (hx : s.1.Nodup) (hs : ∀ z ∈ ws, z ∈ s.1) : (pickD ws s).1 = ws ∧ (pickD ws s).2.2 = s.2 ∧ (pickD ws s).2.1.Nodup ∧ ∀ z, z ∈ (pickD ws s).2.1 ↔ z ∈ s.1 ∧ z ∉ ws := by
  obtain ⟨h1, h2, h3⟩ := pick_all ws s.1 [] (hw.imp (fun h e => by omega)) hx hs
  refine ⟨?_, rfl, h2, h3⟩
  show risZ (pickN s.1 ws).2 = ws
  have e : (pickN s.1 ws).2 = ws := h1
  rw [e]
  exact risZ_of hw
/-- Lists of their own for each name. -/
structure Apart (D : Nm → List Int) (names : List Nm) (xs : List Int) : Prop where
  rise : ∀ nm ∈ names, (D nm).Pairwise (· < ·)
  sub : ∀ nm ∈ names, ∀ z ∈ D nm, z ∈ xs
  apart : names.Pairwise (fun a b => ∀ z ∈ D a, z ∉ D b)
theorem Apart.tail {D : Nm → List Int} {nm : Nm} {names : List Nm} {xs ys : List Int} (h : Apart D (nm :: names) xs) (hy : ∀ z, z ∈ ys ↔ z ∈ xs ∧ z ∉ D nm) : Apart D names ys := by
  refine ⟨fun a ha => h.rise a (by simp [ha]), fun a ha z hz => (hy z).2 ⟨h.sub a (by simp [ha]) z hz, fun hm => ?_⟩, (List.pairwise_cons.1 h.apart).2⟩
  exact (List.pairwise_cons.1 h.apart).1 a ha z hm hz
theorem had_fold (ons : List Nm) (P : List (List Int)) : ∀ (names : List Nm) (xs : List Int) (acc : List (List Int)), xs.Nodup → Apart (lstd ons P) names xs → (names.foldl (hadS ons P) (xs, acc)).2 = acc ++ names.map (lstd ons P)
  | [], xs, acc, _, _ => by simp
  | nm :: names, xs, acc, hx, h => by
    have hr := h.rise nm (by simp)
    obtain ⟨h1, h2, h3⟩ := pick_all (lstd ons P nm) xs [] (hr.imp (fun h e => by omega)) hx (h.sub nm (by simp))
    have e1 : (pickN xs (lstd ons P nm)).2 = lstd ons P nm := h1
    have ih := had_fold ons P names (pickN xs (lstd ons P nm)).1 (acc ++ [risZ (pickN xs (lstd ons P nm)).2]) h2 (h.tail h3)
    rw [List.foldl_cons]
    show (names.foldl (hadS ons P) ((pickN xs (lstd ons P nm)).1, acc ++ [risZ (pickN xs (lstd ons P nm)).2])).2 = _
    rw [ih, e1, risZ_of hr]
    simp
theorem lstd_map (D : Nm → List Int) : ∀ (names : List Nm) (nm : Nm), nm ∈ names → lstd names (names.map D) nm = D nm
  | [], _, h => by cases h
  | a :: names, nm, h => by
    show (if a = nm then D a else lstd names (names.map D) nm) = D nm
    by_cases e : a = nm
    · rw [if_pos e, e]
    · rw [if_neg e]
      exact lstd_map D names nm ((List.mem_cons.1 h).resolve_left (fun h => e h.symm))
/-- The first step: each has what it had, base of it at most. -/
theorem keep_exact (b : Nat) (hs : List Nm) (HP : List (List Int)) (D : Nm → List Int) : ∀ (names : List Nm) (s : Dk), (∀ nm ∈ names, lstd hs HP nm = D nm) → s.1.Nodup → Apart D names s.1 →
    (runS (fKeep b hs HP) s names (List.replicate names.length [])).2 = names.map (fun nm => (D nm).take b) ∧ (runS (fKeep b hs HP) s names (List.replicate names.length [])).1.2 = s.2 ∧ (runS (fKeep b hs HP) s names (List.replicate names.length [])).1.1.Nodup ∧ ∀ z, z ∈ (runS (fKeep b hs HP) s names (List.replicate names.length [])).1.1 ↔ z ∈ s.1 ∧ ∀ nm ∈ names, z ∉ (D nm).take b
  | [], s, _, hx, _ => ⟨rfl, rfl, hx, fun z => by show z ∈ s.1 ↔ _; simp⟩
  | nm :: names, s, hl, hx, h => by
    have ht : ((D nm).take b).Pairwise (· < ·) := (h.rise nm (by simp)).sublist (List.take_sublist _ _)
    obtain ⟨p1, p2, p3, p4⟩ := pickD_all (s := s) ht hx (fun z hz => h.sub nm (by simp) z (List.mem_of_mem_take hz))
    have e0 : fKeep b hs HP s nm 0 = pickD ((D nm).take b) s := by unfold fKeep; rw [hl nm (by simp)]
    have hA : Apart D names (pickD ((D nm).take b) s).2.1 := by
      refine ⟨fun a ha => h.rise a (by simp [ha]), fun a ha z hz => (p4 z).2 ⟨h.sub a (by simp [ha]) z hz, fun hm => ?_⟩, (List.pairwise_cons.1 h.apart).2⟩
      exact (List.pairwise_cons.1 h.apart).1 a ha z (List.mem_of_mem_take hm) hz
    obtain ⟨i1, i2, i3, i4⟩ := keep_exact b hs HP D names (pickD ((D nm).take b) s).2 (fun a ha => hl a (by simp [ha])) p3 hA
    rw [List.length_cons, List.replicate_succ]
    have er : runS (fKeep b hs HP) s (nm :: names) ([] :: List.replicate names.length []) = ((runS (fKeep b hs HP) (pickD ((D nm).take b) s).2 names (List.replicate names.length [])).1, ([] ++ (pickD ((D nm).take b) s).1) :: (runS (fKeep b hs HP) (pickD ((D nm).take b) s).2 names (List.replicate names.length [])).2) := by
      show ((runS (fKeep b hs HP) (fKeep b hs HP s nm 0).2 names _).1, ([] ++ (fKeep b hs HP s nm 0).1) :: (runS (fKeep b hs HP) (fKeep b hs HP s nm 0).2 names _).2) = _
      rw [e0]
    rw [er]
    refine ⟨?_, i2.trans p2, i3, fun z => ?_⟩
    · show ([] ++ (pickD ((D nm).take b) s).1) :: _ = _
      rw [i1, p1, List.nil_append]
      rfl
    · show z ∈ (runS (fKeep b hs HP) (pickD ((D nm).take b) s).2 names (List.replicate names.length [])).1.1 ↔ _
      rw [i4 z, p4 z]
      simp only [List.mem_cons, forall_eq_or_imp]
      constructor
      · rintro ⟨⟨a, b⟩, c⟩; exact ⟨a, b, c⟩
      · rintro ⟨a, b, c⟩; exact ⟨⟨a, b⟩, c⟩
/-- Whatever a step does, each keeps what it has. -/
theorem run_grow (f : Stp Dk) : ∀ (ns : List Nm) (P : List (List Int)) (s : Dk) (i : Nat), i < P.length → ∃ m, (runS f s ns P).2.getD i [] = P.getD i [] ++ m
  | [], P, s, i, _ => ⟨[], by show P.getD i [] = _; simp⟩
  | _ :: _, [], s, i, h => by simp at h
  | nm :: ns, q :: P, s, 0, _ => ⟨_, rfl⟩
  | nm :: ns, q :: P, s, i + 1, h => by
    obtain ⟨m, hm⟩ := run_grow f ns P (f s nm q.length).2 i (by simpa using h)
    exact ⟨m, by simpa [runS] using hm⟩
/-- The second step, where there is one more for each that had more. -/
theorem one_exact (b : Nat) (hs : List Nm) (HP : List (List Int)) (D : Nm → List Int) : ∀ (names : List Nm) (P : List (List Int)) (s : Dk), P.length = names.length → (∀ nm ∈ names, lstd hs HP nm = D nm) → (∀ nm ∈ names, (D nm).length ≤ b + 1) → s.1.Nodup → Apart (fun nm => (D nm).drop b) names s.1 → names.countP (fun nm => decide (b < (D nm).length)) ≤ s.2 →
    ∀ i, i < names.length → (runS (fOne b hs HP) s names P).2.getD i [] = P.getD i [] ++ (D (names.getD i [])).drop b
  | [], _, _, _, _, _, _, _, _, i, h => by simp at h
  | nm :: names, [], _, hl, _, _, _, _, _, _, _ => by simp at hl
  | nm :: names, q :: P, s, hl, hd, hlen, hx, h, hc, i, hi => by
    have hdn := hd nm (by simp)
    have hln := hlen nm (by simp)
    rw [List.countP_cons] at hc
    by_cases hbig : b < (D nm).length
    · rw [if_pos (by simpa using hbig)] at hc
      have ht : (((D nm).drop b).take 1) = (D nm).drop b := List.take_of_length_le (by rw [List.length_drop]; omega)
      have e0 : fOne b hs HP s nm q.length = pickD ((D nm).drop b) (s.1, s.2 - 1) := by
        unfold fOne
        rw [hdn, if_neg (by omega), ht]
      obtain ⟨p1, p2, p3, p4⟩ := pickD_all (ws := (D nm).drop b) (s := (s.1, s.2 - 1)) (h.rise nm (by simp)) hx (h.sub nm (by simp))
      cases i with
      | zero =>
        show q ++ (fOne b hs HP s nm q.length).1 = q ++ (D nm).drop b
        rw [e0, p1]
      | succ i =>
        have hA : Apart (fun nm => (D nm).drop b) names (pickD ((D nm).drop b) (s.1, s.2 - 1)).2.1 := h.tail p4
        have ih := one_exact b hs HP D names P (pickD ((D nm).drop b) (s.1, s.2 - 1)).2 (by simpa using hl) (fun a ha => hd a (by simp [ha])) (fun a ha => hlen a (by simp [ha])) p3 hA (by rw [p2]; show _ ≤ s.2 - 1; omega) i (by simpa using hi)
        show (runS (fOne b hs HP) (fOne b hs HP s nm q.length).2 names P).2.getD i [] = P.getD i [] ++ (D (names.getD i [])).drop b
        rw [e0]
        exact ih
    · rw [if_neg (by simpa using hbig)] at hc
      have e0 : fOne b hs HP s nm q.length = ([], s) := by
        unfold fOne
        rw [hdn, if_pos (Or.inl (by omega))]
      have hz : (D nm).drop b = [] := List.drop_of_length_le (by omega)
      cases i with
      | zero =>
        show q ++ (fOne b hs HP s nm q.length).1 = q ++ (D nm).drop b
        rw [e0, hz]
      | succ i =>
        have hA : Apart (fun nm => (D nm).drop b) names s.1 := h.tail (fun z => by show z ∈ s.1 ↔ z ∈ s.1 ∧ z ∉ (D nm).drop b; rw [hz]; simp)
        have ih := one_exact b hs HP D names P s (by simpa using hl) (fun a ha => hd a (by simp [ha])) (fun a ha => hlen a (by simp [ha])) hx hA (by omega) i (by simpa using hi)
        show (runS (fOne b hs HP) (fOne b hs HP s nm q.length).2 names P).2.getD i [] = P.getD i [] ++ (D (names.getD i [])).drop b
        rw [e0]
        exact ih
theorem lstd_or : ∀ (ns : List Nm) (P : List (List Int)) (nm : Nm), lstd ns P nm = [] ∨ lstd ns P nm ∈ P
  | [], _, _ => Or.inl rfl
  | _ :: _, [], _ => Or.inl rfl
  | n :: ns, q :: P, nm => by
    show (if n = nm then q else lstd ns P nm) = [] ∨ (if n = nm then q else lstd ns P nm) ∈ q :: P
    by_cases e : n = nm
    · rw [if_pos e]; exact Or.inr (by simp)
    · rw [if_neg e]
      rcases lstd_or ns P nm with h | h
      · exact Or.inl h
      · exact Or.inr (by simp [h])
theorem lstd_mem {ns : List Nm} {P : List (List Int)} {nm : Nm} {z : Int} (h : z ∈ lstd ns P nm) : z ∈ P.flatten := by
  rcases lstd_or ns P nm with e | e
  · rw [e] at h; cases h
  · exact List.mem_flatten.2 ⟨_, e, h⟩
theorem lstd_apart : ∀ (ns : List Nm) (P : List (List Int)) (a b : Nm), P.flatten.Nodup → a ≠ b → ∀ z ∈ lstd ns P a, z ∉ lstd ns P b
  | [], _, _, _, _, _, z, h => by cases h
  | _ :: _, [], _, _, _, _, z, h => by cases h
  | n :: ns, q :: P, a, b, hn, hab, z, h => by
    have hn' : (q ++ P.flatten).Nodup := hn
    obtain ⟨h1, h2, h3⟩ := List.nodup_append.1 hn'
    have ha : lstd (n :: ns) (q :: P) a = if n = a then q else lstd ns P a := rfl
    have hb : lstd (n :: ns) (q :: P) b = if n = b then q else lstd ns P b := rfl
    rw [ha] at h
    rw [hb]
    by_cases ea : n = a
    · rw [if_pos ea] at h
      rw [if_neg (fun e => hab (ea.symm.trans e))]
      intro hm
      exact h3 z h z (lstd_mem hm) rfl
    · rw [if_neg ea] at h
      by_cases eb : n = b
      · rw [if_pos eb]
        intro hm
        exact h3 z hm z (lstd_mem h) rfl
      · rw [if_neg eb]
        exact lstd_apart ns P a b h2 hab z h
/-- What a covering gave lies apart for all names. -/
theorem cov_apart {ns : List Nm} {P : List (List Int)} {p : Nat} (h : CovP P p) (names : List Nm) (hn : names.Nodup) : Apart (lstd ns P) names (allP p) := by
  have hnd : P.flatten.Nodup := h.perm.nodup_iff.2 (allP_nodup p)
  refine ⟨fun nm _ => ?_, fun nm _ z hz => h.perm.mem_iff.1 (lstd_mem hz), hn.imp (fun hab => lstd_apart ns P _ _ hnd hab)⟩
  rcases lstd_or ns P nm with e | e
  · rw [e]; exact List.Pairwise.nil
  · exact h.rise _ e
end Go.Proofs.YtipgociofjokeaaGreat
namespace Go.Proofs.YtipgociofjokeaaGreat
open Go.RowKit

theorem range_even (l : List Nm) (p : Nat) (hl : l ≠ []) : (∀ q ∈ rangeP l p, p / l.length ≤ q.length ∧ q.length ≤ p / l.length + 1) ∧ (rangeP l p).length = l.length := by
  unfold rangeP
  have hn : 0 < l.length := List.length_pos_iff.2 hl
  obtain ⟨n, hnn⟩ : ∃ n, l.length = n := ⟨_, rfl⟩
  obtain ⟨ns, hns⟩ : ∃ ns, risN l = ns := ⟨_, rfl⟩
  have hnl : ns.length = n := by rw [← hns, risN_len]; exact hnn
  rw [hnn, hns]
  rw [hnn] at hn
  show (∀ q ∈ (allS (fRange (p / n)) ns ((allP p, p % n), List.replicate n []) ns.length).2.map risZ, _) ∧ ((allS (fRange (p / n)) ns ((allP p, p % n), List.replicate n []) ns.length).2.map risZ).length = n
  rw [allS_run (fRange (p / n)) ns _ _ (by simp [hnl])]
  have hrl : p % n < n := Nat.mod_lt _ hn
  have hpe : n * (p / n) + p % n = p := Nat.div_add_mod p n
  have k1 := range_run (p / n) ns (List.replicate n []) (allP p, p % n) (by simp [hnl]) (repl_nil n) (by rw [hnl]; exact Nat.le_of_lt hrl) (by show (allP p).length = _; rw [allP_len, hnl]; exact hpe.symm)
  refine ⟨fun q hq => ?_, by rw [List.length_map, runS_len]; simp⟩
  obtain ⟨x, hx, rfl⟩ := List.mem_map.1 hq
  rw [risZ_len]
  exact k1.1 x hx
theorem getD_map_nil (P : List (List Int)) (i : Nat) : (P.map risZ).getD i [] = risZ (P.getD i []) := by
  rw [List.getD_eq_getElem?_getD, List.getElem?_map, List.getD_eq_getElem?_getD]
  cases P[i]? with
  | none => exact risZ_nil.symm
  | some x => rfl
theorem getD_map_nm (D : Nm → List Int) (names : List Nm) (i : Nat) (hi : i < names.length) : (names.map D).getD i [] = D (names.getD i []) := by
  rw [List.getD_eq_getElem?_getD, List.getElem?_map, List.getElem?_eq_getElem hi, List.getD_eq_getElem?_getD, List.getElem?_eq_getElem hi]
  rfl
theorem getD_memN {names : List Nm} {i : Nat} (hi : i < names.length) : names.getD i [] ∈ names := by
  rw [List.getD_eq_getElem?_getD, List.getElem?_eq_getElem hi]
  exact List.getElem_mem _
/-- What Sticky gives, step by step. -/
theorem sticky_apart (ons : List Nm) (OP : List (List Int)) (l : List Nm) (p : Nat) (hA0 : Apart (lstd ons OP) (risN l) (allP p)) :
    ∃ s1 s2 s3 : Dk, ∃ P2 P3 P4 : List (List Int),
      runS (fOne (p / l.length) (risN l) ((risN l).map (lstd ons OP))) s1 (risN l) ((risN l).map (fun nm => (lstd ons OP nm).take (p / l.length))) = (s2, P2) ∧
      runS (fFill (p / l.length)) s2 (risN l) P2 = (s3, P3) ∧ (runS (fLast (p / l.length)) s3 (risN l) P3).2 = P4 ∧ stickyP ons OP l p = P4.map risZ ∧ P2.length = l.length ∧ P3.length = l.length ∧ P4.length = l.length ∧
      s1.2 = p % l.length ∧ s1.1.Nodup ∧ (∀ z, z ∈ s1.1 ↔ z ∈ allP p ∧ ∀ nm ∈ risN l, z ∉ (lstd ons OP nm).take (p / l.length)) ∧
      (((risN l).map (fun nm => (lstd ons OP nm).take (p / l.length))).flatten ++ s1.1).Perm (allP p) := by
  obtain ⟨n, hnn⟩ : ∃ n, l.length = n := ⟨_, rfl⟩
  obtain ⟨ns, hns⟩ : ∃ ns, risN l = ns := ⟨_, rfl⟩
  have hnl : ns.length = n := by rw [← hns, risN_len]; exact hnn
  obtain ⟨b, hb⟩ : ∃ b, p / n = b := ⟨_, rfl⟩
  have hA : Apart (lstd ons OP) ns (allP p) := by rw [← hns]; exact hA0
  have hHP : (hadN ons OP (allP p) ns).2 = ns.map (lstd ons OP) := by
    have h := had_fold ons OP ns (allP p) [] (allP_nodup p) hA
    show (ns.foldl (hadS ons OP) (allP p, [])).2 = _
    simpa using h
  have hD : ∀ nm ∈ ns, lstd ns (ns.map (lstd ons OP)) nm = lstd ons OP nm := fun nm h => lstd_map _ ns nm h
  obtain ⟨k1, k2, k3, k4⟩ := keep_exact b ns (ns.map (lstd ons OP)) (lstd ons OP) ns (allP p, p % n) hD (allP_nodup p) hA
  have m1 := runS_perm (fKeep b ns (ns.map (lstd ons OP))) (fKeep_perm b ns _) ns (List.replicate ns.length []) (allP p, p % n)
  rw [repl_flat] at m1
  unfold stickyP
  rw [hnn, hns, hHP, hb]
  obtain ⟨⟨s1, P1⟩, e1⟩ : ∃ t, runS (fKeep b ns (ns.map (lstd ons OP))) (allP p, p % n) ns (List.replicate ns.length []) = t := ⟨_, rfl⟩
  rw [e1] at k1 k2 k3 k4 m1
  dsimp only at k1 k2 k3 k4 m1
  subst k1
  obtain ⟨⟨s2, P2⟩, e2⟩ : ∃ t, runS (fOne b ns (ns.map (lstd ons OP))) s1 ns (ns.map (fun nm => (lstd ons OP nm).take b)) = t := ⟨_, rfl⟩
  obtain ⟨⟨s3, P3⟩, e3⟩ : ∃ t, runS (fFill b) s2 ns P2 = t := ⟨_, rfl⟩
  have l2 := runS_len (fOne b ns (ns.map (lstd ons OP))) ns (ns.map (fun nm => (lstd ons OP nm).take b)) s1
  rw [e2] at l2
  dsimp only at l2
  rw [List.length_map, hnl] at l2
  have l3 := runS_len (fFill b) ns P2 s2
  rw [e3] at l3
  dsimp only at l3
  have l4 := runS_len (fLast b) ns P3 s3
  refine ⟨s1, s2, s3, P2, P3, _, e2, e3, rfl, ?_, l2, l3.trans l2, l4.trans (l3.trans l2), k2, k3, k4, by simpa using m1⟩
  show (allS (fLast b) ns (allS (fFill b) ns (allS (fOne b ns (ns.map (lstd ons OP))) ns (allS (fKeep b ns (ns.map (lstd ons OP))) ns ((allP p, p % n), List.replicate n []) ns.length) ns.length) ns.length) ns.length).2.map risZ = _
  have e1' : runS (fKeep b ns (ns.map (lstd ons OP))) (allP p, p % n) ns (List.replicate n []) = (s1, ns.map (fun nm => (lstd ons OP nm).take b)) := by
    have h := e1
    rw [hnl] at h
    exact h
  rw [allS_run (fKeep b ns (ns.map (lstd ons OP))) ns _ _ (by simp [hnl]), e1', allS_run (fOne b ns (ns.map (lstd ons OP))) ns _ _ (by simp), e2, allS_run (fFill b) ns P2 s2 (by rw [hnl, l2]), e3, allS_run (fLast b) ns P3 s3 (by rw [hnl, l3, l2])]
theorem sticky_steps (ons : List Nm) (OP : List (List Int)) (l : List Nm) (p : Nat) (hc : CovP OP p) (hnd : (risN l).Nodup) :
    ∃ s1 s2 s3 : Dk, ∃ P2 P3 P4 : List (List Int),
      runS (fOne (p / l.length) (risN l) ((risN l).map (lstd ons OP))) s1 (risN l) ((risN l).map (fun nm => (lstd ons OP nm).take (p / l.length))) = (s2, P2) ∧
      runS (fFill (p / l.length)) s2 (risN l) P2 = (s3, P3) ∧ (runS (fLast (p / l.length)) s3 (risN l) P3).2 = P4 ∧ stickyP ons OP l p = P4.map risZ ∧ P2.length = l.length ∧ P3.length = l.length ∧ P4.length = l.length ∧
      s1.2 = p % l.length ∧ s1.1.Nodup ∧ (∀ z, z ∈ s1.1 ↔ z ∈ allP p ∧ ∀ nm ∈ risN l, z ∉ (lstd ons OP nm).take (p / l.length)) ∧
      (((risN l).map (fun nm => (lstd ons OP nm).take (p / l.length))).flatten ++ s1.1).Perm (allP p) := sticky_apart ons OP l p (cov_apart (ns := ons) hc (risN l) hnd)
/-- Who stays keeps what it had, if that is no more than each gets. -/
theorem stays_keep (ons : List Nm) (OP : List (List Int)) (l : List Nm) (p : Nat) (hc : CovP OP p) (hnd : (risN l).Nodup) (i : Nat) (hi : i < l.length) (hb : (lstd ons OP ((risN l).getD i [])).length ≤ p / l.length) :
    (lstd ons OP ((risN l).getD i [])).length ≤ ((stickyP ons OP l p).getD i []).length ∧ ∀ z ∈ lstd ons OP ((risN l).getD i []), z ∈ (stickyP ons OP l p).getD i [] := by
  obtain ⟨s1, s2, s3, P2, P3, P4, e2, e3, e4, hst, l2, l3, l4, -⟩ := sticky_steps ons OP l p hc hnd
  have hln : (risN l).length = l.length := risN_len l
  obtain ⟨m1, h1⟩ := run_grow (fOne (p / l.length) (risN l) ((risN l).map (lstd ons OP))) (risN l) ((risN l).map (fun nm => (lstd ons OP nm).take (p / l.length))) s1 i (by rw [List.length_map, hln]; exact hi)
  rw [e2] at h1
  obtain ⟨m2, h2⟩ := run_grow (fFill (p / l.length)) (risN l) P2 s2 i (by rw [l2]; exact hi)
  rw [e3] at h2
  obtain ⟨m3, h3⟩ := run_grow (fLast (p / l.length)) (risN l) P3 s3 i (by rw [l3]; exact hi)
  rw [e4] at h3
  dsimp only at h1 h2
  rw [getD_map_nm _ _ _ (by rw [hln]; exact hi), List.take_of_length_le hb] at h1
  rw [hst, getD_map_nil, h3, h2, h1]
  refine ⟨by rw [risZ_len]; simp, fun z hz => (risZ_perm _).mem_iff.2 (List.mem_append.2 (Or.inl (List.mem_append.2 (Or.inl (List.mem_append.2 (Or.inl hz))))))⟩
theorem lstd_at : ∀ (ns : List Nm) (P : List (List Int)) (i : Nat), ns.Nodup → ns.length = P.length → i < ns.length → lstd ns P (ns.getD i []) = P.getD i []
  | [], _, i, _, _, h => by simp at h
  | n :: ns, [], _, _, h, _ => by simp at h
  | n :: ns, q :: P, 0, _, _, _ => by
    show (if n = n then q else _) = q
    rw [if_pos rfl]
  | n :: ns, q :: P, i + 1, hn, hl, hi => by
    obtain ⟨h1, h2⟩ := List.nodup_cons.1 hn
    have hi' : i < ns.length := by simpa using hi
    show (if n = (n :: ns).getD (i + 1) [] then q else lstd ns P ((n :: ns).getD (i + 1) [])) = (q :: P).getD (i + 1) []
    rw [List.getD_cons_succ, List.getD_cons_succ, if_neg (fun e => h1 (by rw [e]; exact getD_memN hi'))]
    exact lstd_at ns P i h2 (by simpa using hl) hi'
theorem fill_none (b : Nat) : ∀ (ns : List Nm) (P : List (List Int)) (s : Dk), s.1 = [] → (runS (fFill b) s ns P).2 = P ∧ (runS (fFill b) s ns P).1.1 = []
  | [], P, s, h => ⟨rfl, h⟩
  | _ :: _, [], s, h => ⟨rfl, h⟩
  | nm :: ns, q :: P, s, h => by
    have e1 : (fFill b s nm q.length).1 = [] := by show s.1.take _ = []; rw [h]; simp
    have e2 : (fFill b s nm q.length).2.1 = [] := by show s.1.drop _ = []; rw [h]; simp
    obtain ⟨i1, i2⟩ := fill_none b ns P (fFill b s nm q.length).2 e2
    refine ⟨?_, i2⟩
    show (q ++ (fFill b s nm q.length).1) :: (runS (fFill b) (fFill b s nm q.length).2 ns P).2 = _
    rw [e1, i1, List.append_nil]
theorem last_none (b : Nat) : ∀ (ns : List Nm) (P : List (List Int)) (s : Dk), s.1 = [] → (runS (fLast b) s ns P).2 = P
  | [], P, s, h => rfl
  | _ :: _, [], s, h => rfl
  | nm :: ns, q :: P, s, h => by
    have e1 : (fLast b s nm q.length).1 = [] := by show s.1.take _ = []; rw [h]; simp
    have e2 : (fLast b s nm q.length).2.1 = [] := by show s.1.drop _ = []; rw [h]; simp
    show (q ++ (fLast b s nm q.length).1) :: (runS (fLast b) (fLast b s nm q.length).2 ns P).2 = _
    rw [e1, last_none b ns P (fLast b s nm q.length).2 e2, List.append_nil]
/-- With the same members nothing moves. -/
theorem stays_same (l : List Nm) (p : Nat) (hl : l ≠ []) (hnd : (risN l).Nodup) : stickyP (risN l) (rangeP l p) l p = rangeP l p := by
  have hc := range_cov l p hl
  obtain ⟨hev, hln⟩ := range_even l p hl
  obtain ⟨s1, s2, s3, P2, P3, P4, e2, e3, e4, hst, l2, l3, l4, k2, k3, k4, m1⟩ := sticky_steps (risN l) (rangeP l p) l p hc hnd
  have hrl : (risN l).length = l.length := risN_len l
  have hn : 0 < l.length := List.length_pos_iff.2 hl
  generalize hP : rangeP l p = P at *
  have hat : ∀ i, i < l.length → lstd (risN l) P ((risN l).getD i []) = P.getD i [] := fun i hi => lstd_at _ _ i hnd (by rw [hrl, hln]) (by rw [hrl]; exact hi)
  have hPD : (risN l).map (lstd (risN l) P) = P := by
    refine List.ext_getElem (by rw [List.length_map, hrl, hln]) (fun i h1 h2 => ?_)
    have hi : i < l.length := by rw [← hln]; exact h2
    have := hat i hi
    rw [List.getD_eq_getElem?_getD, List.getElem?_eq_getElem (by rw [hrl]; exact hi), List.getD_eq_getElem?_getD, List.getElem?_eq_getElem h2] at this
    simpa using this
  have hlen : ∀ nm ∈ risN l, (lstd (risN l) P nm).length ≤ p / l.length + 1 := fun nm hm => by
    rcases lstd_or (risN l) P nm with e | e
    · rw [e]; simp
    · exact (hev _ e).2
  have hov : overs (p / l.length) P = p % l.length := by
    have h1 := even_len (p / l.length) P hev
    have h2 := hc.perm.length_eq
    rw [allP_len] at h2
    have h3 := Nat.div_add_mod p l.length
    rw [hln] at h1
    omega
  have hcount : (risN l).countP (fun nm => decide (p / l.length < (lstd (risN l) P nm).length)) ≤ s1.2 := by
    have h1 : overs (p / l.length) ((risN l).map (lstd (risN l) P)) = (risN l).countP (fun nm => decide (p / l.length < (lstd (risN l) P nm).length)) := by
      unfold overs
      rw [List.countP_map]
      rfl
    rw [← h1, hPD, hov, k2]
    exact Nat.le_refl _
  have hA := cov_apart (ns := risN l) hc (risN l) hnd
  have hflat : P.flatten.Nodup := hc.perm.nodup_iff.2 (allP_nodup p)
  have hA2 : Apart (fun nm => (lstd (risN l) P nm).drop (p / l.length)) (risN l) s1.1 := by
    refine ⟨fun nm hm => (hA.rise nm hm).sublist (List.drop_sublist _ _), fun nm hm z hz => (k4 z).2 ⟨hA.sub nm hm z (List.mem_of_mem_drop hz), fun a ha hza => ?_⟩, hA.apart.imp (fun h z hz hz2 => h z (List.mem_of_mem_drop hz) (List.mem_of_mem_drop hz2))⟩
    by_cases e : a = nm
    · subst e
      have hr := hA.rise a ha
      have hsp : (lstd (risN l) P a).take (p / l.length) ++ (lstd (risN l) P a).drop (p / l.length) = lstd (risN l) P a := List.take_append_drop _ _
      rw [← hsp] at hr
      have := (List.pairwise_append.1 hr).2.2 z hza z hz
      omega
    · exact lstd_apart (risN l) P a nm hflat e z (List.mem_of_mem_take hza) (List.mem_of_mem_drop hz)
  have hone := one_exact (p / l.length) (risN l) ((risN l).map (lstd (risN l) P)) (lstd (risN l) P) (risN l) ((risN l).map (fun nm => (lstd (risN l) P nm).take (p / l.length))) s1 (by simp) (fun nm hm => lstd_map _ _ nm hm) hlen k3 hA2 hcount
  rw [e2] at hone
  dsimp only at hone
  have hP2 : P2 = P := by
    refine List.ext_getElem (by rw [l2, hln]) (fun i h1 h2 => ?_)
    have hi : i < (risN l).length := by rw [hrl, ← hln]; exact h2
    have h3 := hone i hi
    rw [getD_map_nm _ _ _ hi, List.take_append_drop, hat i (by rw [← hln]; exact h2)] at h3
    rw [List.getD_eq_getElem?_getD, List.getElem?_eq_getElem h1, List.getD_eq_getElem?_getD, List.getElem?_eq_getElem h2] at h3
    simpa using h3
  have m2 := runS_perm (fOne (p / l.length) (risN l) ((risN l).map (lstd (risN l) P))) (fOne_perm _ _ _) (risN l) ((risN l).map (fun nm => (lstd (risN l) P nm).take (p / l.length))) s1
  rw [e2] at m2
  dsimp only at m2
  have t2 := m2.trans m1
  rw [hP2] at t2
  have hs2 : s2.1 = [] := by
    have h1 := t2.length_eq
    have h2 := hc.perm.length_eq
    rw [List.length_append] at h1
    exact List.eq_nil_of_length_eq_zero (by omega)
  obtain ⟨f1, f2⟩ := fill_none (p / l.length) (risN l) P2 s2 hs2
  rw [e3] at f1 f2
  dsimp only at f1 f2
  have f3 := last_none (p / l.length) (risN l) P3 s3 f2
  rw [e4] at f3
  rw [hst, f3, f1, hP2]
  refine (List.map_congr_left (fun q hq => risZ_of (hc.rise q hq))).trans ?_
  simp
end Go.Proofs.YtipgociofjokeaaGreat
