/- P1406 over plain data: with the same members nothing moves; who stays keeps what it had. -/
import Derived.Test.YtakpdhmfbgfblaaAMath
namespace Go.Proofs.Ytakpdhmfbgfblaa
open Go.RowKit

theorem pick_all : ∀ (ws xs acc : List Int), ws.Nodup → xs.Nodup → (∀ z ∈ ws, z ∈ xs) → (ws.foldl pickS (xs, acc)).2 = acc ++ ws ∧ (ws.foldl pickS (xs, acc)).1.Nodup ∧ ∀ z, z ∈ (ws.foldl pickS (xs, acc)).1 ↔ z ∈ xs ∧ z ∉ ws
  | [], xs, acc, _, hx, _ => ⟨by simp, hx, fun z => by simp⟩
  | w :: ws, xs, acc, hw, hx, hs => by
    obtain ⟨h1, h2⟩ := List.nodup_cons.1 hw
    have hm : w ∈ xs := hs w (by simp)
    have e : pickS (xs, acc) w = (xs.erase w, acc ++ [w]) := by
      unfold pickS
      rw [if_pos (by simpa using hm)]
    rw [List.foldl_cons, e]
    obtain ⟨k1, k2, k3⟩ := pick_all ws (xs.erase w) (acc ++ [w]) h2 (hx.erase w) (fun z hz => (hx.mem_erase_iff).2 ⟨fun e => h1 (e ▸ hz), hs z (by simp [hz])⟩)
    refine ⟨by rw [k1, List.append_assoc]; rfl, k2, fun z => ?_⟩
    rw [k3 z, hx.mem_erase_iff]
    simp only [List.mem_cons, not_or]
    constructor
    · rintro ⟨⟨a, b⟩, c⟩; exact ⟨b, a, c⟩
    · rintro ⟨b, a, c⟩; exact ⟨⟨a, b⟩, c⟩
theorem risZ_of {l : List Int} (h : l.Pairwise (· < ·)) : risZ l = l := List.mergeSort_of_pairwise (h.imp (fun h => by simp; omega))
/-- What of a deck is left when some are picked out of it. -/
theorem pickD_all {ws : List Int} {s : Dk} (hw : ws.Pairwise (· < ·)) (hx : s.1.Nodup) (hs : ∀ z ∈ ws, z ∈ s.1) : (pickD ws s).1 = ws ∧ (pickD ws s).2.2 = s.2 ∧ (pickD ws s).2.1.Nodup ∧ ∀ z, z ∈ (pickD ws s).2.1 ↔ z ∈ s.1 ∧ z ∉ ws := by
  obtain ⟨h1, h2, h3⟩ := pick_all ws s.1 [] (hw.imp (fun h e => by omega)) hx hs
  refine ⟨?_, rfl, h2, h3⟩
  show risZ (pickN s.1 ws).2 = ws
  have e : (pickN s.1 ws).2 = ws := h1
  rw [e]
  exact risZ_of hw
/-- Lists of their own for each name. -/
structure Apart (D : Nm → List Int) (names : List Nm) (xs : List Int) : Prop where
  rise : ∀ nm ∈ names, (D nm).Pairwise (· < ·)
  sub : ∀ nm ∈ names, ∀ z ∈ D nm, z ∈ xs
  apart : names.Pairwise (fun a b => ∀ z ∈ D a, z ∉ D b)
theorem Apart.tail {D : Nm → List Int} {nm : Nm} {names : List Nm} {xs ys : List Int} (h : Apart D (nm :: names) xs) (hy : ∀ z, z ∈ ys ↔ z ∈ xs ∧ z ∉ D nm) : Apart D names ys := by
  refine ⟨fun a ha => h.rise a (by simp [ha]), fun a ha z hz => (hy z).2 ⟨h.sub a (by simp [ha]) z hz, fun hm => ?_⟩, (List.pairwise_cons.1 h.apart).2⟩
  exact (List.pairwise_cons.1 h.apart).1 a ha z hm hz
theorem had_fold (ons : List Nm) (P : List (List Int)) : ∀ (names : List Nm) (xs : List Int) (acc : List (List Int)), xs.Nodup → Apart (lstd ons P) names xs → (names.foldl (hadS ons P) (xs, acc)).2 = acc ++ names.map (lstd ons P)
  | [], xs, acc, _, _ => by simp
  | nm :: names, xs, acc, hx, h => by
    have hr := h.rise nm (by simp)
    obtain ⟨h1, h2, h3⟩ := pick_all (lstd ons P nm) xs [] (hr.imp (fun h e => by omega)) hx (h.sub nm (by simp))
    have e1 : (pickN xs (lstd ons P nm)).2 = lstd ons P nm := h1
    have ih := had_fold ons P names (pickN xs (lstd ons P nm)).1 (acc ++ [risZ (pickN xs (lstd ons P nm)).2]) h2 (h.tail h3)
    rw [List.foldl_cons]
    show (names.foldl (hadS ons P) ((pickN xs (lstd ons P nm)).1, acc ++ [risZ (pickN xs (lstd ons P nm)).2])).2 = _
    rw [ih, e1, risZ_of hr]
    simp
theorem lstd_map (D : Nm → List Int) : ∀ (names : List Nm) (nm : Nm), nm ∈ names → lstd names (names.map D) nm = D nm
  | [], _, h => by cases h
  | a :: names, nm, h => by
    show (if a = nm then D a else lstd names (names.map D) nm) = D nm
    by_cases e : a = nm
    · rw [if_pos e, e]
    · rw [if_neg e]
      exact lstd_map D names nm ((List.mem_cons.1 h).resolve_left (fun h => e h.symm))
/-- The first step: each has what it had, base of it at most. -/
theorem keep_exact (b : Nat) (hs : List Nm) (HP : List (List Int)) (D : Nm → List Int) : ∀ (names : List Nm) (s : Dk), (∀ nm ∈ names, lstd hs HP nm = D nm) → s.1.Nodup → Apart D names s.1 →
    (runS (fKeep b hs HP) s names (List.replicate names.length [])).2 = names.map (fun nm => (D nm).take b) ∧ (runS (fKeep b hs HP) s names (List.replicate names.length [])).1.2 = s.2 ∧ (runS (fKeep b hs HP) s names (List.replicate names.length [])).1.1.Nodup ∧ ∀ z, z ∈ (runS (fKeep b hs HP) s names (List.replicate names.length [])).1.1 ↔ z ∈ s.1 ∧ ∀ nm ∈ names, z ∉ (D nm).take b
  | [], s, _, hx, _ => ⟨rfl, rfl, hx, fun z => by show z ∈ s.1 ↔ _; simp⟩
  | nm :: names, s, hl, hx, h => by
    have ht : ((D nm).take b).Pairwise (· < ·) := (h.rise nm (by simp)).sublist (List.take_sublist _ _)
    obtain ⟨p1, p2, p3, p4⟩ := pickD_all (s := s) ht hx (fun z hz => h.sub nm (by simp) z (List.mem_of_mem_take hz))
    have e0 : fKeep b hs HP s nm 0 = pickD ((D nm).take b) s := by unfold fKeep; rw [hl nm (by simp)]
    have hA : Apart D names (pickD ((D nm).take b) s).2.1 := by
      refine ⟨fun a ha => h.rise a (by simp [ha]), fun a ha z hz => (p4 z).2 ⟨h.sub a (by simp [ha]) z hz, fun hm => ?_⟩, (List.pairwise_cons.1 h.apart).2⟩
      exact (List.pairwise_cons.1 h.apart).1 a ha z (List.mem_of_mem_take hm) hz
    obtain ⟨i1, i2, i3, i4⟩ := keep_exact b hs HP D names (pickD ((D nm).take b) s).2 (fun a ha => hl a (by simp [ha])) p3 hA
    rw [List.length_cons, List.replicate_succ]
    have er : runS (fKeep b hs HP) s (nm :: names) ([] :: List.replicate names.length []) = ((runS (fKeep b hs HP) (pickD ((D nm).take b) s).2 names (List.replicate names.length [])).1, ([] ++ (pickD ((D nm).take b) s).1) :: (runS (fKeep b hs HP) (pickD ((D nm).take b) s).2 names (List.replicate names.length [])).2) := by
      show ((runS (fKeep b hs HP) (fKeep b hs HP s nm 0).2 names _).1, ([] ++ (fKeep b hs HP s nm 0).1) :: (runS (fKeep b hs HP) (fKeep b hs HP s nm 0).2 names _).2) = _
      rw [e0]
    rw [er]
    refine ⟨?_, i2.trans p2, i3, fun z => ?_⟩
    · show ([] ++ (pickD ((D nm).take b) s).1) :: _ = _
      rw [i1, p1, List.nil_append]
      rfl
    · show z ∈ (runS (fKeep b hs HP) (pickD ((D nm).take b) s).2 names (List.replicate names.length [])).1.1 ↔ _
      rw [i4 z, p4 z]
      simp only [List.mem_cons, forall_eq_or_imp]
      constructor
      · rintro ⟨⟨a, b⟩, c⟩; exact ⟨a, b, c⟩
      · rintro ⟨a, b, c⟩; exact ⟨⟨a, b⟩, c⟩
/-- Whatever a step does, each keeps what it has. -/
theorem run_grow (f : Stp Dk) : ∀ (ns : List Nm) (P : List (List Int)) (s : Dk) (i : Nat), i < P.length → ∃ m, (runS f s ns P).2.getD i [] = P.getD i [] ++ m
  | [], P, s, i, _ => ⟨[], by show P.getD i [] = _; simp⟩
  | _ :: _, [], s, i, h => by simp at h
  | nm :: ns, q :: P, s, 0, _ => ⟨_, rfl⟩
  | nm :: ns, q :: P, s, i + 1, h => by
    obtain ⟨m, hm⟩ := run_grow f ns P (f s nm q.length).2 i (by simpa using h)
    exact ⟨m, by simpa [runS] using hm⟩
/-- The second step, where there is one more for each that had more. -/
theorem one_exact (b : Nat) (hs : List Nm) (HP : List (List Int)) (D : Nm → List Int) : ∀ (names : List Nm) (P : List (List Int)) (s : Dk), P.length = names.length → (∀ nm ∈ names, lstd hs HP nm = D nm) → (∀ nm ∈ names, (D nm).length ≤ b + 1) → s.1.Nodup → Apart (fun nm => (D nm).drop b) names s.1 → names.countP (fun nm => decide (b < (D nm).length)) ≤ s.2 →
    ∀ i, i < names.length → (runS (fOne b hs HP) s names P).2.getD i [] = P.getD i [] ++ (D (names.getD i [])).drop b
  | [], _, _, _, _, _, _, _, _, i, h => by simp at h
  | nm :: names, [], _, hl, _, _, _, _, _, _, _ => by simp at hl
  | nm :: names, q :: P, s, hl, hd, hlen, hx, h, hc, i, hi => by
    have hdn := hd nm (by simp)
    have hln := hlen nm (by simp)
    rw [List.countP_cons] at hc
    by_cases hbig : b < (D nm).length
    · rw [if_pos (by simpa using hbig)] at hc
      have ht : (((D nm).drop b).take 1) = (D nm).drop b := List.take_of_length_le (by rw [List.length_drop]; omega)
      have e0 : fOne b hs HP s nm q.length = pickD ((D nm).drop b) (s.1, s.2 - 1) := by
        unfold fOne
        rw [hdn, if_neg (by omega), ht]
      obtain ⟨p1, p2, p3, p4⟩ := pickD_all (ws := (D nm).drop b) (s := (s.1, s.2 - 1)) (h.rise nm (by simp)) hx (h.sub nm (by simp))
      cases i with
      | zero =>
        show q ++ (fOne b hs HP s nm q.length).1 = q ++ (D nm).drop b
        rw [e0, p1]
      | succ i =>
        have hA : Apart (fun nm => (D nm).drop b) names (pickD ((D nm).drop b) (s.1, s.2 - 1)).2.1 := h.tail p4
        have ih := one_exact b hs HP D names P (pickD ((D nm).drop b) (s.1, s.2 - 1)).2 (by simpa using hl) (fun a ha => hd a (by simp [ha])) (fun a ha => hlen a (by simp [ha])) p3 hA (by rw [p2]; show _ ≤ s.2 - 1; omega) i (by simpa using hi)
        show (runS (fOne b hs HP) (fOne b hs HP s nm q.length).2 names P).2.getD i [] = P.getD i [] ++ (D (names.getD i [])).drop b
        rw [e0]
        exact ih
    · rw [if_neg (by simpa using hbig)] at hc
      have e0 : fOne b hs HP s nm q.length = ([], s) := by
        unfold fOne
        rw [hdn, if_pos (Or.inl (by omega))]
      have hz : (D nm).drop b = [] := List.drop_of_length_le (by omega)
      cases i with
      | zero =>
        show q ++ (fOne b hs HP s nm q.length).1 = q ++ (D nm).drop b
        rw [e0, hz]
      | succ i =>
        have hA : Apart (fun nm => (D nm).drop b) names s.1 := h.tail (fun z => by show z ∈ s.1 ↔ z ∈ s.1 ∧ z ∉ (D nm).drop b; rw [hz]; simp)
        have ih := one_exact b hs HP D names P s (by simpa using hl) (fun a ha => hd a (by simp [ha])) (fun a ha => hlen a (by simp [ha])) hx hA (by omega) i (by simpa using hi)
        show (runS (fOne b hs HP) (fOne b hs HP s nm q.length).2 names P).2.getD i [] = P.getD i [] ++ (D (names.getD i [])).drop b
        rw [e0]
        exact ih
theorem lstd_or : ∀ (ns : List Nm) (P : List (List Int)) (nm : Nm), lstd ns P nm = [] ∨ lstd ns P nm ∈ P
  | [], _, _ => Or.inl rfl
  | _ :: _, [], _ => Or.inl rfl
  | n :: ns, q :: P, nm => by
    show (if n = nm then q else lstd ns P nm) = [] ∨ (if n = nm then q else lstd ns P nm) ∈ q :: P
    by_cases e : n = nm
    · rw [if_pos e]; exact Or.inr (by simp)
    · rw [if_neg e]
      rcases lstd_or ns P nm with h | h
      · exact Or.inl h
      · exact Or.inr (by simp [h])
theorem lstd_mem {ns : List Nm} {P : List (List Int)} {nm : Nm} {z : Int} (h : z ∈ lstd ns P nm) : z ∈ P.flatten := by
  rcases lstd_or ns P nm with e | e
  · rw [e] at h; cases h
  · exact List.mem_flatten.2 ⟨_, e, h⟩
theorem lstd_apart : ∀ (ns : List Nm) (P : List (List Int)) (a b : Nm), P.flatten.Nodup → a ≠ b → ∀ z ∈ lstd ns P a, z ∉ lstd ns P b
  | [], _, _, _, _, _, z, h => by cases h
  | _ :: _, [], _, _, _, _, z, h => by cases h
  | n :: ns, q :: P, a, b, hn, hab, z, h => by
    have hn' : (q ++ P.flatten).Nodup := hn
    obtain ⟨h1, h2, h3⟩ := List.nodup_append.1 hn'
    have ha : lstd (n :: ns) (q :: P) a = if n = a then q else lstd ns P a := rfl
    have hb : lstd (n :: ns) (q :: P) b = if n = b then q else lstd ns P b := rfl
    rw [ha] at h
    rw [hb]
    by_cases ea : n = a
    · rw [if_pos ea] at h
      rw [if_neg (fun e => hab (ea.symm.trans e))]
      intro hm
      exact h3 z h z (lstd_mem hm) rfl
    · rw [if_neg ea] at h
      by_cases eb : n = b
      · rw [if_pos eb]
        intro hm
        exact h3 z hm z (lstd_mem h) rfl
      · rw [if_neg eb]
        exact lstd_apart ns P a b h2 hab z h
/-- What a covering gave lies apart for all names. -/
theorem cov_apart {ns : List Nm} {P : List (List Int)} {p : Nat} (h : CovP P p) (names : List Nm) (hn : names.Nodup) : Apart (lstd ns P) names (allP p) := by
  have hnd : P.flatten.Nodup := h.perm.nodup_iff.2 (allP_nodup p)
  refine ⟨fun nm _ => ?_, fun nm _ z hz => h.perm.mem_iff.1 (lstd_mem hz), hn.imp (fun hab => lstd_apart ns P _ _ hnd hab)⟩
  rcases lstd_or ns P nm with e | e
  · rw [e]; exact List.Pairwise.nil
  · exact h.rise _ e
end Go.Proofs.Ytakpdhmfbgfblaa
