/- P1405 over plain data: what Range and Sticky give covers all partitions, evenly. -/
import Derived.Test.YtakpdhmfbgfblaaASticky
namespace Go.Proofs.Ytakpdhmfbgfblaa
open Go.RowKit

/-- A step with all members, one behind the other. -/
def runS (f : Stp Dk) : Dk → List Nm → List (List Int) → Dk × List (List Int)
  | s, nm :: ns, q :: P => ((runS f (f s nm q.length).2 ns P).1, (q ++ (f s nm q.length).1) :: (runS f (f s nm q.length).2 ns P).2)
  | s, _, P => (s, P)
theorem stp_succ (f : Stp Dk) (nm : Nm) (ns : List Nm) (s : Dk) (q : List Int) (P : List (List Int)) (i : Nat) : stp f (nm :: ns) (s, q :: P) (i + 1) = ((stp f ns (s, P) i).1, q :: (stp f ns (s, P) i).2) := by
  simp [stp]
theorem fold_succ (f : Stp Dk) (nm : Nm) (ns : List Nm) (q : List Int) : ∀ (is : List Nat) (s : Dk) (P : List (List Int)), (is.map (· + 1)).foldl (stp f (nm :: ns)) (s, q :: P) = ((is.foldl (stp f ns) (s, P)).1, q :: (is.foldl (stp f ns) (s, P)).2)
  | [], s, P => rfl
  | i :: is, s, P => by
    rw [List.map_cons, List.foldl_cons, stp_succ, List.foldl_cons]
    exact fold_succ f nm ns q is _ _
theorem allS_run (f : Stp Dk) : ∀ (ns : List Nm) (P : List (List Int)) (s : Dk), ns.length = P.length → allS f ns (s, P) ns.length = runS f s ns P
  | [], [], s, _ => rfl
  | nm :: ns, q :: P, s, h => by
    unfold allS
    rw [List.length_cons, List.range_succ_eq_map, List.foldl_cons]
    have e0 : stp f (nm :: ns) (s, q :: P) 0 = ((f s nm q.length).2, (q ++ (f s nm q.length).1) :: P) := by simp [stp]
    rw [e0, show List.map Nat.succ (List.range ns.length) = (List.range ns.length).map (· + 1) from rfl, fold_succ]
    have ih := allS_run f ns P (f s nm q.length).2 (by simpa using h)
    unfold allS at ih
    rw [ih]
    rfl
  | [], _ :: _, _, h => by simp at h
  | _ :: _, [], _, h => by simp at h
theorem runS_len (f : Stp Dk) : ∀ (ns : List Nm) (P : List (List Int)) (s : Dk), (runS f s ns P).2.length = P.length
  | [], _, _ => rfl
  | _ :: _, [], _ => rfl
  | nm :: ns, q :: P, s => by show (runS f _ ns P).2.length + 1 = _; rw [runS_len f ns P]; rfl
/-- Nothing is lost. -/
theorem runS_perm (f : Stp Dk) (hf : ∀ s nm m, ((f s nm m).1 ++ (f s nm m).2.1).Perm s.1) : ∀ (ns : List Nm) (P : List (List Int)) (s : Dk), ((runS f s ns P).2.flatten ++ (runS f s ns P).1.1).Perm (P.flatten ++ s.1)
  | [], _, _ => List.Perm.refl _
  | _ :: _, [], _ => List.Perm.refl _
  | nm :: ns, q :: P, s => by
    show (((q ++ (f s nm q.length).1) ++ (runS f (f s nm q.length).2 ns P).2.flatten) ++ (runS f (f s nm q.length).2 ns P).1.1).Perm ((q ++ P.flatten) ++ s.1)
    have ih := runS_perm f hf ns P (f s nm q.length).2
    have h := hf s nm q.length
    rw [List.append_assoc, List.append_assoc, List.append_assoc]
    refine List.Perm.append_left q ?_
    refine (List.Perm.append_left _ ih).trans ?_
    refine List.perm_append_comm_assoc _ _ _ |>.trans ?_
    exact List.Perm.append_left _ h
theorem erase_perm {z : Int} {xs : List Int} (h : z ∈ xs) : (z :: xs.erase z).Perm xs := (List.perm_cons_erase h).symm
theorem pickS_perm (s : List Int × List Int) (z : Int) : ((pickS s z).2 ++ (pickS s z).1).Perm (s.2 ++ s.1) := by
  unfold pickS
  by_cases h : s.1.contains z = true
  · rw [if_pos h]
    have hm : z ∈ s.1 := by simpa using h
    show ((s.2 ++ [z]) ++ s.1.erase z).Perm _
    rw [List.append_assoc]
    exact List.Perm.append_left _ (erase_perm hm)
  · rw [if_neg h]
theorem fold_perm (ws : List Int) (s : List Int × List Int) : ((ws.foldl pickS s).2 ++ (ws.foldl pickS s).1).Perm (s.2 ++ s.1) := by
  induction ws generalizing s with
  | nil => exact List.Perm.refl _
  | cons z ws ih => rw [List.foldl_cons]; exact (ih _).trans (pickS_perm s z)
theorem pickD_perm (ws : List Int) (s : Dk) : ((pickD ws s).1 ++ (pickD ws s).2.1).Perm s.1 := by
  have h := fold_perm ws (s.1, [])
  show (risZ (pickN s.1 ws).2 ++ (pickN s.1 ws).1).Perm s.1
  exact (List.Perm.append_right _ (risZ_perm _)).trans (by simpa [pickN] using h)
theorem pickS_few (s : List Int × List Int) (z : Int) : (pickS s z).2.length ≤ s.2.length + 1 := by
  unfold pickS; split <;> simp
theorem fold_few (ws : List Int) (s : List Int × List Int) : (ws.foldl pickS s).2.length ≤ s.2.length + ws.length := by
  induction ws generalizing s with
  | nil => simp
  | cons z ws ih => rw [List.foldl_cons, List.length_cons]; have := ih (pickS s z); have := pickS_few s z; omega
theorem pickD_few (ws : List Int) (s : Dk) : (pickD ws s).1.length ≤ ws.length := by
  show (risZ (pickN s.1 ws).2).length ≤ _
  rw [risZ_len]
  have := fold_few ws (s.1, [])
  simpa [pickN] using this
theorem drawN_perm (n : Int) (s : Dk) : ((drawN n s).1 ++ (drawN n s).2.1).Perm s.1 := by
  show (s.1.take _ ++ s.1.drop _).Perm s.1
  rw [List.take_append_drop]
theorem fKeep_perm (b : Nat) (ns : List Nm) (P : List (List Int)) (s : Dk) (nm : Nm) (m : Nat) : ((fKeep b ns P s nm m).1 ++ (fKeep b ns P s nm m).2.1).Perm s.1 := pickD_perm _ _
theorem fOne_perm (b : Nat) (ns : List Nm) (P : List (List Int)) (s : Dk) (nm : Nm) (m : Nat) : ((fOne b ns P s nm m).1 ++ (fOne b ns P s nm m).2.1).Perm s.1 := by
  unfold fOne; split
  · exact List.Perm.refl _
  · exact pickD_perm _ (s.1, s.2 - 1)
theorem fRange_perm (b : Nat) (s : Dk) (nm : Nm) (m : Nat) : ((fRange b s nm m).1 ++ (fRange b s nm m).2.1).Perm s.1 := by
  unfold fRange; split
  · exact drawN_perm _ _
  · exact drawN_perm _ (s.1, s.2 - 1)
/-- How many have more than base. -/
def overs (b : Nat) (P : List (List Int)) : Nat := P.countP (fun q => decide (b < q.length))
/-- How many lack to base. -/
def lacks (b : Nat) (P : List (List Int)) : Nat := (P.map (fun q => b - q.length)).sum
theorem keep_run (b : Nat) (hs : List Nm) (HP : List (List Int)) : ∀ (ns : List Nm) (P : List (List Int)) (s : Dk), (∀ q ∈ P, q = []) → (∀ q ∈ (runS (fKeep b hs HP) s ns P).2, q.length ≤ b) ∧ (runS (fKeep b hs HP) s ns P).1.2 = s.2
  | [], P, s, h => ⟨fun q hq => by rw [h q hq]; simp, rfl⟩
  | _ :: _, [], s, h => ⟨(fun q hq => by cases hq), rfl⟩
  | nm :: ns, q :: P, s, h => by
    obtain ⟨h1, h2⟩ := keep_run b hs HP ns P (fKeep b hs HP s nm q.length).2 (fun q hq => h q (List.mem_cons_of_mem _ hq))
    refine ⟨fun x hx => ?_, h2⟩
    rcases List.mem_cons.1 (show x ∈ (q ++ (fKeep b hs HP s nm q.length).1) :: _ from hx) with rfl | hx
    · rw [h q (by simp), List.nil_append]
      have := pickD_few ((lstd hs HP nm).take b) s
      rw [List.length_take] at this
      exact Nat.le_trans this (by omega)
    · exact h1 x hx
theorem one_run (b : Nat) (hs : List Nm) (HP : List (List Int)) : ∀ (ns : List Nm) (P : List (List Int)) (s : Dk), (∀ q ∈ P, q.length ≤ b) → (∀ q ∈ (runS (fOne b hs HP) s ns P).2, q.length ≤ b + 1) ∧ overs b (runS (fOne b hs HP) s ns P).2 + (runS (fOne b hs HP) s ns P).1.2 ≤ s.2
  | [], P, s, h => ⟨fun q hq => by have := h q hq; omega, by
      show overs b P + s.2 ≤ s.2
      have : overs b P = 0 := List.countP_eq_zero.2 (fun q hq => by have := h q hq; simp; omega)
      omega⟩
  | _ :: _, [], s, h => ⟨(fun q hq => by cases hq), by show 0 + s.2 ≤ s.2; omega⟩
  | nm :: ns, q :: P, s, h => by
    obtain ⟨h1, h2⟩ := one_run b hs HP ns P (fOne b hs HP s nm q.length).2 (fun q hq => h q (List.mem_cons_of_mem _ hq))
    have hq := h q (by simp)
    have hf : (fOne b hs HP s nm q.length).1.length ≤ 1 ∧ (fOne b hs HP s nm q.length).1.length + (fOne b hs HP s nm q.length).2.2 ≤ s.2 := by
      unfold fOne
      split
      · exact ⟨by simp, by simp⟩
      · rename_i hc
        have h3 := pickD_few (((lstd hs HP nm).drop b).take 1) (s.1, s.2 - 1)
        have h4 : (((lstd hs HP nm).drop b).take 1).length ≤ 1 := by rw [List.length_take]; omega
        have h5 : (pickD (((lstd hs HP nm).drop b).take 1) (s.1, s.2 - 1)).2.2 = s.2 - 1 := rfl
        exact ⟨by omega, by omega⟩
    refine ⟨fun x hx => ?_, ?_⟩
    · rcases List.mem_cons.1 (show x ∈ (q ++ (fOne b hs HP s nm q.length).1) :: _ from hx) with rfl | hx
      · rw [List.length_append]; omega
      · exact h1 x hx
    · show overs b ((q ++ (fOne b hs HP s nm q.length).1) :: (runS (fOne b hs HP) (fOne b hs HP s nm q.length).2 ns P).2) + (runS (fOne b hs HP) (fOne b hs HP s nm q.length).2 ns P).1.2 ≤ s.2
      have h6 : overs b ((q ++ (fOne b hs HP s nm q.length).1) :: (runS (fOne b hs HP) (fOne b hs HP s nm q.length).2 ns P).2) ≤ overs b (runS (fOne b hs HP) (fOne b hs HP s nm q.length).2 ns P).2 + (fOne b hs HP s nm q.length).1.length := by
        unfold overs
        rw [List.countP_cons]
        split
        · rename_i hc
          simp only [List.length_append, decide_eq_true_eq] at hc
          omega
        · omega
      omega
theorem fill_run (b : Nat) : ∀ (ns : List Nm) (P : List (List Int)) (s : Dk), ns.length = P.length → (∀ q ∈ P, q.length ≤ b + 1) → lacks b P ≤ s.1.length → (∀ q ∈ (runS (fFill b) s ns P).2, b ≤ q.length ∧ q.length ≤ b + 1) ∧ overs b (runS (fFill b) s ns P).2 = overs b P
  | [], [], s, _, _, _ => ⟨(fun q hq => by cases hq), rfl⟩
  | [], _ :: _, _, h, _, _ => by simp at h
  | _ :: _, [], _, h, _, _ => by simp at h
  | nm :: ns, q :: P, s, hl, h, hn => by
    have hq := h q (by simp)
    have hlk : lacks b (q :: P) = (b - q.length) + lacks b P := by simp [lacks]
    have hk : drawK ((b : Int) - (q.length : Int)) s.1.length = b - q.length := by unfold drawK; omega
    have hg : (fFill b s nm q.length).1.length = b - q.length := by
      show (s.1.take (drawK _ _)).length = _
      rw [hk, List.length_take]; omega
    have hd : (fFill b s nm q.length).2.1.length = s.1.length - (b - q.length) := by
      show (s.1.drop (drawK _ _)).length = _
      rw [hk, List.length_drop]
    obtain ⟨h1, h2⟩ := fill_run b ns P (fFill b s nm q.length).2 (by simpa using hl) (fun q hq => h q (List.mem_cons_of_mem _ hq)) (by omega)
    refine ⟨fun x hx => ?_, ?_⟩
    · rcases List.mem_cons.1 (show x ∈ (q ++ (fFill b s nm q.length).1) :: _ from hx) with rfl | hx
      · rw [List.length_append, hg]; omega
      · exact h1 x hx
    · show overs b ((q ++ (fFill b s nm q.length).1) :: (runS (fFill b) (fFill b s nm q.length).2 ns P).2) = _
      unfold overs at h2 ⊢
      rw [List.countP_cons, List.countP_cons, h2]
      congr 1
      have : (decide (b < (q ++ (fFill b s nm q.length).1).length)) = decide (b < q.length) := by
        rw [List.length_append, hg]
        by_cases e : b < q.length
        · simp [e]; omega
        · have : ¬ b < q.length + (b - q.length) := by omega
          simp [e, this]
      rw [this]
theorem last_run (b : Nat) : ∀ (ns : List Nm) (P : List (List Int)) (s : Dk), ns.length = P.length → (∀ q ∈ P, b ≤ q.length ∧ q.length ≤ b + 1) → s.1.length + overs b P ≤ P.length → (∀ q ∈ (runS (fLast b) s ns P).2, b ≤ q.length ∧ q.length ≤ b + 1) ∧ (runS (fLast b) s ns P).1.1 = []
  | [], [], s, _, _, h => ⟨(fun q hq => by cases hq), List.eq_nil_of_length_eq_zero (by show s.1.length = 0; simp [overs] at h; simp [h])⟩
  | [], _ :: _, _, h, _, _ => by simp at h
  | _ :: _, [], _, h, _, _ => by simp at h
  | nm :: ns, q :: P, s, hl, h, hn => by
    have hq := h q (by simp)
    have ho : overs b (q :: P) = overs b P + if b < q.length then 1 else 0 := by unfold overs; rw [List.countP_cons]; simp
    have hd : (fLast b s nm q.length).2.1.length = s.1.length - drawK ((b : Int) + 1 - (q.length : Int)) s.1.length := by
      show (s.1.drop (drawK _ _)).length = _
      rw [List.length_drop]
    have hg : (fLast b s nm q.length).1.length = drawK ((b : Int) + 1 - (q.length : Int)) s.1.length := by
      show (s.1.take (drawK _ _)).length = _
      rw [List.length_take]; unfold drawK; omega
    have hk : drawK ((b : Int) + 1 - (q.length : Int)) s.1.length = min (b + 1 - q.length) s.1.length := by unfold drawK; omega
    rw [ho, List.length_cons] at hn
    obtain ⟨h1, h2⟩ := last_run b ns P (fLast b s nm q.length).2 (by simpa using hl) (fun q hq => h q (List.mem_cons_of_mem _ hq)) (by
      rw [hd, hk]
      have hov : overs b P ≤ P.length := List.countP_le_length
      split at hn <;> omega)
    refine ⟨fun x hx => ?_, h2⟩
    rcases List.mem_cons.1 (show x ∈ (q ++ (fLast b s nm q.length).1) :: _ from hx) with rfl | hx
    · rw [List.length_append, hg, hk]; omega
    · exact h1 x hx
theorem lacks_le (b : Nat) : ∀ (P : List (List Int)), (∀ q ∈ P, q.length ≤ b + 1) → lacks b P + P.flatten.length ≤ P.length * b + overs b P
  | [], _ => by simp [lacks, overs]
  | q :: P, h => by
    have ih := lacks_le b P (fun q hq => h q (List.mem_cons_of_mem _ hq))
    have hq := h q (by simp)
    have e1 : lacks b (q :: P) = (b - q.length) + lacks b P := by simp [lacks]
    have e2 : (q :: P).flatten.length = q.length + P.flatten.length := by simp
    have e3 : overs b (q :: P) = overs b P + if b < q.length then 1 else 0 := by unfold overs; rw [List.countP_cons]; simp
    rw [e1, e2, e3, List.length_cons, Nat.add_mul]
    split <;> omega
theorem even_len (b : Nat) : ∀ (P : List (List Int)), (∀ q ∈ P, b ≤ q.length ∧ q.length ≤ b + 1) → P.flatten.length = P.length * b + overs b P
  | [], _ => by simp [overs]
  | q :: P, h => by
    have ih := even_len b P (fun q hq => h q (List.mem_cons_of_mem _ hq))
    have hq := h q (by simp)
    have e2 : (q :: P).flatten.length = q.length + P.flatten.length := by simp
    have e3 : overs b (q :: P) = overs b P + if b < q.length then 1 else 0 := by unfold overs; rw [List.countP_cons]; simp
    rw [e2, e3, List.length_cons, Nat.add_mul, ih]
    split <;> omega
/-- All partitions, once each, rising in each share, and no share has two more than another. -/
structure CovP (P : List (List Int)) (p : Nat) : Prop where
  perm : P.flatten.Perm (allP p)
  rise : ∀ q ∈ P, q.Pairwise (· < ·)
  even : ∃ b, ∀ q ∈ P, b ≤ q.length ∧ q.length ≤ b + 1
theorem flatten_ris : ∀ (P : List (List Int)), (P.map risZ).flatten.Perm P.flatten
  | [] => List.Perm.refl _
  | q :: P => by
    show (risZ q ++ (P.map risZ).flatten).Perm (q ++ P.flatten)
    exact (List.Perm.append_right _ (risZ_perm q)).trans (List.Perm.append_left _ (flatten_ris P))
theorem lt_of_le {l : List Int} (h1 : l.Pairwise (· ≤ ·)) (h2 : l.Nodup) : l.Pairwise (· < ·) :=
  (h1.and h2).imp (fun h => by have := h.1; have := h.2; omega)
theorem sub_flatten {P : List (List Int)} {q : List Int} (h : q ∈ P) : q.Sublist P.flatten := by
  induction P with
  | nil => cases h
  | cons x P ih =>
    rcases List.mem_cons.1 h with rfl | h
    · exact List.sublist_append_left _ _
    · exact (ih h).trans (List.sublist_append_right _ _)
theorem allP_nodup (p : Nat) : (allP p).Nodup := (allP_rise p).imp (fun h e => by omega)
theorem cov_ris {P : List (List Int)} {p b : Nat} (h : P.flatten.Perm (allP p)) (he : ∀ q ∈ P, b ≤ q.length ∧ q.length ≤ b + 1) : CovP (P.map risZ) p := by
  have hn : P.flatten.Nodup := h.nodup_iff.2 (allP_nodup p)
  refine ⟨(flatten_ris P).trans h, fun q hq => ?_, b, fun q hq => ?_⟩
  · obtain ⟨x, hx, rfl⟩ := List.mem_map.1 hq
    exact lt_of_le (risZ_sorted x) ((risZ_perm x).nodup_iff.2 (hn.sublist (sub_flatten hx)))
  · obtain ⟨x, hx, rfl⟩ := List.mem_map.1 hq
    rw [risZ_len]
    exact he x hx
theorem repl_nil (n : Nat) : ∀ q ∈ (List.replicate n [] : List (List Int)), q = [] := fun _ hq => (List.mem_replicate.1 hq).2
theorem repl_flat (n : Nat) : (List.replicate n [] : List (List Int)).flatten = [] := by induction n with
  | zero => rfl
  | succ n ih => rw [List.replicate_succ]; simp
/-- P1405 of Sticky. -/
theorem sticky_cov (ons : List Nm) (OP : List (List Int)) (l : List Nm) (p : Nat) (hl : l ≠ []) : CovP (stickyP ons OP l p) p := by
  unfold stickyP
  have hn : 0 < l.length := List.length_pos_iff.2 hl
  obtain ⟨n, hnn⟩ : ∃ n, l.length = n := ⟨_, rfl⟩
  obtain ⟨ns, hns⟩ : ∃ ns, risN l = ns := ⟨_, rfl⟩
  have hnl : ns.length = n := by rw [← hns, risN_len]; exact hnn
  rw [hnn, hns]
  rw [hnn] at hn
  obtain ⟨HP, hHP⟩ : ∃ HP, (hadN ons OP (allP p) ns).2 = HP := ⟨_, rfl⟩
  rw [hHP]
  obtain ⟨b, hb⟩ : ∃ b, p / n = b := ⟨_, rfl⟩
  obtain ⟨r, hr⟩ : ∃ r, p % n = r := ⟨_, rfl⟩
  have hrl : r < n := by rw [← hr]; exact Nat.mod_lt _ hn
  have hpe : p = n * b + r := by rw [← hb, ← hr]; exact (Nat.div_add_mod p n).symm
  rw [hb, hr]
  show CovP ((allS (fLast b) ns (allS (fFill b) ns (allS (fOne b ns HP) ns (allS (fKeep b ns HP) ns ((allP p, r), List.replicate n []) ns.length) ns.length) ns.length) ns.length).2.map risZ) p
  rw [allS_run (fKeep b ns HP) ns _ _ (by simp [hnl])]
  obtain ⟨⟨s1, P1⟩, e1⟩ : ∃ t, runS (fKeep b ns HP) (allP p, r) ns (List.replicate n []) = t := ⟨_, rfl⟩
  have k1 := keep_run b ns HP ns (List.replicate n []) (allP p, r) (repl_nil n)
  have m1 := runS_perm (fKeep b ns HP) (fKeep_perm b ns HP) ns (List.replicate n []) (allP p, r)
  have l1 := runS_len (fKeep b ns HP) ns (List.replicate n []) (allP p, r)
  rw [e1] at k1 m1 l1 ⊢
  rw [allS_run (fOne b ns HP) ns P1 s1 (by rw [hnl]; simpa using l1.symm)]
  obtain ⟨⟨s2, P2⟩, e2⟩ : ∃ t, runS (fOne b ns HP) s1 ns P1 = t := ⟨_, rfl⟩
  have k2 := one_run b ns HP ns P1 s1 k1.1
  have m2 := runS_perm (fOne b ns HP) (fOne_perm b ns HP) ns P1 s1
  have l2 := runS_len (fOne b ns HP) ns P1 s1
  rw [e2] at k2 m2 l2 ⊢
  rw [allS_run (fFill b) ns P2 s2 (by rw [hnl, l2]; simpa using l1.symm)]
  obtain ⟨⟨s3, P3⟩, e3⟩ : ∃ t, runS (fFill b) s2 ns P2 = t := ⟨_, rfl⟩
  have hP2 : P2.length = n := by rw [l2]; simpa using l1
  have t2 : (P2.flatten ++ s2.1).Perm (allP p) := m2.trans (m1.trans (by rw [repl_flat]; exact List.Perm.refl _))
  have c2 : P2.flatten.length + s2.1.length = p := by have := t2.length_eq; rw [List.length_append, allP_len] at this; exact this
  have hr1 : s1.2 = r := k1.2
  have w2 := lacks_le b P2 k2.1
  have k3 := fill_run b ns P2 s2 (by rw [hnl, hP2]) k2.1 (by rw [hP2] at w2; have := k2.2; simp only at this; omega)
  have m3 := runS_perm (fFill b) (fun s nm m => drawN_perm _ s) ns P2 s2
  have l3 := runS_len (fFill b) ns P2 s2
  rw [e3] at k3 m3 l3 ⊢
  rw [allS_run (fLast b) ns P3 s3 (by rw [hnl, l3, hP2])]
  obtain ⟨⟨s4, P4⟩, e4⟩ : ∃ t, runS (fLast b) s3 ns P3 = t := ⟨_, rfl⟩
  have hP3 : P3.length = n := by rw [l3]; exact hP2
  have t3 : (P3.flatten ++ s3.1).Perm (allP p) := m3.trans t2
  have c3 : P3.flatten.length + s3.1.length = p := by have := t3.length_eq; rw [List.length_append, allP_len] at this; exact this
  have w3 := even_len b P3 k3.1
  have k4 := last_run b ns P3 s3 (by rw [hnl, hP3]) k3.1 (by rw [hP3] at w3 ⊢; omega)
  have m4 := runS_perm (fLast b) (fun s nm m => drawN_perm _ s) ns P3 s3
  rw [e4] at k4 m4 ⊢
  refine cov_ris (b := b) ?_ k4.1
  have t4 := m4.trans t3
  rw [k4.2, List.append_nil] at t4
  exact t4
theorem range_run (b : Nat) : ∀ (ns : List Nm) (P : List (List Int)) (s : Dk), ns.length = P.length → (∀ q ∈ P, q = []) → s.2 ≤ ns.length → s.1.length = ns.length * b + s.2 → (∀ q ∈ (runS (fRange b) s ns P).2, b ≤ q.length ∧ q.length ≤ b + 1) ∧ (runS (fRange b) s ns P).1.1 = []
  | [], [], s, _, _, h1, h2 => ⟨(fun q hq => by cases hq), List.eq_nil_of_length_eq_zero (by show s.1.length = 0; simp at h1 h2; omega)⟩
  | [], _ :: _, _, h, _, _, _ => by simp at h
  | _ :: _, [], _, h, _, _, _ => by simp at h
  | nm :: ns, q :: P, s, hl, h, h1, h2 => by
    rw [List.length_cons] at h1 h2
    rw [Nat.add_mul, Nat.one_mul] at h2
    have hq : q = [] := h q (by simp)
    by_cases h0 : s.2 = 0
    · have hf : fRange b s nm q.length = drawN (b : Int) s := by unfold fRange; rw [if_pos h0]
      have hk : drawK (b : Int) s.1.length = b := by unfold drawK; omega
      have hg : (fRange b s nm q.length).1.length = b := by rw [hf]; show (s.1.take (drawK _ _)).length = _; rw [hk, List.length_take]; omega
      have hd : (fRange b s nm q.length).2.1.length = s.1.length - b := by rw [hf]; show (s.1.drop (drawK _ _)).length = _; rw [hk, List.length_drop]
      have hr : (fRange b s nm q.length).2.2 = s.2 := by rw [hf]; rfl
      obtain ⟨a1, a2⟩ := range_run b ns P (fRange b s nm q.length).2 (by simpa using hl) (fun q hq => h q (List.mem_cons_of_mem _ hq)) (by rw [hr]; omega) (by rw [hr, hd]; omega)
      refine ⟨fun x hx => ?_, a2⟩
      rcases List.mem_cons.1 (show x ∈ (q ++ (fRange b s nm q.length).1) :: _ from hx) with rfl | hx
      · rw [List.length_append, hg, hq]; simp
      · exact a1 x hx
    · have hf : fRange b s nm q.length = drawN ((b : Int) + 1) (s.1, s.2 - 1) := by unfold fRange; rw [if_neg h0]
      have hk : drawK ((b : Int) + 1) s.1.length = b + 1 := by unfold drawK; omega
      have hg : (fRange b s nm q.length).1.length = b + 1 := by rw [hf]; show (s.1.take (drawK _ _)).length = _; rw [hk, List.length_take]; omega
      have hd : (fRange b s nm q.length).2.1.length = s.1.length - (b + 1) := by rw [hf]; show (s.1.drop (drawK _ _)).length = _; rw [hk, List.length_drop]
      have hr : (fRange b s nm q.length).2.2 = s.2 - 1 := by rw [hf]; rfl
      obtain ⟨a1, a2⟩ := range_run b ns P (fRange b s nm q.length).2 (by simpa using hl) (fun q hq => h q (List.mem_cons_of_mem _ hq)) (by rw [hr]; omega) (by rw [hr, hd]; omega)
      refine ⟨fun x hx => ?_, a2⟩
      rcases List.mem_cons.1 (show x ∈ (q ++ (fRange b s nm q.length).1) :: _ from hx) with rfl | hx
      · rw [List.length_append, hg, hq]; simp
      · exact a1 x hx
/-- P1405 of Range. -/
theorem range_cov (l : List Nm) (p : Nat) (hl : l ≠ []) : CovP (rangeP l p) p := by
  unfold rangeP
  have hn : 0 < l.length := List.length_pos_iff.2 hl
  obtain ⟨n, hnn⟩ : ∃ n, l.length = n := ⟨_, rfl⟩
  obtain ⟨ns, hns⟩ : ∃ ns, risN l = ns := ⟨_, rfl⟩
  have hnl : ns.length = n := by rw [← hns, risN_len]; exact hnn
  rw [hnn, hns]
  rw [hnn] at hn
  show CovP ((allS (fRange (p / n)) ns ((allP p, p % n), List.replicate n []) ns.length).2.map risZ) p
  rw [allS_run (fRange (p / n)) ns _ _ (by simp [hnl])]
  have hrl : p % n < n := Nat.mod_lt _ hn
  have hpe : n * (p / n) + p % n = p := Nat.div_add_mod p n
  have k1 := range_run (p / n) ns (List.replicate n []) (allP p, p % n) (by simp [hnl]) (repl_nil n) (by rw [hnl]; exact Nat.le_of_lt hrl) (by show (allP p).length = _; rw [allP_len, hnl]; exact hpe.symm)
  have m1 := runS_perm (fRange (p / n)) (fRange_perm (p / n)) ns (List.replicate n []) (allP p, p % n)
  refine cov_ris (b := p / n) ?_ k1.1
  rw [k1.2, List.append_nil, repl_flat, List.nil_append] at m1
  exact m1
end Go.Proofs.Ytakpdhmfbgfblaa
