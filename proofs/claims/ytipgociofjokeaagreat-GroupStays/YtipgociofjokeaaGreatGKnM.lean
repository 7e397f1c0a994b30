/- What must come: the numbers of knows of layer 15. -/
import Derived.Test.YtipgociofjokeaaGreatPGStep
namespace Go.Proofs.YtipgociofjokeaaGreat
open Go.RowKit Go.Sort
variable {G : Gp}

theorem stp_len (f : Stp Dk) (ns : List Nm) (sp : Dk × List (List Int)) (i : Nat) : (stp f ns sp i).2.length = sp.2.length := by simp [stp]
theorem allS_len (f : Stp Dk) (ns : List Nm) (sp : Dk × List (List Int)) (i : Nat) : (allS f ns sp i).2.length = sp.2.length := by
  induction i with
  | zero => rfl
  | succ i ih => rw [allS_succ, stp_len, ih]
theorem stepsN_len (fs : Nat → Stp Dk) (ns : List Nm) (sp : Dk × List (List Int)) (j : Nat) : (stepsN fs ns sp j).2.length = sp.2.length := by
  induction j with
  | zero => rfl
  | succ j ih => show (allS _ _ _ _).2.length = _; rw [allS_len, ih]
theorem sticky_len (ons : List Nm) (P : List (List Int)) (l : List Nm) (p : Nat) : (stickyP ons P l p).length = l.length := by
  unfold stickyP
  rw [List.length_map, stepsN_len]
  simp
theorem rise_uniq {a b : List Int} (hp : a.Perm b) (ha : a.Pairwise (· < ·)) (hb : b.Pairwise (· < ·)) : a = b :=
  List.Perm.eq_of_pairwise (le := fun x y => x < y) (fun _ _ _ _ h1 h2 => by omega) ha hb hp
/-- One member has all. -/
theorem sticky_one (ons : List Nm) (P : List (List Int)) (nm : Nm) (p : Nat) : stickyP ons P [nm] p = [allP p] := by
  have hc := sticky_cov ons P [nm] p (by simp)
  have hl := sticky_len ons P [nm] p
  obtain ⟨q, hq⟩ := List.length_eq_one_iff.1 hl
  rw [hq] at hc ⊢
  have h1 := hc.perm
  simp at h1
  rw [rise_uniq h1 (hc.rise q (by simp)) (allP_rise p)]
theorem deal_ks : G.deal.ks = G.ks := rfl
theorem deal_off : G.deal.off = G.off := rfl
theorem deal_gen : G.deal.gen = G.gen + 1 := rfl
theorem deal_heard (nm : Nm) : G.deal.heard nm = G.heard nm := dealTo_heard G.dealt G.ks.length nm
theorem deal_has (nm : Nm) : G.deal.has nm = G.has nm := dealTo_isSome G.dealt G.ks.length nm
theorem dec_of {x : Ev} (hx : x.may) (hw : G.whyNot x = 0) (hd : G.done x = false) : G.dec x = (false, 0) ∧ G.app x = G.take x := by
  constructor
  · unfold Gp.dec; rw [if_pos hx, if_pos hw, hd]
  · unfold Gp.app; rw [if_pos ⟨hx, hw, hd⟩]
def xA : Ev := ⟨1, [97], 0, 0, 0, 0, 0, 0, false⟩
def xB : Ev := ⟨1, [98], 0, 0, 0, 0, 0, 1, false⟩
def xC : Ev := ⟨4, [97], 1, 0, 5, 0, 0, 0, false⟩
def xD : Ev := ⟨4, [97], 2, 0, 5, 0, 0, 0, false⟩
def xE : Ev := ⟨5, [], 0, 0, 0, 0, 0, 10, false⟩
theorem le_ba : decide (([98] : Nm) ≤ [97]) = false := by decide
theorem risN_ba : risN [[98], [97]] = [[97], [98]] := by
  unfold risN
  simp only [List.mergeSort, List.MergeSort.Internal.splitInTwo]
  simp [le_ba]
theorem risN_a : risN [[97]] = [[97]] := risN_of (by simp)
noncomputable def kG1 : Gp := (gp0 3 10).app xA
noncomputable def kG2 : Gp := kG1.app xB
noncomputable def kG4 : Gp := kG2.app xD
noncomputable def kG5 : Gp := kG4.app xE
theorem kn1 : (gp0 3 10).dec xA = (false, 0) ∧ kG1.ks = [[97]] ∧ kG1.gen = 1 ∧ kG1.heard [97] = 0 ∧ kG1.has [97] = true ∧ kG1.has [98] = false ∧ kG1.parts = 3 ∧ kG1.sess = 10 ∧ kG1.off = fun _ => none := by
  obtain ⟨h1, h2⟩ := dec_of (G := gp0 3 10) (x := xA) (by decide) (by rfl) (by rfl)
  have e : kG1 = Gp.deal { gp0 3 10 with mem := setN (gp0 3 10).mem [97] (some ⟨0, []⟩), ks := risN [[97]] } := by
    unfold kG1
    rw [h2]
    rfl
  refine ⟨h1, ?_, ?_, ?_, ?_, ?_, ?_, ?_, ?_⟩
  · rw [e, deal_ks]; exact risN_a
  · rw [e]; rfl
  · rw [e, deal_heard]; show ((setN (gp0 3 10).mem [97] (some ⟨0, []⟩) [97]).getD ⟨0, []⟩).heard = 0; rw [setN_same]; rfl
  · rw [e, deal_has]; show (setN (gp0 3 10).mem [97] (some ⟨0, []⟩) [97]).isSome = true; rw [setN_same]; rfl
  · rw [e, deal_has]; show (setN (gp0 3 10).mem [97] (some ⟨0, []⟩) [98]).isSome = false; rw [setN_other _ (by decide)]; rfl
  · rw [e]; rfl
  · rw [e]; rfl
  · rw [e]; rfl
theorem kn2 : kG1.dec xB = (false, 0) ∧ kG2.ks = [[97], [98]] ∧ kG2.gen = 2 ∧ kG2.heard [97] = 0 ∧ kG2.heard [98] = 1 ∧ kG2.has [97] = true ∧ kG2.parts = 3 ∧ kG2.sess = 10 ∧ kG2.off = fun _ => none := by
  obtain ⟨-, k1, k2, k3, k4, k5, k6, k7, k8⟩ := kn1
  obtain ⟨h1, h2⟩ := dec_of (G := kG1) (x := xB) (by decide) (by
    unfold Gp.whyNot
    rw [if_pos (show xB.kind = 1 from rfl), if_pos]
    rw [k1]
    simp) (by rfl)
  have e : kG2 = Gp.deal { kG1 with mem := setN kG1.mem [98] (some ⟨1, []⟩), ks := risN ([98] :: kG1.ks) } := by
    unfold kG2
    rw [h2]
    unfold Gp.take
    rw [if_pos (show xB.kind = 1 from rfl), if_neg (by show ¬ kG1.has [98] = true; rw [k5]; decide)]
    rfl
  refine ⟨h1, ?_, ?_, ?_, ?_, ?_, ?_, ?_, ?_⟩
  · rw [e, deal_ks]; show risN ([98] :: kG1.ks) = _; rw [k1]; exact risN_ba
  · rw [e, deal_gen]; show kG1.gen + 1 = 2; rw [k2]; rfl
  · rw [e, deal_heard]
    show ((setN kG1.mem [98] (some ⟨1, []⟩) [97]).getD ⟨0, []⟩).heard = 0
    rw [setN_other _ (by decide)]
    exact k3
  · rw [e, deal_heard]
    show ((setN kG1.mem [98] (some ⟨1, []⟩) [98]).getD ⟨0, []⟩).heard = 1
    rw [setN_same]
    rfl
  · rw [e, deal_has]
    show (setN kG1.mem [98] (some ⟨1, []⟩) [97]).isSome = true
    rw [setN_other _ (by decide)]
    exact k4
  · rw [e]; exact k6
  · rw [e]; exact k7
  · rw [e]; exact k8
theorem kn3 : kG2.dec xC = (false, 60) ∧ kG2.app xC = kG2 := by
  obtain ⟨-, k1, k2, k3, k4, k5, k6, k7, k8⟩ := kn2
  have hw : kG2.whyNot xC = 60 := by
    unfold Gp.whyNot
    rw [if_neg (by decide), if_neg (by decide), if_neg (by decide), if_pos (show xC.kind = 4 from rfl), if_neg]
    rw [k2]
    simp [xC]
  constructor
  · unfold Gp.dec; rw [if_pos (by decide), hw]; rfl
  · unfold Gp.app; rw [if_neg]; rintro ⟨-, h, -⟩; rw [hw] at h; cases h
theorem kn4 : kG2.dec xD = (false, 0) ∧ kG4 = { kG2 with off := setN kG2.off 0 (some 5) } := by
  obtain ⟨-, k1, k2, k3, k4, k5, k6, k7, k8⟩ := kn2
  obtain ⟨h1, h2⟩ := dec_of (G := kG2) (x := xD) (by decide) (by
    unfold Gp.whyNot
    rw [if_neg (by decide), if_neg (by decide), if_neg (by decide), if_pos (show xD.kind = 4 from rfl), if_pos (by rw [k2]; show (kG2.has [97] && _) = true; rw [k5]; rfl), if_pos]
    rw [k6]
    decide) (by rfl)
  refine ⟨h1, ?_⟩
  unfold kG4
  rw [h2]
  rfl
theorem kn5 : kG4.dec xE = (false, 0) ∧ kG5.ks = [[98]] ∧ kG5.gen = 3 ∧ kG5.off 0 = some 5 ∧ kG5.share [98] = [0, 1, 2] := by
  obtain ⟨-, k1, k2, k3, k4, k5, k6, k7, k8⟩ := kn2
  obtain ⟨-, e4⟩ := kn4
  have a1 : kG4.ks = [[97], [98]] := by rw [e4]; exact k1
  have a2 : kG4.gen = 2 := by rw [e4]; exact k2
  have a3 : kG4.heard [97] = 0 := by rw [e4]; exact k3
  have a4 : kG4.heard [98] = 1 := by rw [e4]; exact k4
  have a6 : kG4.parts = 3 := by rw [e4]; exact k6
  have a7 : kG4.sess = 10 := by rw [e4]; exact k7
  have a8 : kG4.off 0 = some 5 := by rw [e4]; exact setN_same _ _ _
  have hsil : kG4.silent 10 = [[97]] := by
    unfold Gp.silent
    rw [a1, a7]
    simp [List.filter, a3, a4]
  have hstay : kG4.ks.filter (fun nm => decide ((10 : Int) < kG4.heard nm + kG4.sess)) = [[98]] := by
    rw [a1, a7]
    simp [List.filter, a3, a4]
  have hm98 : (kG4.mem [98]).isSome = true := by
    cases hm : kG4.mem [98] with
    | some mb => rfl
    | none => unfold Gp.heard at a4; rw [hm] at a4; cases a4
  obtain ⟨h1, h2⟩ := dec_of (G := kG4) (x := xE) (by decide) (by rfl) (by
    unfold Gp.done
    rw [if_pos (show xE.kind = 5 from rfl)]
    show (kG4.silent 10).isEmpty = false
    rw [hsil]
    rfl)
  have e : kG5 = Gp.deal { kG4 with mem := fun nm => if nm ∈ kG4.silent 10 then none else kG4.mem nm, ks := kG4.ks.filter (fun nm => decide ((10 : Int) < kG4.heard nm + kG4.sess)) } := by
    unfold kG5
    rw [h2]
    rfl
  refine ⟨h1, ?_, ?_, ?_, ?_⟩
  · rw [e, deal_ks]; exact hstay
  · rw [e, deal_gen]; show kG4.gen + 1 = 3; rw [a2]; rfl
  · rw [e]; exact a8
  · rw [e]
    obtain ⟨H, hH⟩ : ∃ H : Gp, H = { kG4 with mem := fun nm => if nm ∈ kG4.silent 10 then none else kG4.mem nm, ks := kG4.ks.filter (fun nm => decide ((10 : Int) < kG4.heard nm + kG4.sess)) } := ⟨_, rfl⟩
    rw [← hH]
    have b1 : H.ks = [[98]] := by rw [hH]; exact hstay
    have b2 : H.mem [98] = kG4.mem [98] := by
      rw [hH]
      show (if ([98] : Nm) ∈ kG4.silent 10 then none else kG4.mem [98]) = _
      rw [if_neg (by rw [hsil]; decide)]
    have b3 : H.parts = 3 := by rw [hH]; exact a6
    unfold Gp.share
    show ((dealTo H H.dealt H.ks.length [98]).getD ⟨0, []⟩).parts = _
    unfold dealTo
    rw [b1, if_pos (by decide)]
    have b4 : H.dealt = [allP 3] := by unfold Gp.dealt; rw [b1, b3]; exact sticky_one _ _ _ _
    rw [b2, b4]
    obtain ⟨mb, hmb⟩ := Option.isSome_iff_exists.1 hm98
    rw [hmb]
    rfl
end Go.Proofs.YtipgociofjokeaaGreat
