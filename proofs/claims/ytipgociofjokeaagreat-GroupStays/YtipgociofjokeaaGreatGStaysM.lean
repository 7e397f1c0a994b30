/- P1505's mathematics: who stays a member keeps its partitions. -/
import Derived.Test.YtipgociofjokeaaGreatGGrowM
import Derived.Test.YtipgociofjokeaaGreatPGXS1
namespace Go.Proofs.YtipgociofjokeaaGreat
open Go.RowKit Go.Shelf Go.Sort

theorem flat_sub {α : Type} {P Q : List (List α)} (h : P.Sublist Q) : P.flatten.Sublist Q.flatten := by
  induction h with
  | slnil => exact List.Sublist.refl _
  | cons a _ ih => exact ih.trans (List.sublist_append_right a _)
  | cons_cons a _ ih => exact (List.Sublist.refl a).append ih
/-- What some had lies apart. -/
theorem part_apart {ns : List Nm} {P : List (List Int)} {p : Nat} (hr : ∀ q ∈ P, q.Pairwise (· < ·)) (hs : ∀ z ∈ P.flatten, z ∈ allP p) (hnd : P.flatten.Nodup) (names : List Nm) (hn : names.Nodup) : Apart (lstd ns P) names (allP p) := by
  refine ⟨fun nm _ => ?_, fun nm _ z hz => hs z (lstd_mem hz), hn.imp (fun hab => lstd_apart ns P _ _ hnd hab)⟩
  rcases lstd_or ns P nm with e | e
  · rw [e]; exact List.Pairwise.nil
  · exact hr _ e
/-- Who had no more than one above each one's keeps all, where there are as many such as there may be. -/
theorem keep_more (ons : List Nm) (OP : List (List Int)) (l : List Nm) (p : Nat) (hr : ∀ q ∈ OP, q.Pairwise (· < ·)) (hs : ∀ z ∈ OP.flatten, z ∈ allP p) (hflat : OP.flatten.Nodup) (hnd : (risN l).Nodup)
    (hlen : ∀ nm ∈ risN l, (lstd ons OP nm).length ≤ p / l.length + 1) (hcnt : (risN l).countP (fun nm => decide (p / l.length < (lstd ons OP nm).length)) ≤ p % l.length) (i : Nat) (hi : i < l.length) :
    ∀ z ∈ lstd ons OP ((risN l).getD i []), z ∈ (stickyP ons OP l p).getD i [] := by
  have hA := part_apart (ns := ons) hr hs hflat (risN l) hnd
  obtain ⟨s1, s2, s3, P2, P3, P4, e2, e3, e4, hst, l2, l3, l4, k2, k3, k4, -⟩ := sticky_apart ons OP l p hA
  have hln : (risN l).length = l.length := risN_len l
  have hA2 : Apart (fun nm => (lstd ons OP nm).drop (p / l.length)) (risN l) s1.1 := by
    refine ⟨fun nm hm => (hA.rise nm hm).sublist (List.drop_sublist _ _), fun nm hm z hz => (k4 z).2 ⟨hA.sub nm hm z (List.mem_of_mem_drop hz), fun a ha hza => ?_⟩, hA.apart.imp (fun h z hz hz2 => h z (List.mem_of_mem_drop hz) (List.mem_of_mem_drop hz2))⟩
    by_cases e : a = nm
    · subst e
      have hr := hA.rise a ha
      have hsp : (lstd ons OP a).take (p / l.length) ++ (lstd ons OP a).drop (p / l.length) = lstd ons OP a := List.take_append_drop _ _
      rw [← hsp] at hr
      have := (List.pairwise_append.1 hr).2.2 z hza z hz
      omega
    · exact lstd_apart ons OP a nm hflat e z (List.mem_of_mem_take hza) (List.mem_of_mem_drop hz)
  have hone := one_exact (p / l.length) (risN l) ((risN l).map (lstd ons OP)) (lstd ons OP) (risN l) ((risN l).map (fun nm => (lstd ons OP nm).take (p / l.length))) s1 (by simp) (fun nm hm => lstd_map _ _ nm hm) hlen k3 hA2 (by rw [k2]; exact hcnt) i (by rw [hln]; exact hi)
  rw [e2] at hone
  dsimp only at hone
  rw [getD_map_nm _ _ _ (by rw [hln]; exact hi), List.take_append_drop] at hone
  obtain ⟨m2, h2⟩ := run_grow (fFill (p / l.length)) (risN l) P2 s2 i (by rw [l2]; exact hi)
  rw [e3] at h2
  obtain ⟨m3, h3⟩ := run_grow (fLast (p / l.length)) (risN l) P3 s3 i (by rw [l3]; exact hi)
  rw [e4] at h3
  dsimp only at h2 h3
  rw [hst, getD_map_nil, h3, h2, hone]
  exact fun z hz => (risZ_perm _).mem_iff.2 (List.mem_append.2 (Or.inl (List.mem_append.2 (Or.inl hz))))
variable {G : Gp}
/-- A group that a member leaves. -/
noncomputable def Gp.lost (G : Gp) (nm : Nm) : Gp := { G with mem := setN G.mem nm none, ks := G.ks.filter (fun q => decide (q ≠ nm)) }
theorem lost_share {nm q : Nm} (h : q ≠ nm) : (G.lost nm).share q = G.share q := by
  show ((setN G.mem nm none q).getD ⟨0, []⟩).parts = _
  rw [setN_other _ h]; rfl
theorem lost_mem {nm q : Nm} : q ∈ (G.lost nm).ks ↔ q ∈ G.ks ∧ q ≠ nm := by
  show q ∈ G.ks.filter _ ↔ _
  rw [List.mem_filter, decide_eq_true_eq]
def evL (nm : Nm) : Ev := ⟨2, nm, 0, 0, 0, 0, 0, 0, false⟩
theorem app_leave {k : Nat} (ho : GOk k G) {nm : Nm} (hm : nm ∈ G.ks) : G.app (evL nm) = (G.lost nm).deal ∧ G.dec (evL nm) = (false, 0) := by
  have hh : G.has nm = true := (ho.mem nm).1 hm
  have hmay : (evL nm).may := by
    have hn := ho.name nm hm
    refine ⟨⟨(by decide : (1 : Int) ≤ 2), (by decide : (2 : Int) < 8)⟩, rfl, ?_, ?_, (by decide : (0 : Int) < 32), (by decide : (0 : Int) ≤ 2147483647)⟩
    · show nameOk nm = true
      exact hn
    · have h0 : inN 0 := ⟨by decide, by decide⟩
      exact ⟨h0, h0, h0, h0, h0, h0⟩
  have hw : G.whyNot (evL nm) = 0 := by
    show (if (2 : Int) = 1 then _ else if (2 : Int) = 2 then (if G.has nm then (0 : Int) else 60) else _) = 0
    rw [if_neg (by decide), if_pos rfl, if_pos hh]
  have hd : G.done (evL nm) = false := rfl
  constructor
  · unfold Gp.app
    rw [if_pos ⟨hmay, hw, hd⟩]
    unfold Gp.take
    have k1 : ¬ (evL nm).kind = 1 := by show ¬ (2 : Int) = 1; decide
    have k2 : (evL nm).kind = 2 := rfl
    rw [if_neg k1, if_pos k2]
    rfl
  · unfold Gp.dec
    rw [if_pos hmay, if_pos hw, hd]
/-- Who left has nothing. -/
theorem gone_none (nm : Nm) : (G.lost nm).deal.share nm = [] := by
  have h1 : ((dealTo (G.lost nm) (G.lost nm).dealt (G.lost nm).ks.length) nm).isSome = false := by
    rw [dealTo_isSome]
    show (setN G.mem nm none nm).isSome = false
    rw [setN_same]; rfl
  show (((dealTo (G.lost nm) (G.lost nm).dealt (G.lost nm).ks.length) nm).getD ⟨0, []⟩).parts = []
  cases hx : (dealTo (G.lost nm) (G.lost nm).dealt (G.lost nm).ks.length) nm with
  | none => rfl
  | some x => rw [hx] at h1; cases h1
/-- Who stays keeps its partitions. -/
theorem stays_more {k : Nat} (ho : GOk k G) (hg : GCov G) {nm q : Nm} (hm : nm ∈ G.ks) (hq : q ∈ G.ks) (hne : q ≠ nm) : ∀ z ∈ G.share q, z ∈ (G.lost nm).deal.share q := by
  have hne0 : G.ks ≠ [] := fun e => by rw [e] at hm; cases hm
  have hc := hg.resolve_left hne0
  have hol := ho.left nm
  have hol' : GOk k (G.lost nm) := hol
  have hq1 : q ∈ (G.lost nm).ks := lost_mem.2 ⟨hq, hne⟩
  have hsubk : (G.lost nm).ks.Sublist G.ks := List.filter_sublist
  have hshare : (G.lost nm).ks.map (G.lost nm).share = (G.lost nm).ks.map G.share := List.map_congr_left (fun a ha => lost_share (lost_mem.1 ha).2)
  have hsub : ((G.lost nm).ks.map G.share).Sublist (G.ks.map G.share) := hsubk.map _
  have hlen1 : (G.lost nm).ks.length + 1 ≤ G.ks.length := by
    have h1 := hsubk.length_le
    have h2 : (G.lost nm).ks.length ≠ G.ks.length := fun e => by
      have := hsubk.eq_of_length e
      have h3 := lost_mem.1 (this ▸ hm : nm ∈ (G.lost nm).ks)
      exact h3.2 rfl
    omega
  obtain ⟨b, hb⟩ := hc.even
  generalize hp : G.parts.toNat = p at *
  have hsum := even_len b _ hb
  have hpl := hc.perm.length_eq
  rw [allP_len] at hpl
  rw [List.length_map] at hsum
  obtain ⟨n1, hn1⟩ : ∃ n1, (G.lost nm).ks.length = n1 := ⟨_, rfl⟩
  obtain ⟨n, hn⟩ : ∃ n, G.ks.length = n := ⟨_, rfl⟩
  rw [hn1, hn] at hlen1
  rw [hn] at hsum
  have hpos : 0 < n1 := by rw [← hn1]; exact List.length_pos_of_mem hq1
  have hris : risN (G.lost nm).ks = (G.lost nm).ks := hol'.ris
  have hdl : (G.lost nm).dealt = stickyP (G.lost nm).ks ((G.lost nm).ks.map G.share) (G.lost nm).ks p := by
    unfold Gp.dealt
    rw [hshare]
    show stickyP _ _ _ G.parts.toNat = _
    rw [hp]
  have hD : ∀ a ∈ (G.lost nm).ks, lstd (G.lost nm).ks ((G.lost nm).ks.map G.share) a = G.share a := fun a ha => lstd_map _ _ a ha
  have hat : ∀ a ∈ (G.lost nm).ks, b ≤ (G.share a).length ∧ (G.share a).length ≤ b + 1 := fun a ha => hb _ (List.mem_map.2 ⟨a, (lost_mem.1 ha).1, rfl⟩)
  have hbb : b ≤ p / n1 := by
    rw [Nat.le_div_iff_mul_le hpos]
    have : b * n1 ≤ n * b := by rw [Nat.mul_comm]; exact Nat.mul_le_mul_right b (by omega)
    omega
  have hover : overs b ((G.lost nm).ks.map G.share) ≤ overs b (G.ks.map G.share) := hsub.countP_le
  have hcnt : (G.lost nm).ks.countP (fun a => decide (p / n1 < (G.share a).length)) ≤ p % n1 := by
    by_cases e : p / n1 = b
    · rw [e]
      have h1 : overs b ((G.lost nm).ks.map G.share) = (G.lost nm).ks.countP (fun a => decide (b < (G.share a).length)) := by
        unfold overs
        rw [List.countP_map]
        rfl
      have h2 := Nat.div_add_mod p n1
      rw [e] at h2
      have h3 : n1 * b ≤ n * b := Nat.mul_le_mul_right b (by omega)
      omega
    · rw [List.countP_eq_zero.2 (fun a ha => ?_)]
      · exact Nat.zero_le _
      · have := hat a ha
        rw [decide_eq_true_eq]
        omega
  obtain ⟨i, hi, he⟩ : ∃ i, i < n1 ∧ (G.lost nm).ks.getD i [] = q := by
    obtain ⟨i, hi, e⟩ := List.getElem_of_mem hq1
    exact ⟨i, by omega, by rw [getD_at _ _ _ hi]; exact e⟩
  have hkm := keep_more (G.lost nm).ks ((G.lost nm).ks.map G.share) (G.lost nm).ks p (fun x hx => hc.rise x (hsub.subset hx)) (fun z hz => hc.perm.mem_iff.1 ((flat_sub hsub).subset hz)) ((hc.perm.nodup_iff.2 (allP_nodup p)).sublist (flat_sub hsub)) (by rw [hris]; exact hol'.nodup)
    (fun a ha => by rw [hris] at ha; rw [hD a ha, hn1]; have := hat a ha; omega)
    (by rw [hris, hn1]; refine Nat.le_trans (Nat.le_of_eq ?_) hcnt; exact List.countP_congr (fun a ha => by rw [hD a ha])) i (by rw [hn1]; exact hi)
  rw [hris, he, hD q hq1, ← hdl, ← deal_shares hol', getD_map_nm _ _ _ (by rw [hn1]; exact hi), he] at hkm
  exact hkm
end Go.Proofs.YtipgociofjokeaaGreat
