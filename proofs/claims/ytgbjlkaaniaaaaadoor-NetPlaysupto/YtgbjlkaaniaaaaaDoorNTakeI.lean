/- take of a list of numbers. -/
import Derived.Test.YtgbjlkaaniaaaaaDoorNDelI
namespace Go.Proofs.YtgbjlkaaniaaaaaDoor
open Go.RowKit
variable {w : World} {F : List Nat} {D : Nat} {v1 v2 : Value} {s : NSt}

theorem eraseV (l : List Int) (k : Nat) : (l.eraseIdx k).map intV = delV (l.map intV) 1 k := by
  unfold delV
  rw [List.eraseIdx_eq_take_drop_succ, List.map_append, List.map_take, List.map_drop, Nat.mul_one, Nat.mul_one]
set_option maxRecDepth 100000 in
set_option maxHeartbeats 4000000 in
theorem takeI_pic (h : NPic w F D v1 v2 s) (k : Nat) (hk : k < s.luck.length) :
    Calls Tryd.prog 36 #[.pointer (some ⟨D, 1, none⟩), .int .i64 (k : Nat)] w fun e w' => e = .returned (.int .i64 (s.luck[k]'hk)) ∧ NMoved F D ⟨s.luck.eraseIdx k, s.late⟩ w w' := by
  obtain ⟨i0, hi0, hz0, hz1, hz2⟩ := info_parts Tryd.infoI
  obtain ⟨g, o, cap, cur, hv, hg, hn, hm, hs, hx, hc⟩ := h.r1.cells (by omega)
  subst hv
  obtain ⟨-, c1, -⟩ := h.cells
  have cf1 := h.free 1
  have hm2 : cap ≤ 9223372036854775807 := by unfold maxLen at hm; omega
  have hxl : (s.luck.map intV).length = s.luck.length * 1 := by rw [List.length_map, Nat.mul_one]
  have hck : w.cell? ⟨g, o + k, none⟩ = some (.int .i64 (s.luck[k]'hk)) := by
    rw [hc k (by omega), List.getElem?_map, List.getElem?_eq_getElem hk]; rfl
  have H : Hid (NPic w F D (.slice (some ⟨g, o, none⟩) s.luck.length cap) v2 s) := h
  have hlen : (s.luck.eraseIdx k).length = s.luck.length - 1 := List.length_eraseIdx_of_lt hk
  have hfit : ∀ x ∈ s.luck.eraseIdx k, fits x := fun x hx => h.ok.luck x (List.mem_of_mem_eraseIdx hx)
  have HLEN := hide hlen
  have HFIT := hide hfit
  by_cases hlt : k < s.luck.length / 2
  · have hn2 : 2 ≤ s.luck.length := by omega
    obtain ⟨d1, d2⟩ := del_early (i := k) (zc := [.int .i64 0]) hs hn hx hxl hk rfl
    have HEV := hide (eraseV s.luck k)
    have HD2 : Hid (∀ j, j < (s.luck.length - 1) * 1 → (over (over cur (o + 1) ((s.luck.map intV).take (k * 1))) o [.int .i64 0])[o + 1 + j]? = (delV (s.luck.map intV) 1 k)[j]?) := d2
    have HD1 : Hid ((over (over cur (o + 1) ((s.luck.map intV).take (k * 1))) o [.int .i64 0]).size = cur.size) := d1
    obtain ⟨cs, hcs⟩ : ∃ cs, cs = (s.luck.map intV).take (k * 1) := ⟨_, rfl⟩
    rw [← hcs] at HD2 HD1
    have hcl : cs.length = k * 1 := by rw [hcs, List.length_take, hxl]; omega
    have hsrc : Hid (∀ t u, cs[t]? = some u → w.drew.cell? ((⟨g, o, none⟩ : Addr).add t) = some u) := fun t u hu => by
      have ht : t < k * 1 := by have := (List.getElem?_eq_some_iff.1 hu).1; rwa [hcl] at this
      rw [hcs, List.getElem?_take, if_pos ht] at hu
      rw [addr_add]
      exact (hc t (by omega)).trans hu
    have s2 : Hid (∀ u ∈ cs, u.oneCell' = true) := fun u hu => by rw [hcs] at hu; exact luckV_one _ u (List.mem_of_mem_take hu)
    obtain ⟨W1, hW1⟩ : ∃ W1, W1 = w.drew.setRow g (over cur (o + 1) cs) := ⟨_, rfl⟩
    have hg1 : W1.heap[g]? = some (.cells (over cur (o + 1) cs) TI (0, 0)) := by rw [hW1]; exact setRow_heap w.drew g cur _ TI _ hg
    have hcz : (over cur (o + 1) cs).size = cur.size := over_size _ _ _ (by omega)
    obtain ⟨W2, hW2⟩ : ∃ W2, W2 = W1.setRow g (over (over cur (o + 1) cs) o [.int .i64 0]) := ⟨_, rfl⟩
    have hclr : ∀ ty c, (Builtin.clear_ #[26] ty #[.slice (some ⟨g, o, none⟩) 1 c]).run Tryd.prog W1 = .ok (.tuple #[]) W2 := fun ty c => by
      have := run_clear_one (P := Tryd.prog) (w := W1) 26 ty i0 (.int .i64 0) Tryd.underlying26 hi0 hz0 (fun u hu => by simp [Value.cells] at hu; subst hu; rfl) g o c _ hg1 (by rw [hcz]; simp [Value.cells]; omega)
      rw [this, hW2]
      rfl
    have hg2 : W2.heap[g]? = some (.cells (over (over cur (o + 1) cs) o [.int .i64 0]) TI (0, 0)) := by rw [hW2]; exact setRow_heap W1 g _ _ TI _ hg1
    have hne : D ≠ g := fun e => h.ne1 (by rw [e]; rfl)
    have hgr : w.grownBy W2 (some g) := by
      rw [hW2, hW1]
      exact ⟨rfl, rfl, rfl, by simp [World.setRow], fun k hk hne => by
        have : k ≠ g := fun e => hne (by rw [e])
        rw [setRow_other _ g k _ this, setRow_other _ g k _ this]; rfl⟩
    have hD1 : Blk W1 D #[.bool true, .slice (some ⟨g, o, none⟩) s.luck.length cap, v2] TN := by
      unfold Blk
      rw [hW1, setRow_other _ g D _ hne]; exact h.hD
    have hD2 : Blk W2 D #[.bool true, .slice (some ⟨g, o, none⟩) s.luck.length cap, v2] TN := by
      unfold Blk
      rw [hW2, setRow_other _ g D _ hne]; exact hD1
    have q1 : W1.cell? ⟨D, 1, none⟩ = some (.slice (some ⟨g, o, none⟩) s.luck.length cap) := hD1.cell 1
    have q2 : W2.cell? ⟨D, 1, none⟩ = some (.slice (some ⟨g, o, none⟩) s.luck.length cap) := hD2.cell 1
    have f2 := hD2.free 1
    have qd : w.drew.cell? ⟨D, 1, none⟩ = some (.slice (some ⟨g, o, none⟩) s.luck.length cap) := c1
    have HG : Hid (w.drew.heap[g]? = some (.cells cur TI (0, 0))) := hg
    have HW1 : Hid (W1 = w.drew.setRow g (over cur (o + 1) cs)) := hW1
    have HG2 := hide hg2
    have HGR := hide hgr
    have HCL := hide hcl
    have hkc : k ≤ cap := by omega
    have h1c : 1 ≤ cap := by omega
    have h1n : (1 : Int) ≤ (s.luck.length : Int) := by omega
    have hc1 : ¬ cap = 1 := by omega
    have hlti : (k : Int) < (s.luck.length : Int) / 2 := by omega
    have hlt2 : (k : Int) ≤ (cap : Int) := by omega
    have hfz : o + 1 + k * 1 ≤ cur.size := by omega
    have hs2 := hide hs
    generalize s.luck[k]'hk = x at *
    clear hx hc hg hxl h hlen hfit d1 d2 hcs hcl hW1 hW2 hg1 hg2 hgr hD1 hD2 hs hcz
    go_enter Tryd.func36, Tryd.ntmps36
    go_wp2_with fail
    go_region_law (refine step_copy_over rfl (.tmp 25) (.tmp 31) 26 rfl TI i0 1 Tryd.underlying26 hi0 hz1 g (o + 1) (s.luck.length - 1) (cap - 1) cur HG.out (by simp [Act.eval, Act.put]) ⟨g, o, none⟩ k cap cs (by simp [Act.eval, Act.put]) (by omega) HCL.out hsrc.out s2.out (by rw [HCL.out]; omega) ?_; rw [← HW1.out])
    all_goals go_wp2
    all_goals go_ret
    all_goals refine ⟨rfl, ?_⟩
    all_goals refine H.out.set1 HFIT.out HGR.out ?_ (fun g' hg' => Or.inl hg')
    all_goals rw [HLEN.out, HEV.out]
    all_goals refine ⟨by rw [← HEV.out, List.length_map, HLEN.out]; omega, Or.inr ⟨g, o + 1, cap - 1, _, rfl, HG2.out, by omega, by omega, by rw [HD1.out]; have := hs2.out; omega, HD2.out⟩⟩
  · have hd := deleteI_at w g o s.luck.length cap k cur (s.luck.map intV) hg hn hm hs hx hxl (luckV_one _) hk
    have HEV := hide (eraseV s.luck k)
    generalize s.luck[k]'hk = x at *
    have hge : ¬ ((k : Int) < (s.luck.length : Int) / 2) := by omega
    clear hx hc hg hs hxl h hlen hfit
    go_enter Tryd.func36, Tryd.ntmps36
    go_wp2_with (go_at_call 39; refine hd.mono ?_; rintro e w1 ⟨rfl, hr, hgr⟩; have HR := hide hr; have HG := hide hgr; have hD1 : Blk w1 D #[.bool true, .slice (some ⟨g, o, none⟩) s.luck.length cap, v2] TN := (HG.out.block D (H.out.lt D H.out.mD) (fun e => H.out.ne1 e.symm)).trans H.out.hD; have cc1 : w1.cell? ⟨D, 1, none⟩ = some (.slice (some ⟨g, o, none⟩) s.luck.length cap) := hD1.cell 1; have ccf := hD1.free 1; clear hr hgr hD1)
    go_ret
    refine ⟨rfl, ?_⟩
    refine H.out.set1 HFIT.out HG.out ?_ (fun g' hg' => Or.inl hg')
    rw [HLEN.out, HEV.out]
    exact HR.out
end Go.Proofs.YtgbjlkaaniaaaaaDoor
