/- take of a list of messages. -/
import Derived.Test.YtgbjlkaaniaaaaaDoorNDelM
namespace Go.Proofs.YtgbjlkaaniaaaaaDoor
open Go.RowKit
variable {w : World} {F : List Nat} {D : Nat} {v1 v2 : Value} {s : NSt}

theorem eraseM (l : List Msg) (k : Nat) : lateV (l.eraseIdx k) = delV (lateV l) 2 k := by
  unfold delV
  rw [List.eraseIdx_eq_take_drop_succ, lateV_app, lateV_take, lateV_drop]
set_option maxRecDepth 100000 in
set_option maxHeartbeats 4000000 in
theorem takeM_pic (h : NPic w F D v1 v2 s) (k : Nat) (hk : k < s.late.length) :
    Calls Tryd.prog 31 #[.pointer (some ⟨D, 2, none⟩), .int .i64 (k : Nat)] w fun e w' => e = .returned (.agg #[.int .i64 (s.late[k]'hk).to, .string (bstr (s.late[k]'hk).b)]) ∧ NMoved F D ⟨s.luck, s.late.eraseIdx k⟩ w w' := by
  obtain ⟨i0, hi0, hz0, hz1, hz2⟩ := info_parts Tryd.infoM
  obtain ⟨g, o, cap, cur, hv, hg, hn, hm, hs, hx, hc⟩ := h.r2.cells (by omega)
  subst hv
  obtain ⟨-, -, c1⟩ := h.cells
  have cf1 := h.free 2
  have hm2 : cap ≤ 9223372036854775807 := by unfold maxLen at hm; omega
  have hxl : (lateV s.late).length = s.late.length * 2 := lateV_len _
  have hck : w.cell? ⟨g, o + k * 2, none⟩ = some (.int .i64 (s.late[k]'hk).to) := by
    rw [hc (k * 2) (by omega)]; exact (lateV_get _ k hk).1
  have hck2 : w.cell? ⟨g, o + k * 2 + 1, none⟩ = some (.string (bstr (s.late[k]'hk).b)) := by
    rw [Nat.add_assoc, hc (k * 2 + 1) (by omega)]; exact (lateV_get _ k hk).2
  have hDlt := h.lt D h.mD
  have hglt := h.lt g (h.m2 g rfl)
  have bA : Below w.heap.size w (w.alloc (.cells #[.int .i64 0, .string ⟨#[]⟩] TM)) := (Below.refl _ w).alloc (Nat.le_refl _) _
  have hlen : (s.late.eraseIdx k).length = s.late.length - 1 := List.length_eraseIdx_of_lt hk
  have hfit : ∀ m ∈ s.late.eraseIdx k, fits m.to ∧ ∀ x ∈ m.b, x < 256 := fun x hx => h.ok.late x (List.mem_of_mem_eraseIdx hx)
  have HLEN := hide hlen
  have HFIT := hide hfit
  have HEV := hide (eraseM s.late k)
  generalize (s.late[k]'hk).to = x at *
  generalize bstr (s.late[k]'hk).b = y at *
  have ca : (w.alloc (.cells #[.int .i64 0, .string ⟨#[]⟩] TM)).cell? ⟨D, 2, none⟩ = some (.slice (some ⟨g, o, none⟩) s.late.length cap) := (bA.cell (p := ⟨D, 2, none⟩) hDlt).trans c1
  have cb : (w.alloc (.cells #[.int .i64 0, .string ⟨#[]⟩] TM)).cell? ⟨g, o + k * 2, none⟩ = some (.int .i64 x) := (bA.cell (p := ⟨g, o + k * 2, none⟩) hglt).trans hck
  have cc : (w.alloc (.cells #[.int .i64 0, .string ⟨#[]⟩] TM)).cell? ⟨g, o + k * 2 + 1, none⟩ = some (.string y) := (bA.cell (p := ⟨g, o + k * 2 + 1, none⟩) hglt).trans hck2
  obtain ⟨W0, hW0⟩ : ∃ W0, (w.alloc (.cells #[.int .i64 0, .string ⟨#[]⟩] TM)).alloc (.cells #[.int .i64 x, .string y] TM) = W0 := ⟨_, rfl⟩
  have b0 : Below w.heap.size w W0 := by rw [← hW0]; exact bA.alloc (by simp) _
  have h0 : NPic W0 F D v1 (.slice (some ⟨g, o, none⟩) s.late.length cap) s := h.below b0
  have hr0 : Blk W0 w.heap.size #[.int .i64 0, .string ⟨#[]⟩] TM := by rw [← hW0]; exact heap_alloc2_old _ _ _
  have hr1 : Blk W0 (w.heap.size + 1) #[.int .i64 x, .string y] TM := by rw [← hW0]; exact heap_alloc2_new _ _ _
  have hs0 : W0.heap.size = w.heap.size + 2 := by rw [← hW0]; simp
  have hg0 : W0.heap[g]? = some (.cells cur TM (0, 0)) := (b0.block g hglt).trans hg
  have hne : D ≠ g := fun e => h.ne2 (by rw [e]; rfl)
  have k1 : w.heap.size ≠ D := by omega
  have k2 : w.heap.size + 1 ≠ D := by omega
  have HP := hide h0
  have HS0 := hide hs0
  have HB0 := hide b0
  have HF : Hid (∀ g ∈ F, g < w.heap.size) := h.lt
  have HR0 := hide hr0
  have HR1 := hide hr1
  have z1 : W0.cell? ⟨D, 2, none⟩ = some (.slice (some ⟨g, o, none⟩) s.late.length cap) := h0.cells.2.2
  by_cases hlt : k < s.late.length / 2
  · have hn2 : 2 ≤ s.late.length := by omega
    obtain ⟨d1, d2⟩ := del_early (i := k) (zc := [.int .i64 0, .string ⟨#[]⟩]) hs hn hx hxl hk rfl
    have HD2 : Hid (∀ j, j < (s.late.length - 1) * 2 → (over (over cur (o + 2) ((lateV s.late).take (k * 2))) o [.int .i64 0, .string ⟨#[]⟩])[o + 2 + j]? = (delV (lateV s.late) 2 k)[j]?) := d2
    have HD1 : Hid ((over (over cur (o + 2) ((lateV s.late).take (k * 2))) o [.int .i64 0, .string ⟨#[]⟩]).size = cur.size) := d1
    obtain ⟨cs, hcs⟩ : ∃ cs, cs = (lateV s.late).take (k * 2) := ⟨_, rfl⟩
    rw [← hcs] at HD2 HD1
    have hcl : cs.length = k * 2 := by rw [hcs, List.length_take, hxl]; omega
    have hsrc : Hid (∀ t u, cs[t]? = some u → W0.drew.cell? ((⟨g, o, none⟩ : Addr).add t) = some u) := fun t u hu => by
      have ht : t < k * 2 := by have := (List.getElem?_eq_some_iff.1 hu).1; rwa [hcl] at this
      rw [hcs, List.getElem?_take, if_pos ht] at hu
      rw [addr_add]
      exact ((b0.cell (p := ⟨g, o + t, none⟩) hglt).trans (hc t (by omega))).trans hu
    have s2 : Hid (∀ u ∈ cs, u.oneCell' = true) := fun u hu => by rw [hcs] at hu; exact lateV_one _ u (List.mem_of_mem_take hu)
    obtain ⟨W1, hW1⟩ : ∃ W1, W1 = W0.drew.setRow g (over cur (o + 2) cs) := ⟨_, rfl⟩
    have hg1 : W1.heap[g]? = some (.cells (over cur (o + 2) cs) TM (0, 0)) := by rw [hW1]; exact setRow_heap W0.drew g cur _ TM _ hg0
    have hcz : (over cur (o + 2) cs).size = cur.size := over_size _ _ _ (by omega)
    obtain ⟨W2, hW2⟩ : ∃ W2, W2 = W1.setRow g (over (over cur (o + 2) cs) o [.int .i64 0, .string ⟨#[]⟩]) := ⟨_, rfl⟩
    have hclr : ∀ ty c, (Builtin.clear_ #[45] ty #[.slice (some ⟨g, o, none⟩) 1 c]).run Tryd.prog W1 = .ok (.tuple #[]) W2 := fun ty c => by
      have := run_clear_one (P := Tryd.prog) (w := W1) 45 ty i0 (.agg #[.int .i64 0, .string ⟨#[]⟩]) Tryd.underlying45 hi0 hz0 (fun u hu => by simp [Value.cells] at hu; rcases hu with rfl | rfl <;> rfl) g o c _ hg1 (by rw [hcz]; simp [Value.cells]; omega)
      rw [this, hW2]
      rfl
    have hg2 : W2.heap[g]? = some (.cells (over (over cur (o + 2) cs) o [.int .i64 0, .string ⟨#[]⟩]) TM (0, 0)) := by rw [hW2]; exact setRow_heap W1 g _ _ TM _ hg1
    have hot : ∀ k, k ≠ g → W2.heap[k]? = W0.heap[k]? ∧ W1.heap[k]? = W0.heap[k]? := fun k hk => by
      rw [hW2, setRow_other _ g k _ hk, hW1, setRow_other _ g k _ hk]; exact ⟨rfl, rfl⟩
    have hgr : W0.grownBy W2 (some g) := by
      have hz : W2.heap.size = W0.heap.size := by rw [hW2, hW1]; simp [World.setRow]
      exact ⟨by rw [hW2, hW1]; rfl, by rw [hW2, hW1]; rfl, by rw [hW2, hW1]; rfl, by rw [hz]; exact Nat.le_refl _, fun k hk hne => (hot k (fun e => hne (by rw [e]))).1⟩
    have hD1 : Blk W1 D #[.bool true, v1, .slice (some ⟨g, o, none⟩) s.late.length cap] TN := ((hot D hne).2).trans h0.hD
    have hD2 : Blk W2 D #[.bool true, v1, .slice (some ⟨g, o, none⟩) s.late.length cap] TN := ((hot D hne).1).trans h0.hD
    have hx0 : Blk W2 w.heap.size #[.int .i64 0, .string ⟨#[]⟩] TM := ((hot _ (by omega)).1).trans hr0
    have hx1 : Blk W2 (w.heap.size + 1) #[.int .i64 x, .string y] TM := ((hot _ (by omega)).1).trans hr1
    have y0 : W2.cell? ⟨w.heap.size, 0, none⟩ = some (.int .i64 0) := hx0.cell 0
    have y1 : W2.cell? ⟨w.heap.size, 1, none⟩ = some (.string ⟨#[]⟩) := hx0.cell 1
    have y2 := hx0.free 0
    have y3 := hx0.free 1
    have y4 : W2.cell? ⟨w.heap.size + 1, 0, none⟩ = some (.int .i64 x) := hx1.cell 0
    have y5 : W2.cell? ⟨w.heap.size + 1, 1, none⟩ = some (.string y) := hx1.cell 1
    have HX0 := hide hx0
    have q1 : W1.cell? ⟨D, 2, none⟩ = some (.slice (some ⟨g, o, none⟩) s.late.length cap) := hD1.cell 2
    have q2 : W2.cell? ⟨D, 2, none⟩ = some (.slice (some ⟨g, o, none⟩) s.late.length cap) := hD2.cell 2
    have f2 := hD2.free 2
    have qd : W0.drew.cell? ⟨D, 2, none⟩ = some (.slice (some ⟨g, o, none⟩) s.late.length cap) := z1
    have HG : Hid (W0.drew.heap[g]? = some (.cells cur TM (0, 0))) := hg0
    have HW1 : Hid (W1 = W0.drew.setRow g (over cur (o + 2) cs)) := hW1
    have HG2 := hide hg2
    have HGR := hide hgr
    have HCL := hide hcl
    have hkc : k ≤ cap := by omega
    have h1c : 1 ≤ cap := by omega
    have h1n : (1 : Int) ≤ (s.late.length : Int) := by omega
    have hc1 : ¬ cap = 1 := by omega
    have hlti : (k : Int) < (s.late.length : Int) / 2 := by omega
    have hlt2 : (k : Int) ≤ (cap : Int) := by omega
    have hfz : o + 2 + k * 2 ≤ cur.size := by omega
    have hs2 := hide hs
    clear hx hc hg hxl h hlen hfit d1 d2 hcs hcl hW1 hW2 hg1 hg2 hgr hD1 hD2 hs hcz hx0 hx1 bA b0 h0 hr0 hr1 hs0 hg0 hck hck2 c1 cf1 hot
    go_enter Tryd.func31, Tryd.ntmps31
    go_wp2_with fail
    go_region_law (refine step_copy_over rfl (.tmp 25) (.tmp 31) 45 rfl TM i0 2 Tryd.underlying45 hi0 hz1 g (o + 2) (s.late.length - 1) (cap - 1) cur HG.out (by simp [Act.eval, Act.put]) ⟨g, o, none⟩ k cap cs (by simp [Act.eval, Act.put]) (by omega) HCL.out hsrc.out s2.out (by rw [HCL.out]; omega) ?_; rw [← HW1.out])
    all_goals go_wp2
    all_goals
      have hX : Blk (((W2.setCell ⟨D, 2, none⟩ (.slice (some ⟨g, o + 2, none⟩) (s.late.length - 1) (cap - 1))).setCell ⟨w.heap.size, 0, none⟩ (.int .i64 x)).setCell ⟨w.heap.size, 1, none⟩ (.string y)) w.heap.size #[.int .i64 x, .string y] TM := ((HX0.out.other k1 2 _).set 0 _).set 1 _
      refine bodyPost_ret (v := .agg #[.int .i64 x, .string y]) (results_cell_row Tryd.results31 _ _ w.heap.size TM _ (0, 0) _ rfl hX Tryd.underlying64 rfl (by kernel_rfl)) rfl ⟨rfl, ?_⟩
      refine NMoved.boxed HB0.out (HP.out.set2 (u2 := .slice (some ⟨g, o + 2, none⟩) (s.late.length - 1) (cap - 1)) HFIT.out HGR.out ?_ (fun g' hg' => Or.inl hg')) HF.out (Nat.le_refl _) (by rw [HS0.out]; omega) _ _
      rw [HLEN.out, HEV.out]
      refine ⟨by rw [← HEV.out, lateV_len, HLEN.out], Or.inr ⟨g, o + 2, cap - 1, _, rfl, HG2.out, by omega, by omega, by rw [HD1.out]; have := hs2.out; omega, HD2.out⟩⟩
  · have hge : ¬ ((k : Int) < (s.late.length : Int) / 2) := by omega
    have hd := deleteM_at W0 g o s.late.length cap k cur (lateV s.late) hg0 hn hm hs hx hxl (lateV_one _) hk
    clear hx hc hg hs hxl h bA b0 h0 hr0 hr1 hs0 hg0 hck hck2 c1 cf1 hlen hfit
    go_enter Tryd.func31, Tryd.ntmps31
    go_wp2_with (go_at_call 38; refine hd.mono ?_; rintro e w1 ⟨rfl, hr, hgr⟩; have HR := hide hr; have HG := hide hgr; have hD1 : Blk w1 D #[.bool true, v1, .slice (some ⟨g, o, none⟩) s.late.length cap] TN := (HG.out.block D (HP.out.lt D HP.out.mD) (fun e => HP.out.ne2 e.symm)).trans HP.out.hD; have cc1 : w1.cell? ⟨D, 2, none⟩ = some (.slice (some ⟨g, o, none⟩) s.late.length cap) := hD1.cell 2; have ccf := hD1.free 2; have hx0 : Blk w1 w.heap.size #[.int .i64 0, .string ⟨#[]⟩] TM := (HG.out.block w.heap.size HR0.out.lt (by simp; omega)).trans HR0.out; have hx1 : Blk w1 (w.heap.size + 1) #[.int .i64 x, .string y] TM := (HG.out.block (w.heap.size + 1) HR1.out.lt (by simp; omega)).trans HR1.out; have y0 : w1.cell? ⟨w.heap.size, 0, none⟩ = some (.int .i64 0) := hx0.cell 0; have y1 : w1.cell? ⟨w.heap.size, 1, none⟩ = some (.string ⟨#[]⟩) := hx0.cell 1; have y2 := hx0.free 0; have y3 := hx0.free 1; have y4 : w1.cell? ⟨w.heap.size + 1, 0, none⟩ = some (.int .i64 x) := hx1.cell 0; have y5 : w1.cell? ⟨w.heap.size + 1, 1, none⟩ = some (.string y) := hx1.cell 1; have HX0 := hide hx0; clear hr hgr hD1 hx0 hx1)
    have hX : Blk (((w1.setCell ⟨D, 2, none⟩ (.slice (some ⟨g, o, none⟩) (s.late.length - 1) cap)).setCell ⟨w.heap.size, 0, none⟩ (.int .i64 x)).setCell ⟨w.heap.size, 1, none⟩ (.string y)) w.heap.size #[.int .i64 x, .string y] TM := ((HX0.out.other k1 2 _).set 0 _).set 1 _
    refine bodyPost_ret (v := .agg #[.int .i64 x, .string y]) (results_cell_row Tryd.results31 _ _ w.heap.size TM _ (0, 0) _ rfl hX Tryd.underlying64 rfl (by kernel_rfl)) rfl ⟨rfl, ?_⟩
    refine NMoved.boxed HB0.out (HP.out.set2 (u2 := .slice (some ⟨g, o, none⟩) (s.late.length - 1) cap) HFIT.out HG.out ?_ (fun g' hg' => Or.inl hg')) HF.out (Nat.le_refl _) (by rw [HS0.out]; omega) _ _
    rw [HLEN.out, HEV.out]
    exact HR.out
end Go.Proofs.YtgbjlkaaniaaaaaDoor
