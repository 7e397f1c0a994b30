/- mark of package group (by gendo415.py). -/
import Derived.Test.YtipgociofjokeaaGreatGDo5
import Derived.Deep.RegionHeld3
import Derived.OrdersHeld
namespace Go.Proofs.YtipgociofjokeaaGreat
open Go.RowKit Go.Shelf Go.Sort
variable {w w' : World} {g M1 M2 M3 n : Nat} {A : Nm → Sl} {pv : Value} {G : Gp} {F : List Nat}

theorem may_i64' {n : Int} (h : inN n) : -9223372036854775808 ≤ n ∧ n ≤ 9223372036854775807 := by unfold inN at h; omega
/-- What Mark makes of the offsets. -/
noncomputable def offN (yes : Bool) (pr : Int) (l : List (Int × Int × Int)) (f : Int → Option Int) : Int → Option Int := if yes then (l.filter (fun y => y.1 == pr)).foldl (fun f y => setN f y.2.1 (some y.2.2)) f else f
def cntN (yes : Bool) (pr : Int) (l : List (Int × Int × Int)) : Nat := if yes then (l.filter (fun y => y.1 == pr)).length else 0
theorem offN_yes (pr : Int) (l : List (Int × Int × Int)) (f : Int → Option Int) (y : Int × Int × Int) (h : (y.1 == pr) = true) : offN true pr (l ++ [y]) f = setN (offN true pr l f) y.2.1 (some y.2.2) ∧ cntN true pr (l ++ [y]) = cntN true pr l + 1 := by
  unfold offN cntN
  simp [List.filter_append, h]
theorem offN_no (yes : Bool) (pr : Int) (l : List (Int × Int × Int)) (f : Int → Option Int) (y : Int × Int × Int) (h : yes = false ∨ (y.1 == pr) = false) : offN yes pr (l ++ [y]) f = offN yes pr l f ∧ cntN yes pr (l ++ [y]) = cntN yes pr l := by
  unfold offN cntN
  cases yes with
  | false => simp
  | true =>
    have h2 := h.resolve_left (by decide)
    simp [List.filter_append, h2]
theorem cnt_le (yes : Bool) (pr : Int) (l : List (Int × Int × Int)) : cntN yes pr l + (l.filter (fun y => !(y.1 == pr))).length ≤ l.length := by
  have h : (l.filter (fun y => y.1 == pr)).length + (l.filter (fun y => !(y.1 == pr))).length = l.length := by
    induction l with
    | nil => rfl
    | cons y l ih =>
      cases hy : (y.1 == pr) with
      | true => simp [hy] at ih ⊢; omega
      | false => simp [hy] at ih ⊢; omega
  unfold cntN
  split <;> omega
set_option maxRecDepth 100000 in
set_option maxHeartbeats 2000000 in
theorem mark_any (h : GAt w F g n G) (x : Ev) (hp : -9223372036854775808 ≤ x.prod ∧ x.prod ≤ 9223372036854775807) (hn : n + 102 ≤ 598134325510144) : Calls Tryz.prog 31 #[.pointer (some ⟨g, 0, none⟩), .agg (evA x)] w fun r w' => r = .returned (.tuple #[]) ∧ GMv w w' F g (n + 102) { G with off := offN x.yes x.prod G.pend G.off, pend := G.pend.filter (fun y => !(y.1 == x.prod)), ep := setN G.ep x.prod (some x.ep) } := by
  obtain ⟨⟨M1, M2, M3, A, pv, h⟩, ho, hF⟩ := h
  have HMk0 := hid (fun (y : Int × Int × Int) W => marks_any x y W)
  have HDl0 : Hid (∀ W v, OwnK kPd W 0 v G.pend → Calls Tryz.prog 50 #[v, .func (.func 49) #[.agg (evA x)] #[]] W fun r w' => ∃ v', r = .returned v' ∧ OwnK kPd w' 0 v' (G.pend.filter (fun y => !(y.1 == x.prod))) ∧ v'.ownBlock = v.ownBlock ∧ Chg v.ownBlock.toList W w') := fun W v hv => deleteP x hv (by have := ho.pend; omega)
  obtain ⟨k, s, a, b, c, d, e, f, q⟩ := x
  dsimp only at *
  obtain ⟨t, ht⟩ : ∃ t, nmS s = t := ⟨_, rfl⟩
  show Calls Tryz.prog _ #[_, .agg #[.int .i64 k, .string (nmS s), .int .i64 a, .int .i64 b, .int .i64 c, .int .i64 d, .int .i64 e, .int .i64 f, .bool q]] w _
  rw [ht]
  obtain ⟨W1, hW1⟩ : ∃ W1, w.alloc (.cells #[.int .i64 k, .string t, .int .i64 a, .int .i64 b, .int .i64 c, .int .i64 d, .int .i64 e, .int .i64 f, .bool q] TEv) = W1 := ⟨_, rfl⟩
  have b1 : Below w.heap.size w W1 := by rw [← hW1]; exact (Below.refl _ _).alloc (Nat.le_refl _) _
  have x1 : Blk W1 w.heap.size #[.int .i64 k, .string t, .int .i64 a, .int .i64 b, .int .i64 c, .int .i64 d, .int .i64 e, .int .i64 f, .bool q] TEv := by rw [← hW1]; exact heap_alloc_new w _
  obtain ⟨pa, pc, hpv, hpA⟩ := h.pend.form kPd_ok.tofit
  obtain ⟨pm, hpm⟩ : ∃ pm, G.pend.length = pm := ⟨_, rfl⟩
  rw [hpm] at hpv hpA
  subst hpv
  dsimp only [evA] at HMk0 HDl0
  simp only [ht] at HMk0 HDl0
  have hpp := ho.pend
  rw [hpm] at hpp
  have hg1 := h.later b1
  have hpl : pm ≤ 9223372036854775807 := by omega
  have hmf : ∀ (fn : Fn) (first cap : Array Value) (w : World), (Instr.makeFunc fn first cap).run Tryz.prog w = .ok (.func fn first cap) w := fun _ _ _ _ => rfl
  have HG1 := hid hg1
  have HX1 := hid x1
  have HPA := hid (hpA.later b1)
  have hgl := h.box.lt
  have hM2l := h.off.lt
  have hM3l := h.ep.lt
  have hgM2 := blk_map_ne h.box h.off
  have cg5 := hg1.box.cell 5
  simp only [List.getElem?_toArray, List.getElem?_cons_zero, List.getElem?_cons_succ] at cg5
  have HPin := hid ho.pin
  have HPm := hid hpm
  have HPs := hid hpp
  -- the end: what is left when all were looked at
  have HEnd : Hid (∀ W2, MapF W2 3 M2 (n - G.pend.length + cntN q d G.pend) (intF (offN q d G.pend G.off)) → Chg [M2] W1 W2 → ∀ v' W3, OwnK kPd W3 0 v' (G.pend.filter (fun y => !(y.1 == d))) → v'.ownBlock = (Value.slice pa pm pc).ownBlock → Chg (Value.slice pa pm pc).ownBlock.toList W2.drew W3 →
      ∃ W5, (W3.cell? ⟨w.heap.size, 0, none⟩ = some (.int .i64 k) ∧ W3.cell? ⟨w.heap.size, 1, none⟩ = some (.string t) ∧ W3.cell? ⟨w.heap.size, 2, none⟩ = some (.int .i64 a) ∧ W3.cell? ⟨w.heap.size, 3, none⟩ = some (.int .i64 b) ∧ W3.cell? ⟨w.heap.size, 4, none⟩ = some (.int .i64 c) ∧ W3.cell? ⟨w.heap.size, 5, none⟩ = some (.int .i64 d) ∧ W3.cell? ⟨w.heap.size, 6, none⟩ = some (.int .i64 e) ∧ W3.cell? ⟨w.heap.size, 7, none⟩ = some (.int .i64 f) ∧ W3.cell? ⟨w.heap.size, 8, none⟩ = some (.bool q)) ∧ (W3.cell? ⟨g, 5, none⟩ = some (.slice pa pm pc) ∧ W3.frozen? ⟨g, 5, none⟩ = false) ∧ ((W3.setCell ⟨g, 5, none⟩ v').cell? ⟨w.heap.size, 0, none⟩ = some (.int .i64 k) ∧ (W3.setCell ⟨g, 5, none⟩ v').cell? ⟨w.heap.size, 1, none⟩ = some (.string t) ∧ (W3.setCell ⟨g, 5, none⟩ v').cell? ⟨w.heap.size, 2, none⟩ = some (.int .i64 a) ∧ (W3.setCell ⟨g, 5, none⟩ v').cell? ⟨w.heap.size, 3, none⟩ = some (.int .i64 b) ∧ (W3.setCell ⟨g, 5, none⟩ v').cell? ⟨w.heap.size, 4, none⟩ = some (.int .i64 c) ∧ (W3.setCell ⟨g, 5, none⟩ v').cell? ⟨w.heap.size, 5, none⟩ = some (.int .i64 d) ∧ (W3.setCell ⟨g, 5, none⟩ v').cell? ⟨w.heap.size, 6, none⟩ = some (.int .i64 e) ∧ (W3.setCell ⟨g, 5, none⟩ v').cell? ⟨w.heap.size, 7, none⟩ = some (.int .i64 f) ∧ (W3.setCell ⟨g, 5, none⟩ v').cell? ⟨w.heap.size, 8, none⟩ = some (.bool q)) ∧ ((W3.setCell ⟨g, 5, none⟩ v').drew.cell? ⟨w.heap.size, 5, none⟩ = some (.int .i64 d) ∧ (W3.setCell ⟨g, 5, none⟩ v').drew.cell? ⟨w.heap.size, 6, none⟩ = some (.int .i64 e) ∧ (W3.setCell ⟨g, 5, none⟩ v').drew.cell? ⟨g, 6, none⟩ = some (.map (some M3))) ∧ (Instr.mapUpdate TIi (.map (some M3)) (.int .i64 d) (.int .i64 e)).run Tryz.prog (W3.setCell ⟨g, 5, none⟩ v').drew = .ok () W5 ∧ (W5.cell? ⟨w.heap.size, 5, none⟩ = some (.int .i64 d) ∧ W5.cell? ⟨w.heap.size, 6, none⟩ = some (.int .i64 e) ∧ W5.cell? ⟨g, 6, none⟩ = some (.map (some M3))) ∧ GMv w W5 F g (n + 102) { G with off := offN q d G.pend G.off, pend := G.pend.filter (fun y => !(y.1 == d)), ep := setN G.ep d (some e) }) := fun W2 hM hC v' W3 hO hbv hD => by
    have hXp : ∀ z ∈ (Value.slice pa pm pc).ownBlock.toList, (Value.slice pa pm pc).ownBlock = some z := fun z hz => by simpa using hz
    have hXw : ∀ z ∈ (Value.slice pa pm pc).ownBlock.toList, z < w.heap.size := fun z hz => (h.pend.block z (hXp z hz)).2.1
    have gX : g ∉ (Value.slice pa pm pc).ownBlock.toList := fun hm => own_blk_ne h.pend (hXp _ hm) h.box (by decide) rfl
    have hC2 : Chg [M2] W1 W2.drew := ⟨hC.os, hC.tape, hC.output, hC.size, hC.block⟩
    have hcX : Chg ([M2] ++ (Value.slice pa pm pc).ownBlock.toList) W1 W3 := (hC2.mono (fun z hz => List.mem_append_left _ hz)).trans (hD.mono (fun z hz => List.mem_append_right _ hz)) (fun z hz => Or.inl hz)
    have hoff3 : MapF W3 3 M2 (n - G.pend.length + cntN q d G.pend) (intF (offN q d G.pend G.off)) := mapF_chg (w := W2.drew) (hM.keep rfl) hD (fun hm => own_map_ne h.pend (hXp _ hm) h.off rfl)
    have hcl := cnt_le q d G.pend
    have gp4 := hg1.pendTo (F' := F) (n' := n + 101) hcX (fun z hz => by rcases List.mem_append.1 hz with hz | hz; exact Or.inl (by simpa using hz); exact Or.inr (hXp z hz)) hoff3 (by omega) (by omega) hO (fun z hz => hz) (fun z hz => h.inP z (by rw [← hbv]; exact hz))
    have hx3 := x1.chg hcX (fun hm => by rcases List.mem_append.1 hm with hm | hm; (have : w.heap.size = M2 := by simpa using hm); omega; have := hXw _ hm; omega)
    have hb3 := hg1.box.chg hcX (fun hm => by rcases List.mem_append.1 hm with hm | hm; (have : g = M2 := by simpa using hm); exact hgM2 this; exact gX hm)
    have hs4 : Chg [g] W3 (W3.setCell ⟨g, 5, none⟩ v') := (Chg.refl _ _).set (Or.inl (by simp)) 5 _
    have hx4 := hx3.chg hs4 (by simp; omega)
    have gp4d := gp4.keep (w' := (W3.setCell ⟨g, 5, none⟩ v').drew) (fun _ _ _ => rfl)
    obtain ⟨W5, hr5, gp5, hc5⟩ := gp4d.storeEp (by unfold maxLen; omega) hp.1 hp.2 e
    have hx5 : Blk W5 w.heap.size #[.int .i64 k, .string t, .int .i64 a, .int .i64 b, .int .i64 c, .int .i64 d, .int .i64 e, .int .i64 f, .bool q] TEv := Blk.chg (w := (W3.setCell ⟨g, 5, none⟩ v').drew) hx4 hc5 (by simp; omega)
    refine ⟨W5, ⟨hx3.cell 0, hx3.cell 1, hx3.cell 2, hx3.cell 3, hx3.cell 4, hx3.cell 5, hx3.cell 6, hx3.cell 7, hx3.cell 8⟩, ⟨hb3.cell 5, hb3.free 5⟩, ⟨hx4.cell 0, hx4.cell 1, hx4.cell 2, hx4.cell 3, hx4.cell 4, hx4.cell 5, hx4.cell 6, hx4.cell 7, hx4.cell 8⟩, ⟨hx4.cell 5, hx4.cell 6, gp4.box.cell 6⟩, hr5, ⟨hx5.cell 5, hx5.cell 6, gp5.box.cell 6⟩, F, ⟨⟨M1, M2, M3, A, _, gp5⟩, ?_, fun z hz => ?_⟩, ?_, fun z hz => Or.inl hz⟩
    · refine ⟨ho.sorted, ho.nodup, ho.mem, ho.name, ho.cnt, ho.parts, ho.sess, ho.heard, ho.share, ⟨ho.gen.1, by have := ho.gen.2; show G.gen ≤ ((n + 102 : Nat) : Int); omega⟩, ?_, fun y hy => ho.pin y (List.mem_filter.1 hy).1⟩
      show (G.pend.filter (fun y => !(y.1 == d))).length * 102 ≤ n + 102
      have := ho.pend
      omega
    · exact Nat.lt_of_lt_of_le (hF z hz) (Nat.le_trans b1.size (Nat.le_trans hcX.size (Nat.le_trans hs4.size hc5.size)))
    · have k2 : Chg F w W3 := (Chg.of b1).trans (hcX.mono (fun z hz => by rcases List.mem_append.1 hz with hz | hz; (have : z = M2 := by simpa using hz); rw [this]; exact h.in2; exact h.inP z (hXp z hz))) (fun z hz => Or.inl hz)
      have k3 : Chg F w (W3.setCell ⟨g, 5, none⟩ v') := k2.trans (hs4.mono (fun z hz => by simp at hz; subst hz; exact h.inG)) (fun z hz => Or.inl hz)
      have k4 : Chg F w (W3.setCell ⟨g, 5, none⟩ v').drew := ⟨k3.os, k3.tape, k3.output, k3.size, k3.block⟩
      exact k4.trans (hc5.mono (fun z hz => by simp at hz; subst hz; exact h.in3)) (fun z hz => Or.inl hz)
  have HM0 : Hid (MapF W1 3 M2 (n - G.pend.length + cntN q d (G.pend.take 0)) (intF (offN q d (G.pend.take 0) G.off))) := by
    rw [List.take_zero]
    have e1 : cntN q d [] = 0 := by unfold cntN; cases q <;> rfl
    have e2 : offN q d [] G.off = G.off := by unfold offN; cases q <;> rfl
    rw [e1, e2]
    exact hg1.off
  clear h ho hF b1 x1 hg1 hpA hpm hpp
  go_enter Tryz.func31, Tryz.ntmps31
  go_wp2_with fail
  go_loopw [11] (fun i wr => ∃ j : Nat, j ≤ pm ∧ i = .int .i64 (j : Int) ∧ Hid (MapF wr 3 M2 (n - G.pend.length + cntN q d (G.pend.take j)) (intF (offN q d (G.pend.take j) G.off))) ∧ Hid (Chg [M2] W1 wr)) (fun i _ => pm - (intOf i).toNat)
  case atStart => exact ⟨0, by omega, rfl, HM0, Chg.refl _ _⟩
  case round =>
    obtain ⟨j, hj, rfl, HMj, HCj⟩ := hrel
    clear HM0
    have hMb : ∀ b' off', pa = some ⟨b', off', none⟩ → b' ≠ M2 := fun b' off' e => own_map_ne HG1.out.pend (b := b') (by subst e; rcases HG1.out.pend.2 with ⟨e2, -⟩ | ⟨g2, c2, cur2, e2, -⟩; cases e2; injection e2 with e3; injection e3 with e3; injection e3 with e4 e5; subst e4 e5; rfl) HG1.out.off
    have hxw := HX1.out.chg HCj.out (by simp; omega)
    have hgw := HG1.out.box.chg HCj.out (by simpa using hgM2)
    by_cases hlt : j < pm
    · obtain ⟨b', off', hpa, hs, hc⟩ := (HPA.out.chg HCj.out (fun _ b' off' e => by have := hMb b' off' e; simpa using this)).cells (by omega)
      have r0 : wr.cell? ⟨b', off' + j * 3, none⟩ = some (.int .i64 (G.pend.getD j pd0).1) := hc j hlt 0 (by decide)
      have r1 : wr.cell? ⟨b', off' + j * 3 + 1, none⟩ = some (.int .i64 (G.pend.getD j pd0).2.1) := hc j hlt 1 (by decide)
      have r2 : wr.cell? ⟨b', off' + j * 3 + 2, none⟩ = some (.int .i64 (G.pend.getD j pd0).2.2) := hc j hlt 2 (by decide)
      have hjl : j < G.pend.length := by rw [HPm.out]; exact hlt
      have hyin := HPin.out (G.pend.getD j pd0) (by rw [List.getD_eq_getElem?_getD, List.getElem?_eq_getElem hjl]; exact List.getElem_mem hjl)
      have hsn := take_snoc_any G.pend pd0 j hjl
      obtain ⟨y, hy⟩ : ∃ y, G.pend.getD j pd0 = y := ⟨_, rfl⟩
      rw [hy] at r0 r1 r2 hyin hsn
      obtain ⟨y0, y1, y2⟩ := y
      dsimp only at r0 r1 r2 hyin
      have HY := hid hyin
      have HSn := hid hsn
      have HCm := hid (HMk0.out (y0, y1, y2))
      obtain ⟨X1, hX1⟩ : ∃ X1, wr.alloc (.cells #[.int .i64 y0, .int .i64 y1, .int .i64 y2] 77) = X1 := ⟨_, rfl⟩
      have bX : Below wr.heap.size wr X1 := by rw [← hX1]; exact (Below.refl _ _).alloc (Nat.le_refl _) _
      have xX : Blk X1 wr.heap.size #[.int .i64 y0, .int .i64 y1, .int .i64 y2] 77 := by rw [← hX1]; exact heap_alloc_new wr _
      obtain ⟨p0, p1, p2⟩ : X1.cell? ⟨wr.heap.size, 0, none⟩ = some (.int .i64 y0) ∧ X1.cell? ⟨wr.heap.size, 1, none⟩ = some (.int .i64 y1) ∧ X1.cell? ⟨wr.heap.size, 2, none⟩ = some (.int .i64 y2) := ⟨xX.cell 0, xX.cell 1, xX.cell 2⟩
      have hxx := hxw.later bX
      obtain ⟨c0, c1, c2, c3, c4, c5, c6, c7, c8⟩ : X1.cell? ⟨w.heap.size, 0, none⟩ = some (.int .i64 k) ∧ X1.cell? ⟨w.heap.size, 1, none⟩ = some (.string t) ∧ X1.cell? ⟨w.heap.size, 2, none⟩ = some (.int .i64 a) ∧ X1.cell? ⟨w.heap.size, 3, none⟩ = some (.int .i64 b) ∧ X1.cell? ⟨w.heap.size, 4, none⟩ = some (.int .i64 c) ∧ X1.cell? ⟨w.heap.size, 5, none⟩ = some (.int .i64 d) ∧ X1.cell? ⟨w.heap.size, 6, none⟩ = some (.int .i64 e) ∧ X1.cell? ⟨w.heap.size, 7, none⟩ = some (.int .i64 f) ∧ X1.cell? ⟨w.heap.size, 8, none⟩ = some (.bool q) := ⟨hxx.cell 0, hxx.cell 1, hxx.cell 2, hxx.cell 3, hxx.cell 4, hxx.cell 5, hxx.cell 6, hxx.cell 7, hxx.cell 8⟩
      have HBX := hid bX
      have HXX := hid xX
      have HGW := hid hgw
      have hwM : M2 < wr.heap.size := HMj.out.lt
      subst hpa
      clear hc hs hy hsn hyin bX xX hxx hxw hgw hjl hMb
      have HNo : Hid ((q = false ∨ (y0 == d) = false) → ∀ X, Below wr.heap.size wr X → MapF X 3 M2 (n - G.pend.length + cntN q d (G.pend.take (j + 1))) (intF (offN q d (G.pend.take (j + 1)) G.off)) ∧ Chg [M2] W1 X) := fun hh X hX => by
        obtain ⟨e1, e2⟩ := offN_no q d (G.pend.take j) G.off (y0, y1, y2) hh
        rw [HSn.out, e1, e2]
        exact ⟨HMj.out.keep (hX.block _ HMj.out.lt), HCj.out.trans (Chg.of hX) (fun k hk => Or.inl hk)⟩
      cases q with
      | false =>
        obtain ⟨hMn, hCn⟩ := HNo.out (Or.inl rfl) X1 HBX.out
        have HMn := hid hMn
        have HCn := hid hCn
        clear hMn hCn HNo
        go_wp2_with fail
        go_roundw
        case rel => exact ⟨j + 1, by omega, by go_num, HMn, HCn⟩
        case measure => simp [intOf]; omega
      | true =>
        cases hyd : (y0 == d) with
        | false =>
          rw [hyd] at HCm
          go_wp2_with (go_at_call 49; (with_reducible_and_instances (refine (HCm.out _).mono ?_)); rintro r X2 ⟨rfl, hb2⟩; have HB2 := hid (HBX.out.trans (hb2.mono HBX.out.size)); clear hb2)
          obtain ⟨hMn, hCn⟩ := HNo.out (Or.inr hyd) X2 HB2.out
          have HMn := hid hMn
          have HCn := hid hCn
          go_roundw
          case rel => exact ⟨j + 1, by omega, by go_num, HMn, HCn⟩
          case measure => simp [intOf]; omega
        | true =>
          rw [hyd] at HCm
          have HYs : Hid (∀ X, Below X1.heap.size X1 X → ∃ X3, (Instr.mapUpdate TIi (.map (some M2)) (.int .i64 y1) (.int .i64 y2)).run Tryz.prog X.drew = .ok () X3 ∧ (X.drew.cell? ⟨g, 4, none⟩ = some (.map (some M2)) ∧ X.drew.cell? ⟨wr.heap.size, 1, none⟩ = some (.int .i64 y1) ∧ X.drew.cell? ⟨wr.heap.size, 2, none⟩ = some (.int .i64 y2)) ∧ (X3.cell? ⟨g, 4, none⟩ = some (.map (some M2)) ∧ X3.cell? ⟨wr.heap.size, 1, none⟩ = some (.int .i64 y1) ∧ X3.cell? ⟨wr.heap.size, 2, none⟩ = some (.int .i64 y2)) ∧ MapF X3 3 M2 (n - G.pend.length + cntN true d (G.pend.take (j + 1))) (intF (offN true d (G.pend.take (j + 1)) G.off)) ∧ Chg [M2] W1 X3) := fun X hX => by
            obtain ⟨e1, e2⟩ := offN_yes d (G.pend.take j) G.off (y0, y1, y2) hyd
            have hyi := may_i64' HY.out
            have hk2 := cnt_le true d (G.pend.take j)
            have hlj : (G.pend.take j).length ≤ pm := by rw [List.length_take, HPm.out]; omega
            have hX0 : Below wr.heap.size wr X := HBX.out.trans (hX.mono HBX.out.size)
            have hmX : MapF X.drew 3 M2 (n - G.pend.length + cntN true d (G.pend.take j)) (intF (offN true d (G.pend.take j) G.off)) := (HMj.out.keep (hX0.block _ HMj.out.lt)).keep rfl
            have hps := HPs.out
            obtain ⟨X3, hr3, hM3, hc3⟩ := hmX.store keyI Tryz.underlying38 (by unfold maxLen; omega) (key := .int .i64 y1) (val := .int .i64 y2) (keyOf_z hyi.1 hyi.2)
            have hbX := HXX.out.later hX
            have hgX := HGW.out.later hX0
            have hb3 : Blk X3 wr.heap.size #[.int .i64 y0, .int .i64 y1, .int .i64 y2] 77 := Blk.chg (w := X.drew) hbX hc3 (by simp; omega)
            have hg3 := Blk.chg (w := X.drew) (w' := X3) hgX hc3 (by simpa using hgM2)
            have hcd : Chg [M2] W1 X.drew := by
              have k := HCj.out.trans (Chg.of hX0) (fun z hz => Or.inl hz)
              exact ⟨k.os, k.tape, k.output, k.size, k.block⟩
            refine ⟨X3, hr3, ⟨hgX.cell 4, hbX.cell 1, hbX.cell 2⟩, ⟨hg3.cell 4, hb3.cell 1, hb3.cell 2⟩, ?_, hcd.trans hc3 (fun z hz => Or.inl hz)⟩
            rw [HSn.out, e1, e2]
            exact hM3.congr (intF_set _ _ _)
          clear HNo hyd
          go_wp2_with (go_at_call 49; (with_reducible_and_instances (refine (HCm.out _).mono ?_)); rintro r X2 ⟨rfl, hb2⟩; obtain ⟨X3, hr3, s5, s5b, hMn, hCn⟩ := HYs.out X2 hb2; have HS5 := hid s5; have HS5b := hid s5b; have HMn := hid hMn; have HCn := hid hCn; clear hb2 s5 s5b hMn hCn)
          refine wp_region_held_drew (S := fun W => W.cell? ⟨g, 4, none⟩ = some (.map (some M2)) ∧ W.cell? ⟨wr.heap.size, 1, none⟩ = some (.int .i64 y1) ∧ W.cell? ⟨wr.heap.size, 2, none⟩ = some (.int .i64 y2)) (by kernel_rfl) (HS5.out) (fun hHeld => ?_)
          refine wpAnyH_take (i := 0) (oi := { dst := some 22, op := Op.move (Operand.tmp 0), type := 23, pos := "deeds.go:108", after := #[], guard := none }) (v := ?_) rfl (by kernel_rfl) (by kernel_rfl) (by kernel_rfl) (fun _ _ _ h => h) (Or.inl ⟨by rfl, ?_⟩) hHeld ?_
          rotate_left
          · intro w hSw; (try dsimp only at hSw); go_simp; try with_reducible rfl
          try simp only [Act.put, List.setIfInBounds_toArray, List.set_cons_zero, List.set_cons_succ]
          refine wpAnyH_take (i := 1) (oi := { dst := some 23, op := Op.nilCheck (Operand.tmp 22), type := 0, pos := "deeds.go:108", after := #[{ on := 0, ground := Ground.data }], guard := none }) (v := ?_) rfl (by kernel_rfl) (by kernel_rfl) (by kernel_rfl) (fun _ _ _ h => h) (Or.inl ⟨by rfl, ?_⟩) hHeld ?_
          rotate_left
          · intro w hSw; (try dsimp only at hSw); go_simp; try with_reducible rfl
          try simp only [Act.put, List.setIfInBounds_toArray, List.set_cons_zero, List.set_cons_succ]
          refine wpAnyH_take (i := 2) (oi := { dst := some 24, op := Op.fieldAddr 41 (Operand.tmp 23) 4, type := 0, pos := "deeds.go:108", after := #[{ on := 1, ground := Ground.data }], guard := none }) (v := ?_) rfl (by kernel_rfl) (by kernel_rfl) (by kernel_rfl) (fun _ _ _ h => h) (Or.inl ⟨by rfl, ?_⟩) hHeld ?_
          rotate_left
          · intro w hSw; (try dsimp only at hSw); go_simp; try with_reducible rfl
          try simp only [Act.put, List.setIfInBounds_toArray, List.set_cons_zero, List.set_cons_succ]
          refine wpAnyH_take (i := 3) (oi := { dst := some 25, op := Op.load 38 (Operand.tmp 24), type := 38, pos := "deeds.go:108", after := #[{ on := 2, ground := Ground.data }], guard := none }) (v := ?_) rfl (by kernel_rfl) (by kernel_rfl) (by kernel_rfl) (fun _ _ _ h => h) (Or.inl ⟨by rfl, ?_⟩) hHeld ?_
          rotate_left
          · intro w hSw; (try dsimp only at hSw); go_simp; try with_reducible rfl
          try simp only [Act.put, List.setIfInBounds_toArray, List.set_cons_zero, List.set_cons_succ]
          refine wpAnyH_take (i := 4) (oi := { dst := some 26, op := Op.fieldAddr 77 (Operand.tmp 5) 1, type := 0, pos := "deeds.go:108", after := #[], guard := none }) (v := ?_) rfl (by kernel_rfl) (by kernel_rfl) (by kernel_rfl) (fun _ _ _ h => h) (Or.inl ⟨by rfl, ?_⟩) hHeld ?_
          rotate_left
          · intro w hSw; (try dsimp only at hSw); go_simp; try with_reducible rfl
          try simp only [Act.put, List.setIfInBounds_toArray, List.set_cons_zero, List.set_cons_succ]
          refine wpAnyH_take (i := 5) (oi := { dst := some 27, op := Op.load 3 (Operand.tmp 26), type := 3, pos := "deeds.go:108", after := #[{ on := 4, ground := Ground.data }], guard := none }) (v := ?_) rfl (by kernel_rfl) (by kernel_rfl) (by kernel_rfl) (fun _ _ _ h => h) (Or.inl ⟨by rfl, ?_⟩) hHeld ?_
          rotate_left
          · intro w hSw; (try dsimp only at hSw); go_simp; try with_reducible rfl
          try simp only [Act.put, List.setIfInBounds_toArray, List.set_cons_zero, List.set_cons_succ]
          refine wpAnyH_take (i := 6) (oi := { dst := some 28, op := Op.fieldAddr 77 (Operand.tmp 5) 2, type := 0, pos := "deeds.go:108", after := #[], guard := none }) (v := ?_) rfl (by kernel_rfl) (by kernel_rfl) (by kernel_rfl) (fun _ _ _ h => h) (Or.inl ⟨by rfl, ?_⟩) hHeld ?_
          rotate_left
          · intro w hSw; (try dsimp only at hSw); go_simp; try with_reducible rfl
          try simp only [Act.put, List.setIfInBounds_toArray, List.set_cons_zero, List.set_cons_succ]
          refine wpAnyH_take (i := 7) (oi := { dst := some 29, op := Op.load 3 (Operand.tmp 28), type := 3, pos := "deeds.go:108", after := #[{ on := 6, ground := Ground.data }], guard := none }) (v := ?_) rfl (by kernel_rfl) (by kernel_rfl) (by kernel_rfl) (fun _ _ _ h => h) (Or.inl ⟨by rfl, ?_⟩) hHeld ?_
          rotate_left
          · intro w hSw; (try dsimp only at hSw); go_simp; try with_reducible rfl
          try simp only [Act.put, List.setIfInBounds_toArray, List.set_cons_zero, List.set_cons_succ]
          refine wpAnyH_ready (rs := [8]) (by kernel_rfl) (by simp) ?_
          refine AllReadyH.cons rfl (fun K hK => ?_) (AllReadyH.nil)
          go_simp
          refine hK.out _ _ (HS5b.out) (fun hHeld => ?_)
          clear hK K
          try simp only [Act.put, List.setIfInBounds_toArray, List.set_cons_zero, List.set_cons_succ]
          refine wpAnyH_done (by kernel_rfl) ?_ _
          clear hHeld
          go_wp2_with fail
          go_roundw
          case rel => exact ⟨j + 1, by omega, by go_num, HMn, HCn⟩
          case measure => simp [intOf]; omega
    · obtain rfl : pm = j := by omega
      have hMe := HMj.out
      rw [List.take_of_length_le (by rw [HPm.out]; exact Nat.le_refl _)] at hMe
      have HFn := hid (HEnd.out wr hMe HCj.out)
      have HS7 : Hid (wr.drew.cell? ⟨w.heap.size, 0, none⟩ = some (.int .i64 k) ∧ wr.drew.cell? ⟨w.heap.size, 1, none⟩ = some (.string t) ∧ wr.drew.cell? ⟨w.heap.size, 2, none⟩ = some (.int .i64 a) ∧ wr.drew.cell? ⟨w.heap.size, 3, none⟩ = some (.int .i64 b) ∧ wr.drew.cell? ⟨w.heap.size, 4, none⟩ = some (.int .i64 c) ∧ wr.drew.cell? ⟨w.heap.size, 5, none⟩ = some (.int .i64 d) ∧ wr.drew.cell? ⟨w.heap.size, 6, none⟩ = some (.int .i64 e) ∧ wr.drew.cell? ⟨w.heap.size, 7, none⟩ = some (.int .i64 f) ∧ wr.drew.cell? ⟨w.heap.size, 8, none⟩ = some (.bool q)) := ⟨hxw.cell 0, hxw.cell 1, hxw.cell 2, hxw.cell 3, hxw.cell 4, hxw.cell 5, hxw.cell 6, hxw.cell 7, hxw.cell 8⟩
      have HL7 : Hid (wr.drew.cell? ⟨g, 5, none⟩ = some (.slice pa pm pc)) := hgw.cell 5
      have hpO : OwnK kPd wr.drew 0 (.slice pa pm pc) G.pend := HG1.out.pend.keep (fun z hz => HCj.out.block z (HG1.out.pend.block z hz).2.1 (fun hm => own_map_ne HG1.out.pend hz HG1.out.off (by simpa using hm)))
      have HDl := hid (HDl0.out wr.drew (.slice pa pm pc) hpO)
      clear hMe hpO hxw hgw hMb HEnd HDl0 HMj
      go_wp2_with fail
      refine wp_region_held_drew (S := fun W => W.cell? ⟨w.heap.size, 0, none⟩ = some (.int .i64 k) ∧ W.cell? ⟨w.heap.size, 1, none⟩ = some (.string t) ∧ W.cell? ⟨w.heap.size, 2, none⟩ = some (.int .i64 a) ∧ W.cell? ⟨w.heap.size, 3, none⟩ = some (.int .i64 b) ∧ W.cell? ⟨w.heap.size, 4, none⟩ = some (.int .i64 c) ∧ W.cell? ⟨w.heap.size, 5, none⟩ = some (.int .i64 d) ∧ W.cell? ⟨w.heap.size, 6, none⟩ = some (.int .i64 e) ∧ W.cell? ⟨w.heap.size, 7, none⟩ = some (.int .i64 f) ∧ W.cell? ⟨w.heap.size, 8, none⟩ = some (.bool q)) (by kernel_rfl) (HS7.out) (fun hHeld => ?_)
      refine wpAnyH_take (i := 0) (oi := { dst := some 31, op := Op.move (Operand.tmp 0), type := 23, pos := "deeds.go:111", after := #[], guard := none }) (v := ?_) rfl (by kernel_rfl) (by kernel_rfl) (by kernel_rfl) (fun _ _ _ h => h) (Or.inl ⟨by rfl, ?_⟩) hHeld ?_
      rotate_left
      · intro w hSw; (try dsimp only at hSw); go_simp; try with_reducible rfl
      try simp only [Act.put, List.setIfInBounds_toArray, List.set_cons_zero, List.set_cons_succ]
      refine wpAnyH_take (i := 1) (oi := { dst := some 32, op := Op.move (Operand.tmp 0), type := 23, pos := "deeds.go:111", after := #[], guard := none }) (v := ?_) rfl (by kernel_rfl) (by kernel_rfl) (by kernel_rfl) (fun _ _ _ h => h) (Or.inl ⟨by rfl, ?_⟩) hHeld ?_
      rotate_left
      · intro w hSw; (try dsimp only at hSw); go_simp; try with_reducible rfl
      try simp only [Act.put, List.setIfInBounds_toArray, List.set_cons_zero, List.set_cons_succ]
      refine wpAnyH_take (i := 2) (oi := { dst := some 33, op := Op.nilCheck (Operand.tmp 32), type := 0, pos := "deeds.go:111", after := #[{ on := 1, ground := Ground.data }], guard := none }) (v := ?_) rfl (by kernel_rfl) (by kernel_rfl) (by kernel_rfl) (fun _ _ _ h => h) (Or.inl ⟨by rfl, ?_⟩) hHeld ?_
      rotate_left
      · intro w hSw; (try dsimp only at hSw); go_simp; try with_reducible rfl
      try simp only [Act.put, List.setIfInBounds_toArray, List.set_cons_zero, List.set_cons_succ]
      refine wpAnyH_take (i := 3) (oi := { dst := some 34, op := Op.fieldAddr 41 (Operand.tmp 33) 5, type := 0, pos := "deeds.go:111", after := #[{ on := 2, ground := Ground.data }], guard := none }) (v := ?_) rfl (by kernel_rfl) (by kernel_rfl) (by kernel_rfl) (fun _ _ _ h => h) (Or.inl ⟨by rfl, ?_⟩) hHeld ?_
      rotate_left
      · intro w hSw; (try dsimp only at hSw); go_simp; try with_reducible rfl
      try simp only [Act.put, List.setIfInBounds_toArray, List.set_cons_zero, List.set_cons_succ]
      refine wpAnyH_take (i := 5) (oi := { dst := some 36, op := Op.load 31 (Operand.tmp 3), type := 31, pos := "deeds.go:111", after := #[], guard := none }) (v := ?_) rfl (by kernel_rfl) (by kernel_rfl) (by kernel_rfl) (fun _ _ _ h => h) (Or.inl ⟨by rfl, ?_⟩) hHeld ?_
      rotate_left
      · intro w hSw; (try dsimp only at hSw); go_simp; try with_reducible rfl
      try simp only [Act.put, List.setIfInBounds_toArray, List.set_cons_zero, List.set_cons_succ]
      refine wpAnyH_take (i := 6) (oi := { dst := some 37, op := Op.makeFunc (Fn.func 49) #[Operand.tmp 36] #[], type := 78, pos := "deeds.go:111", after := #[{ on := 5, ground := Ground.data }], guard := none }) (v := ?_) rfl (by kernel_rfl) (by kernel_rfl) (by kernel_rfl) (fun _ _ _ h => h) (Or.inl ⟨by rfl, ?_⟩) hHeld ?_
      rotate_left
      · intro w hSw; (try dsimp only at hSw); go_simp; try with_reducible rfl
      try simp only [Act.put, List.setIfInBounds_toArray, List.set_cons_zero, List.set_cons_succ]
      refine wpAnyH_ready (rs := [4]) (by kernel_rfl) (by simp) ?_
      refine AllReadyH.cons rfl (fun K hK => ?_) (AllReadyH.nil)
      have q0 := HL7.out
      go_simp
      clear q0
      refine hK.out _ _ (HS7.out) (fun hHeld => ?_)
      clear hK K
      try simp only [Act.put, List.setIfInBounds_toArray, List.set_cons_zero, List.set_cons_succ]
      refine wpAnyH_ready (rs := [7]) (by kernel_rfl) (by simp) ?_
      refine AllReadyH.cons rfl (fun K hK => ?_) (AllReadyH.nil)
      go_simp
      go_wp2_with (go_at_call 50; (with_reducible_and_instances (refine HDl.out.mono ?_)); rintro r W3 ⟨v', rfl, hO3, hb3, hc3⟩; obtain ⟨na, nc, hv', -⟩ := hO3.form kPd_ok.tofit; generalize hnm : List.length (List.filter _ _) = nm at hv'; subst hv'; obtain ⟨W5, s1, ⟨q5, f5⟩, s4, s4d, hr5, s5, hf5⟩ := HFn.out _ W3 hO3 hb3 hc3; have HF5 := hid hf5; have HS4 := hid s4; have HS4d := hid s4d; have HS5 := hid s5; clear hf5 s4 s4d s5 hO3 hc3 hb3 hnm)
      refine hK.out _ _ (s1) (fun hHeld => ?_)
      clear hK K
      refine wpAnyH_take (i := 8) (oi := { dst := some 39, op := Op.nilCheck (Operand.tmp 31), type := 0, pos := "deeds.go:111", after := #[{ on := 0, ground := Ground.data }, { on := 0, ground := Ground.phase }, { on := 1, ground := Ground.phase }, { on := 2, ground := Ground.phase }, { on := 3, ground := Ground.phase }, { on := 4, ground := Ground.phase }, { on := 5, ground := Ground.phase }, { on := 6, ground := Ground.phase }, { on := 7, ground := Ground.phase }], guard := none }) (v := ?_) rfl (by kernel_rfl) (by kernel_rfl) (by kernel_rfl) (fun _ _ _ h => h) (Or.inl ⟨by rfl, ?_⟩) hHeld ?_
      rotate_left
      · intro w hSw; (try dsimp only at hSw); go_simp; try with_reducible rfl
      refine wpAnyH_take (i := 9) (oi := { dst := some 40, op := Op.fieldAddr 41 (Operand.tmp 39) 5, type := 0, pos := "deeds.go:111", after := #[{ on := 8, ground := Ground.data }, { on := 0, ground := Ground.phase }, { on := 1, ground := Ground.phase }, { on := 2, ground := Ground.phase }, { on := 3, ground := Ground.phase }, { on := 4, ground := Ground.phase }, { on := 5, ground := Ground.phase }, { on := 6, ground := Ground.phase }, { on := 7, ground := Ground.phase }], guard := none }) (v := ?_) rfl (by kernel_rfl) (by kernel_rfl) (by kernel_rfl) (fun _ _ _ h => h) (Or.inl ⟨by rfl, ?_⟩) hHeld ?_
      rotate_left
      · intro w hSw; (try dsimp only at hSw); go_simp; try with_reducible rfl
      refine wpAnyH_ready (rs := [10]) (by kernel_rfl) (by simp) ?_
      refine AllReadyH.cons rfl (fun K hK => ?_) (AllReadyH.nil)
      go_simp
      refine hK.out _ _ (HS4.out) (fun hHeld => ?_)
      clear hK K
      refine wpAnyH_done (by kernel_rfl) ?_ _
      clear hHeld q5 f5
      go_wp2_with fail
      refine wp_region_held_drew (S := fun W => W.cell? ⟨w.heap.size, 5, none⟩ = some (.int .i64 d) ∧ W.cell? ⟨w.heap.size, 6, none⟩ = some (.int .i64 e) ∧ W.cell? ⟨g, 6, none⟩ = some (.map (some M3))) (by kernel_rfl) (HS4d.out) (fun hHeld => ?_)
      refine wpAnyH_take (i := 0) (oi := { dst := some 41, op := Op.move (Operand.tmp 0), type := 23, pos := "deeds.go:112", after := #[], guard := none }) (v := ?_) rfl (by kernel_rfl) (by kernel_rfl) (by kernel_rfl) (fun _ _ _ h => h) (Or.inl ⟨by rfl, ?_⟩) hHeld ?_
      rotate_left
      · intro w hSw; (try dsimp only at hSw); go_simp; try with_reducible rfl
      try simp only [Act.put, List.setIfInBounds_toArray, List.set_cons_zero, List.set_cons_succ]
      refine wpAnyH_take (i := 1) (oi := { dst := some 42, op := Op.nilCheck (Operand.tmp 41), type := 0, pos := "deeds.go:112", after := #[{ on := 0, ground := Ground.data }], guard := none }) (v := ?_) rfl (by kernel_rfl) (by kernel_rfl) (by kernel_rfl) (fun _ _ _ h => h) (Or.inl ⟨by rfl, ?_⟩) hHeld ?_
      rotate_left
      · intro w hSw; (try dsimp only at hSw); go_simp; try with_reducible rfl
      try simp only [Act.put, List.setIfInBounds_toArray, List.set_cons_zero, List.set_cons_succ]
      refine wpAnyH_take (i := 2) (oi := { dst := some 43, op := Op.fieldAddr 41 (Operand.tmp 42) 6, type := 0, pos := "deeds.go:112", after := #[{ on := 1, ground := Ground.data }], guard := none }) (v := ?_) rfl (by kernel_rfl) (by kernel_rfl) (by kernel_rfl) (fun _ _ _ h => h) (Or.inl ⟨by rfl, ?_⟩) hHeld ?_
      rotate_left
      · intro w hSw; (try dsimp only at hSw); go_simp; try with_reducible rfl
      try simp only [Act.put, List.setIfInBounds_toArray, List.set_cons_zero, List.set_cons_succ]
      refine wpAnyH_take (i := 3) (oi := { dst := some 44, op := Op.load 38 (Operand.tmp 43), type := 38, pos := "deeds.go:112", after := #[{ on := 2, ground := Ground.data }], guard := none }) (v := ?_) rfl (by kernel_rfl) (by kernel_rfl) (by kernel_rfl) (fun _ _ _ h => h) (Or.inl ⟨by rfl, ?_⟩) hHeld ?_
      rotate_left
      · intro w hSw; (try dsimp only at hSw); go_simp; try with_reducible rfl
      try simp only [Act.put, List.setIfInBounds_toArray, List.set_cons_zero, List.set_cons_succ]
      refine wpAnyH_take (i := 4) (oi := { dst := some 45, op := Op.fieldAddr 31 (Operand.tmp 3) 5, type := 0, pos := "deeds.go:112", after := #[], guard := none }) (v := ?_) rfl (by kernel_rfl) (by kernel_rfl) (by kernel_rfl) (fun _ _ _ h => h) (Or.inl ⟨by rfl, ?_⟩) hHeld ?_
      rotate_left
      · intro w hSw; (try dsimp only at hSw); go_simp; try with_reducible rfl
      try simp only [Act.put, List.setIfInBounds_toArray, List.set_cons_zero, List.set_cons_succ]
      refine wpAnyH_take (i := 5) (oi := { dst := some 46, op := Op.load 3 (Operand.tmp 45), type := 3, pos := "deeds.go:112", after := #[{ on := 4, ground := Ground.data }], guard := none }) (v := ?_) rfl (by kernel_rfl) (by kernel_rfl) (by kernel_rfl) (fun _ _ _ h => h) (Or.inl ⟨by rfl, ?_⟩) hHeld ?_
      rotate_left
      · intro w hSw; (try dsimp only at hSw); go_simp; try with_reducible rfl
      try simp only [Act.put, List.setIfInBounds_toArray, List.set_cons_zero, List.set_cons_succ]
      refine wpAnyH_take (i := 6) (oi := { dst := some 47, op := Op.fieldAddr 31 (Operand.tmp 3) 6, type := 0, pos := "deeds.go:112", after := #[], guard := none }) (v := ?_) rfl (by kernel_rfl) (by kernel_rfl) (by kernel_rfl) (fun _ _ _ h => h) (Or.inl ⟨by rfl, ?_⟩) hHeld ?_
      rotate_left
      · intro w hSw; (try dsimp only at hSw); go_simp; try with_reducible rfl
      try simp only [Act.put, List.setIfInBounds_toArray, List.set_cons_zero, List.set_cons_succ]
      refine wpAnyH_take (i := 7) (oi := { dst := some 48, op := Op.load 3 (Operand.tmp 47), type := 3, pos := "deeds.go:112", after := #[{ on := 6, ground := Ground.data }], guard := none }) (v := ?_) rfl (by kernel_rfl) (by kernel_rfl) (by kernel_rfl) (fun _ _ _ h => h) (Or.inl ⟨by rfl, ?_⟩) hHeld ?_
      rotate_left
      · intro w hSw; (try dsimp only at hSw); go_simp; try with_reducible rfl
      try simp only [Act.put, List.setIfInBounds_toArray, List.set_cons_zero, List.set_cons_succ]
      refine wpAnyH_ready (rs := [8]) (by kernel_rfl) (by simp) ?_
      refine AllReadyH.cons rfl (fun K hK => ?_) (AllReadyH.nil)
      go_simp
      refine hK.out _ _ (HS5.out) (fun hHeld => ?_)
      clear hK K
      try simp only [Act.put, List.setIfInBounds_toArray, List.set_cons_zero, List.set_cons_succ]
      refine wpAnyH_done (by kernel_rfl) ?_ _
      clear hHeld
      go_wp2_with fail
      go_end0
      exact ⟨rfl, HF5.out⟩
end Go.Proofs.YtipgociofjokeaaGreat
