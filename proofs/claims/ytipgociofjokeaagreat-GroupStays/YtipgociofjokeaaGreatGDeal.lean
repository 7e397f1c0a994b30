/- deal of package group (by gendeal15.py). -/
import Derived.Test.YtipgociofjokeaaGreatPGStep
import Derived.Deep.RegionHeld3
import Derived.OrdersHeld
namespace Go.Proofs.YtipgociofjokeaaGreat
open Go.RowKit Go.Shelf Go.Sort
variable {w w' : World} {g M1 M2 M3 n : Nat} {A : Nm → Sl} {pv : Value} {G : Gp} {F : List Nat}

def blksOf (As : List ShA) : List Nat := As.flatMap (fun s => s.2.v.ownBlock.toList)
theorem mem_blksOf {As : List ShA} {b : Nat} : b ∈ blksOf As ↔ ∃ s ∈ As, s.2.v.ownBlock = some b := by
  unfold blksOf
  rw [List.mem_flatMap]
  constructor
  · rintro ⟨s, hs, hb⟩; exact ⟨s, hs, by simpa using hb⟩
  · rintro ⟨s, hs, hb⟩; exact ⟨s, hs, by simpa using hb⟩
theorem shs_arg {base m c : Nat} {a : Option Addr} {As : List ShA} {P : List (List Int)} (h : Shs w base (.slice a m c) As P) : ArgK kSh w As a m c := by
  obtain ⟨a', c', e, hA⟩ := h.row.form kSh_ok.tofit
  obtain ⟨rfl, rfl, rfl⟩ : a = a' ∧ m = As.length ∧ c = c' := by injection e with e1 e2 e3; exact ⟨e1, e2, e3⟩
  exact hA
set_option maxRecDepth 100000 in
set_option maxHeartbeats 4000000 in
theorem dealG_any (h : GP w F g M1 M2 M3 n A pv G) (ho : GOk n G) (hF : ∀ b ∈ F, b < w.heap.size) (hn : n + 200 ≤ 4611686018427387904) : Calls Tryz.prog 47 #[.pointer (some ⟨g, 0, none⟩)] w fun e w' => e = .returned (.tuple #[]) ∧ GMv w w' F g (n + 101) G.deal := by
  have hgn := ho.gen
  obtain ⟨w1, hw1⟩ : ∃ w1, w.setCell ⟨g, 2, none⟩ (.int .i64 (G.gen + 1)) = w1 := ⟨_, rfl⟩
  have h1 : GP w1 F g M1 M2 M3 n A pv { G with gen := G.gen + 1 } := by rw [← hw1]; exact h.boxSet (i := 2) rfl rfl rfl h.off rfl h.pend h.inP
  have k1 : Chg F w w1 := by rw [← hw1]; exact (Chg.refl _ _).set (Or.inl h.inG) 2 _
  have z1 : w1.heap.size = w.heap.size := by rw [← hw1]; simp [World.setCell]
  have ho1 : GOk (n + 1) { G with gen := G.gen + 1 } := ⟨ho.sorted, ho.nodup, ho.mem, ho.name, ho.cnt, ho.parts, ho.sess, ho.heard, ho.share, ⟨by show 0 ≤ G.gen + 1; omega, by show G.gen + 1 ≤ ((n + 1 : Nat) : Int); omega⟩, Nat.le_succ_of_le ho.pend, ho.pin⟩
  have c2 := h.box.cell 2
  have f2 := h.box.free 2
  simp only [List.getElem?_toArray, List.getElem?_cons_zero, List.getElem?_cons_succ] at c2
  have HMe := hid (Members_any h1 ho1)
  obtain ⟨m, hm⟩ : ∃ m, G.ks.length = m := ⟨_, rfl⟩
  have hcn := ho.cnt
  have hpa := ho.parts
  rw [hm] at hcn
  have HM := hid hm
  have H1 : Hid (∀ W, Below w1.heap.size w1 W → GP W F g M1 M2 M3 n A pv { G with gen := G.gen + 1 }) := fun W hW => h1.later hW
  have Hk1 := hid k1
  have HO := hid ho
  have HFl := hid hF
  have HZ1 := hid z1
  have HO1 := hid ho1
  have hgg : G.gen + 1 ≤ 4611686018427387904 ∧ 0 ≤ G.gen + 1 := by omega
  have HMay := hid ho.may
  have HRis := hid ho.ris
  obtain ⟨gp, hgp⟩ : ∃ gp, G.parts = gp := ⟨_, rfl⟩
  rw [hgp] at hpa
  have HGp := hid hgp
  clear h h1 ho ho1 hF k1 z1 hm hgp hgn
  obtain ⟨gg, hge⟩ : ∃ gg, G.gen = gg := ⟨_, rfl⟩
  rw [hge] at c2 hw1 hgg HMe H1 HO1
  have HGe := hid hge
  clear hge
  go_enter Tryz.func47, Tryz.ntmps47
  go_wp2_with (go_at_call 8; (with_reducible_and_instances (refine HMe.out.mono ?_)); rintro e w2 ⟨vn, rfl, hOn, hBn⟩; obtain ⟨na, nc, hvn, hAn⟩ := hOn.form kS_ok.tofit; dsimp only at hvn hAn; rw [HM.out] at hvn hAn; subst hvn; have HAn := hid hAn; have HBn := hid hBn; clear hOn hBn hAn)
  obtain ⟨N2, hN2⟩ : ∃ N2, w2.heap.size = N2 := ⟨_, rfl⟩
  go_loopw [3, 22] (fun v i wr => ∃ (j : Nat) (a : Option Addr) (cc : Nat), j ≤ m ∧ i = .int .i64 (j : Int) ∧ v = .slice a j cc ∧ Hid (OwnK kSh wr N2 (.slice a j cc) ((G.ks.take j).map (fun nm => (nm, slOf G A nm)))) ∧ Hid (Below N2 w2 wr)) (fun _ i _ => m - (intOf i).toNat)
  case atStart => exact ⟨0, none, 0, by omega, rfl, rfl, (by rw [List.take_zero]; exact OwnK.nil (K := kSh) w2 _), Below.refl _ _⟩
  case round =>
    obtain ⟨j, a, cc, hj, rfl, rfl, HOj, HB⟩ := hrel
    have hGr : Below w1.heap.size w1 wr := HBn.out.trans (HB.out.mono (by have := HBn.out.size; omega))
    have hp := H1.out wr hGr
    by_cases hlt : j < m
    · have hA := HAn.out.later (by rw [hN2]; exact HB.out)
      obtain ⟨b, off, rfl, hs, hc⟩ := hA.cells (by omega)
      have r0 : wr.cell? ⟨b, off + j, none⟩ = some (.string (nmS (G.ks.getD j []))) := by have := hc j hlt 0 (by decide); rw [Nat.mul_one, Nat.add_zero] at this; exact this
      have HTk := hid (take_snoc_any G.ks [] j (by rw [HM.out]; exact hlt))
      have HLk : Hid (((G.ks.take j).map (fun nm => ((nm, slOf G A nm) : ShA))).length = j) := by rw [List.length_map, List.length_take, HM.out]; show min j m = j; omega
      have hszr : N2 ≤ wr.heap.size := by have := HB.out.size; omega
      obtain ⟨d, hd⟩ : ∃ d, G.ks.getD j [] = d := ⟨_, rfl⟩
      have hdl : d.length ≤ maxLen := by rw [← hd]; have := nameOk_len (HO.out.name _ (getD_name (by rw [HM.out]; exact hlt))); unfold maxLen; omega
      have hlk := hp.look d hdl
      have c3 := hp.box.cell 3
      simp only [List.getElem?_toArray, List.getElem?_cons_zero, List.getElem?_cons_succ] at c3
      have hsl : slOf { G with gen := gg + 1 } A d = slOf G A d := rfl
      rw [hsl] at hlk
      rw [hd] at r0 HTk
      obtain ⟨ds, hds⟩ : ∃ ds, nmS d = ds := ⟨_, rfl⟩
      rw [hds] at r0 hlk
      obtain ⟨sl, hsle⟩ : ∃ sl, slOf G A d = sl := ⟨_, rfl⟩
      rw [hsle] at hlk
      have HSle := hid hsle
      obtain ⟨sa, sm, sc⟩ := sl
      dsimp only at hlk
      generalize Gp.heard _ d = hd0 at hlk
      have HRw := hid (sh_row2 wr ds d hds sa sm sc)
      have HO2 := hid (HOj.out.later ((Below.refl _ wr).alloc (Nat.le_refl _) (.cells #[.string ds, .slice sa sm sc] 87)))
      have hfl : ∀ w, (Instr.field 57 (.agg #[.int .i64 hd0, .slice sa sm sc]) 1).run Tryz.prog w = .ok (.slice sa sm sc) w := fun _ => by kernel_rfl
      clear hc hs hA hp hGr hd hds hsl hsle hdl
      go_wp2_with (first
        | (at_builtin; refine app_kd kSh_ok rfl _ _ rfl N2 (.slice a j cc) ((G.ks.take j).map (fun nm => (nm, slOf G A nm))) rfl HO2.out (some ⟨wr.heap.size, 0, none⟩) 1 1 [(d, ⟨sa, sm, sc⟩)] rfl rfl (fun e => by cases e) HRw.out (by rw [HLk.out]; unfold maxLen; omega) (by rw [HLk.out]; show (j + 1) * 40 ≤ _; omega) (by simp; omega) ?_; intro v3 w3 hown3 hg3; obtain ⟨a3, c3', e3, -⟩ := hown3.form kSh_ok.tofit; rw [List.length_append, HLk.out] at e3; subst e3; have HO3 := hid hown3; have HB3 := hid ((HB.out.alloc (by omega) _).grown hg3 (by simp; omega) (fun k hk => (HO2.out.block k hk).1)); clear hown3 hg3))
      refine ⟨⟨j + 1, a3, c3', by omega, by go_num, rfl, (by rw [HTk.out, List.map_append, List.map_cons, List.map_nil, HSle.out]; exact HO3.out), HB3⟩, by simp [intOf]; omega⟩
    · obtain rfl : m = j := by omega
      clear hlt
      obtain ⟨w5, rfl⟩ : ∃ x, x = wr := ⟨wr, rfl⟩
      have HAn5 := hid (HAn.out.later (by rw [hN2]; exact HB.out))
      have hO5 := HOj.out
      rw [List.take_of_length_le (by rw [HM.out]; exact Nat.le_refl _)] at hO5
      have hOld : OldA w5 (G.ks.map (fun nm => (nm, slOf G A nm))) (G.ks.map G.share) a m cc := by
        have h := hp.old (base := N2) (a := a) (cc := cc) HO1.out (by rw [← HM.out] at hO5; exact hO5)
        rw [← HM.out]
        exact h
      have e1 : (G.ks.map (fun nm => ((nm, slOf G A nm) : ShA))).map (·.1) = G.ks := by rw [List.map_map]; exact List.map_id G.ks
      have HSt : Hid (Calls Tryz.prog 57 #[.slice a m cc, .slice na m nc, .int .i64 gp] w5 fun e w' => AnsP w5 true G.ks G.dealt e w') := by
        have h := sticky_any hOld HAn5.out gp (by omega)
        rw [e1, HRis.out, ← HGp.out, HMay.out, HGp.out] at h
        unfold Gp.dealt
        rw [HGp.out]
        exact h
      have c0 := hp.box.cell 0
      simp only [List.getElem?_toArray, List.getElem?_cons_zero] at c0
      rw [HGp.out] at c0
      have HG5 := hid hp
      have HC5 : Hid (Chg F w w5) := Hk1.out.trans (Chg.of hGr) (fun k hk => Or.inl hk)
      clear e1 hOld hO5 hp hGr HOj HB HAn HAn5 HBn HMe H1 HMay
      go_wp2_with (go_at_call 57; (with_reducible_and_instances (refine HSt.out.mono ?_)); rintro e w6 hans; obtain ⟨sa0, As, sc0, rfl, hSh, hNm, hB6⟩ := ansP_open hans HM.out; have HSh := hid hSh; have HNm := hid hNm; have HB6 := hid hB6; clear hans hSh hNm hB6)
      have HAl : Hid (As.length = m) := by have := congrArg List.length HNm.out; rw [List.length_map, HM.out] at this; exact this
      have HG6 : Hid (GP w6 (F ++ blksOf As) g M1 M2 M3 n A pv { G with gen := gg + 1, mem := dealTo G G.dealt 0 }) := by
        rw [dealTo_zero]
        exact (HG5.out.later HB6.out).wide (fun b hb => List.mem_append_left _ hb)
      have hz6 : w5.heap.size ≤ w6.heap.size := HB6.out.size
      have HF5 : Hid (∀ b ∈ F, b < w5.heap.size) := fun b hb => Nat.lt_of_lt_of_le (HFl.out b hb) HC5.out.size
      go_loopw [51] (fun i wr => ∃ (j : Nat) (A' : Nm → Sl), j ≤ m ∧ i = .int .i64 (j : Int) ∧ Hid (GP wr (F ++ blksOf As) g M1 M2 M3 (n + j) A' pv { G with gen := gg + 1, mem := dealTo G G.dealt j }) ∧ Hid (Shs wr w5.heap.size (.slice sa0 m sc0) As G.dealt) ∧ Hid (Chg [M1] w6 wr)) (fun i _ => m - (intOf i).toNat)
      case atStart => exact ⟨0, A, by omega, rfl, HG6, HSh, Chg.refl _ _⟩
      case round =>
        obtain ⟨j, A', hj, rfl, HGj, HShj, HCj⟩ := hrel
        clear HG6 HSh
        by_cases hlt : j < m
        · have hA := shs_arg HShj.out
          obtain ⟨b, off, rfl, hs, hc⟩ := hA.cells (by omega)
          have r0 : wr.cell? ⟨b, off + j * 2, none⟩ = some (.string (nmS (As.getD j sh0).1)) := by have := hc j hlt 0 (by decide); rw [Nat.add_zero] at this; exact this
          have r1 : wr.cell? ⟨b, off + j * 2 + 1, none⟩ = some (.slice (As.getD j sh0).2.ad (As.getD j sh0).2.m (As.getD j sh0).2.c) := hc j hlt 1 (by decide)
          have hnm : (As.getD j sh0).1 = G.ks.getD j [] := by
            rw [← HNm.out, List.getD_eq_getElem?_getD, List.getD_eq_getElem?_getD, List.getElem?_map, List.getElem?_eq_getElem (by rw [HAl.out]; exact hlt)]; rfl
          have hrow := HShj.out.part j (by rw [HAl.out]; exact hlt)
          have hin : ∀ b, (As.getD j sh0).2.v.ownBlock = some b → b ∈ F ++ blksOf As := fun b hb => List.mem_append_right _ (mem_blksOf.2 ⟨_, by rw [getD_at _ _ _ (show j < As.length by rw [HAl.out]; exact hlt)]; exact List.getElem_mem _, hb⟩)
          obtain ⟨x, hx⟩ : ∃ x, As.getD j sh0 = x := ⟨_, rfl⟩
          rw [hx] at r0 r1 hnm hrow hin
          obtain ⟨nm, xa, xm, xc⟩ := x
          dsimp only at r0 r1 hnm hrow hin
          have hdl : nm.length ≤ maxLen := by rw [hnm]; have := nameOk_len (HO.out.name _ (getD_name (by rw [HM.out]; exact hlt))); unfold maxLen; omega
          obtain ⟨ds, hds⟩ : ∃ ds, nmS nm = ds := ⟨_, rfl⟩
          obtain ⟨hd, hhd⟩ : ∃ hd, G.heard nm = hd := ⟨_, rfl⟩
          obtain ⟨sl, hsle⟩ : ∃ sl, slOf { G with gen := gg + 1, mem := dealTo G G.dealt j } A' nm = sl := ⟨_, rfl⟩
          have hlk : ∀ W, Below wr.heap.size wr W → (Instr.lookup TMb (.map (some M1)) (.string ds) false).run Tryz.prog W = .ok (.agg #[.int .i64 hd, .slice sl.ad sl.m sl.c]) W := fun W hW => by
            have h := (HGj.out.later hW).look nm hdl
            rw [hds, hsle, show Gp.heard { G with gen := gg + 1, mem := dealTo G G.dealt j } nm = hd from (dealTo_heard G.dealt j nm).trans hhd] at h
            exact h
          obtain ⟨sa, sm, sc⟩ := sl
          dsimp only at hlk
          rw [hds] at r0
          obtain ⟨X1, hX1⟩ : ∃ X1, wr.alloc (.cells #[.string ds, .slice xa xm xc] 87) = X1 := ⟨_, rfl⟩
          have b1 : Below wr.heap.size wr X1 := by rw [← hX1]; exact (Below.refl _ _).alloc (Nat.le_refl _) _
          have x1 : Blk X1 wr.heap.size #[.string ds, .slice xa xm xc] 87 := by rw [← hX1]; exact heap_alloc_new wr _
          have HZX1 := hid (show X1.heap.size = wr.heap.size + 1 by rw [← hX1]; simp)
          have HS12 : Hid (∀ W, Below X1.heap.size X1 W → W.cell? ⟨g, 3, none⟩ = some (.map (some M1)) ∧ W.cell? ⟨wr.heap.size, 0, none⟩ = some (.string ds) ∧ (Instr.lookup TMb (.map (some M1)) (.string ds) false).run Tryz.prog W = .ok (.agg #[.int .i64 hd, .slice sa sm sc]) W) := fun W hW => by
            have hx := x1.later hW
            have hb2 : Below wr.heap.size wr W := b1.trans (hW.mono b1.size)
            exact ⟨(HGj.out.later hb2).box.cell 3, hx.cell 0, hlk W hb2⟩
          clear hc hs hA hx
          go_wp2_with fail
          refine wp_region_held_drew (S := fun W => W.cell? ⟨g, 3, none⟩ = some (.map (some M1)) ∧ W.cell? ⟨wr.heap.size, 0, none⟩ = some (.string ds) ∧ (Instr.lookup TMb (.map (some M1)) (.string ds) false).run Tryz.prog W = .ok (.agg #[.int .i64 hd, .slice sa sm sc]) W) (by kernel_rfl) (HS12.out _ (Below.refl _ X1).drew) (fun hHeld => ?_)
          refine wpAnyH_take (i := 0) (oi := { dst := some 55, op := Op.move (Operand.tmp 0), type := 23, pos := "deeds.go:141", after := #[], guard := none }) (v := ?_) rfl (by kernel_rfl) (by kernel_rfl) (by kernel_rfl) (fun _ _ _ h => h) (Or.inl ⟨by rfl, ?_⟩) hHeld ?_
          rotate_left
          · intro w hSw; (try dsimp only at hSw); go_simp; try with_reducible rfl
          try simp only [Act.put, List.setIfInBounds_toArray, List.set_cons_zero, List.set_cons_succ]
          refine wpAnyH_take (i := 1) (oi := { dst := some 56, op := Op.nilCheck (Operand.tmp 55), type := 0, pos := "deeds.go:141", after := #[{ on := 0, ground := Ground.data }], guard := none }) (v := ?_) rfl (by kernel_rfl) (by kernel_rfl) (by kernel_rfl) (fun _ _ _ h => h) (Or.inl ⟨by rfl, ?_⟩) hHeld ?_
          rotate_left
          · intro w hSw; (try dsimp only at hSw); go_simp; try with_reducible rfl
          try simp only [Act.put, List.setIfInBounds_toArray, List.set_cons_zero, List.set_cons_succ]
          refine wpAnyH_take (i := 2) (oi := { dst := some 57, op := Op.fieldAddr 41 (Operand.tmp 56) 3, type := 0, pos := "deeds.go:141", after := #[{ on := 1, ground := Ground.data }], guard := none }) (v := ?_) rfl (by kernel_rfl) (by kernel_rfl) (by kernel_rfl) (fun _ _ _ h => h) (Or.inl ⟨by rfl, ?_⟩) hHeld ?_
          rotate_left
          · intro w hSw; (try dsimp only at hSw); go_simp; try with_reducible rfl
          try simp only [Act.put, List.setIfInBounds_toArray, List.set_cons_zero, List.set_cons_succ]
          refine wpAnyH_take (i := 3) (oi := { dst := some 58, op := Op.load 37 (Operand.tmp 57), type := 37, pos := "deeds.go:141", after := #[{ on := 2, ground := Ground.data }], guard := none }) (v := ?_) rfl (by kernel_rfl) (by kernel_rfl) (by kernel_rfl) (fun _ _ _ h => h) (Or.inl ⟨by rfl, ?_⟩) hHeld ?_
          rotate_left
          · intro w hSw; (try dsimp only at hSw); go_simp; try with_reducible rfl
          try simp only [Act.put, List.setIfInBounds_toArray, List.set_cons_zero, List.set_cons_succ]
          refine wpAnyH_take (i := 4) (oi := { dst := some 59, op := Op.fieldAddr 87 (Operand.tmp 9) 0, type := 0, pos := "deeds.go:141", after := #[], guard := none }) (v := ?_) rfl (by kernel_rfl) (by kernel_rfl) (by kernel_rfl) (fun _ _ _ h => h) (Or.inl ⟨by rfl, ?_⟩) hHeld ?_
          rotate_left
          · intro w hSw; (try dsimp only at hSw); go_simp; try with_reducible rfl
          try simp only [Act.put, List.setIfInBounds_toArray, List.set_cons_zero, List.set_cons_succ]
          refine wpAnyH_take (i := 5) (oi := { dst := some 60, op := Op.load 9 (Operand.tmp 59), type := 9, pos := "deeds.go:141", after := #[{ on := 4, ground := Ground.data }], guard := none }) (v := ?_) rfl (by kernel_rfl) (by kernel_rfl) (by kernel_rfl) (fun _ _ _ h => h) (Or.inl ⟨by rfl, ?_⟩) hHeld ?_
          rotate_left
          · intro w hSw; (try dsimp only at hSw); go_simp; try with_reducible rfl
          try simp only [Act.put, List.setIfInBounds_toArray, List.set_cons_zero, List.set_cons_succ]
          refine wpAnyH_take (i := 6) (oi := { dst := some 61, op := Op.lookup 37 (Operand.tmp 58) (Operand.tmp 60) false, type := 57, pos := "deeds.go:141", after := #[{ on := 3, ground := Ground.data }, { on := 5, ground := Ground.data }], guard := none }) (v := .agg #[.int .i64 hd, .slice sa sm sc]) rfl (by kernel_rfl) (by kernel_rfl) (by kernel_rfl) (fun _ _ _ h => h) (Or.inl ⟨by rfl, ?_⟩) hHeld ?_
          · intro w hSw; obtain ⟨-, -, hlk⟩ := hSw; go_simp
          try simp only [Act.put, List.setIfInBounds_toArray, List.set_cons_zero, List.set_cons_succ]
          refine wpAnyH_ready (rs := [7]) (by kernel_rfl) (by simp) ?_
          refine AllReadyH.cons rfl (fun K hK => ?_) (AllReadyH.nil)
          go_simp
          refine hK.out _ _ (HS12.out _ (by first | exact ((Below.refl _ X1).alloc (Nat.le_refl _) _).drew | exact (Below.refl _ X1).drew.alloc (by simp) _)) (fun hHeld => ?_)
          clear hK K
          try simp only [Act.put, List.setIfInBounds_toArray, List.set_cons_zero, List.set_cons_succ]
          refine wpAnyH_ready (rs := [8]) (by kernel_rfl) (by simp) ?_
          refine AllReadyH.cons rfl (fun K hK => ?_) (AllReadyH.nil)
          go_simp
          refine hK.out _ _ (HS12.out _ (by first | exact ((Below.refl _ X1).alloc (Nat.le_refl _) _).drew | exact (Below.refl _ X1).drew.alloc (by simp) _)) (fun hHeld => ?_)
          clear hK K
          try simp only [Act.put, List.setIfInBounds_toArray, List.set_cons_zero, List.set_cons_succ]
          refine wpAnyH_done (by kernel_rfl) ?_ _
          clear hHeld
          obtain ⟨X2, hX2⟩ : ∃ X2, (X1.alloc (.cells #[.int .i64 hd, .slice sa sm sc] 57)).drew = X2 := ⟨_, rfl⟩
          rw [hX2]
          have b2 : Below X1.heap.size X1 X2 := by rw [← hX2]; exact ((Below.refl _ _).alloc (Nat.le_refl _) _).drew
          have x2 : Blk X2 X1.heap.size #[.int .i64 hd, .slice sa sm sc] 57 := by rw [← hX2]; exact heap_alloc_new X1 _
          have x12 := x1.later b2
          have q1 := x12.cell 1
          have q2 := x2.cell 1
          have q3 := x2.free 1
          simp only [List.getElem?_toArray, List.getElem?_cons_zero, List.getElem?_cons_succ] at q1 q2
          obtain ⟨X3, hX3⟩ : ∃ X3, X2.setCell ⟨X1.heap.size, 1, none⟩ (.slice xa xm xc) = X3 := ⟨_, rfl⟩
          have hc3 : Chg [X1.heap.size] X2 X3 := by rw [← hX3]; exact (Chg.refl _ _).set (Or.inl (by simp)) 1 _
          have x3 : Blk X3 X1.heap.size #[.int .i64 hd, .slice xa xm xc] 57 := by rw [← hX3]; exact x2.set 1 _
          have x13 := x12.chg hc3 (by have := HZX1.out; simp; omega)
          have b03 : Below wr.heap.size wr X3 := (b1.trans (b2.mono b1.size)).trans (hc3.below (fun k hk => by have := HZX1.out; simp at hk; omega) (by have := b1.size; have := b2.size; omega))
          have b03d : Below wr.heap.size wr X3.drew := b03.drew
          have hg3 := HGj.out.later b03d
          obtain ⟨X4, hr4, hg4, hc4⟩ := hg3.storeMem (by unfold maxLen; omega) nm hdl ⟨hd, G.dealt.getD j []⟩ ⟨xa, xm, xc⟩ ((hrow.mono (Nat.zero_le _)).later b03d) hin
          rw [hds] at hr4
          dsimp only at hr4
          have HS14 : Hid (X3.drew.cell? ⟨g, 3, none⟩ = some (.map (some M1)) ∧ X3.drew.cell? ⟨wr.heap.size, 0, none⟩ = some (.string ds) ∧ X3.drew.cell? ⟨X1.heap.size, 0, none⟩ = some (.int .i64 hd) ∧ X3.drew.cell? ⟨X1.heap.size, 1, none⟩ = some (.slice xa xm xc)) := ⟨hg3.box.cell 3, x13.cell 0, x3.cell 0, x3.cell 1⟩
          have hM1 : M1 < wr.heap.size := HGj.out.mem.lt
          have x14 : Blk X4 wr.heap.size #[.string ds, .slice xa xm xc] 87 := Blk.chg (w := X3.drew) x13 hc4 (by simp; omega)
          have x34 : Blk X4 X1.heap.size #[.int .i64 hd, .slice xa xm xc] 57 := Blk.chg (w := X3.drew) x3 hc4 (by have := HZX1.out; simp; omega)
          have HS14b : Hid (X4.cell? ⟨g, 3, none⟩ = some (.map (some M1)) ∧ X4.cell? ⟨wr.heap.size, 0, none⟩ = some (.string ds) ∧ X4.cell? ⟨X1.heap.size, 0, none⟩ = some (.int .i64 hd) ∧ X4.cell? ⟨X1.heap.size, 1, none⟩ = some (.slice xa xm xc)) := ⟨hg4.box.cell 3, x14.cell 0, x34.cell 0, x34.cell 1⟩
          have HG4 : Hid (GP X4 (F ++ blksOf As) g M1 M2 M3 (n + (j + 1)) (setA A' nm ⟨xa, xm, xc⟩) pv { G with gen := gg + 1, mem := dealTo G G.dealt (j + 1) }) := by
            have e := dealTo_step HO.out G.dealt (j := j) (by rw [HM.out]; exact hlt)
            rw [← hnm, hhd] at e
            rw [← e]
            exact hg4
          have HSh4 : Hid (Shs X4 w5.heap.size (.slice (some ⟨b, off, none⟩) m sc0) As G.dealt) := HShj.out.keep (fun k hk1 hk2 => by
            have hk3 : k ≠ M1 := by have := HF5.out M1 HG5.out.in1; omega
            exact (hc4.block k (Nat.lt_of_lt_of_le hk2 b03d.size) (by simpa using hk3)).trans (b03d.block k hk2))
          have HC4 : Hid (Chg [M1] w6 X4) := (HCj.out.trans (Chg.of b03d) (fun k hk => Or.inl hk)).trans hc4 (fun k hk => Or.inl hk)
          clear HS12 x1 x12 x2 x3 x13 x14 x34 hg3 hg4 hc4 hc3 b03 b03d b1 b2 HGj HShj HCj hrow hin hnm hlk hsle hhd hds hdl hM1 r0 r1
          go_wp2_with fail
          refine wp_region_held_drew (S := fun W => W.cell? ⟨g, 3, none⟩ = some (.map (some M1)) ∧ W.cell? ⟨wr.heap.size, 0, none⟩ = some (.string ds) ∧ W.cell? ⟨X1.heap.size, 0, none⟩ = some (.int .i64 hd) ∧ W.cell? ⟨X1.heap.size, 1, none⟩ = some (.slice xa xm xc)) (by kernel_rfl) (HS14.out) (fun hHeld => ?_)
          refine wpAnyH_take (i := 0) (oi := { dst := some 65, op := Op.move (Operand.tmp 0), type := 23, pos := "deeds.go:143", after := #[], guard := none }) (v := ?_) rfl (by kernel_rfl) (by kernel_rfl) (by kernel_rfl) (fun _ _ _ h => h) (Or.inl ⟨by rfl, ?_⟩) hHeld ?_
          rotate_left
          · intro w hSw; (try dsimp only at hSw); go_simp; try with_reducible rfl
          try simp only [Act.put, List.setIfInBounds_toArray, List.set_cons_zero, List.set_cons_succ]
          refine wpAnyH_take (i := 1) (oi := { dst := some 66, op := Op.nilCheck (Operand.tmp 65), type := 0, pos := "deeds.go:143", after := #[{ on := 0, ground := Ground.data }], guard := none }) (v := ?_) rfl (by kernel_rfl) (by kernel_rfl) (by kernel_rfl) (fun _ _ _ h => h) (Or.inl ⟨by rfl, ?_⟩) hHeld ?_
          rotate_left
          · intro w hSw; (try dsimp only at hSw); go_simp; try with_reducible rfl
          try simp only [Act.put, List.setIfInBounds_toArray, List.set_cons_zero, List.set_cons_succ]
          refine wpAnyH_take (i := 2) (oi := { dst := some 67, op := Op.fieldAddr 41 (Operand.tmp 66) 3, type := 0, pos := "deeds.go:143", after := #[{ on := 1, ground := Ground.data }], guard := none }) (v := ?_) rfl (by kernel_rfl) (by kernel_rfl) (by kernel_rfl) (fun _ _ _ h => h) (Or.inl ⟨by rfl, ?_⟩) hHeld ?_
          rotate_left
          · intro w hSw; (try dsimp only at hSw); go_simp; try with_reducible rfl
          try simp only [Act.put, List.setIfInBounds_toArray, List.set_cons_zero, List.set_cons_succ]
          refine wpAnyH_take (i := 3) (oi := { dst := some 68, op := Op.load 37 (Operand.tmp 67), type := 37, pos := "deeds.go:143", after := #[{ on := 2, ground := Ground.data }], guard := none }) (v := ?_) rfl (by kernel_rfl) (by kernel_rfl) (by kernel_rfl) (fun _ _ _ h => h) (Or.inl ⟨by rfl, ?_⟩) hHeld ?_
          rotate_left
          · intro w hSw; (try dsimp only at hSw); go_simp; try with_reducible rfl
          try simp only [Act.put, List.setIfInBounds_toArray, List.set_cons_zero, List.set_cons_succ]
          refine wpAnyH_take (i := 4) (oi := { dst := some 69, op := Op.fieldAddr 87 (Operand.tmp 9) 0, type := 0, pos := "deeds.go:143", after := #[], guard := none }) (v := ?_) rfl (by kernel_rfl) (by kernel_rfl) (by kernel_rfl) (fun _ _ _ h => h) (Or.inl ⟨by rfl, ?_⟩) hHeld ?_
          rotate_left
          · intro w hSw; (try dsimp only at hSw); go_simp; try with_reducible rfl
          try simp only [Act.put, List.setIfInBounds_toArray, List.set_cons_zero, List.set_cons_succ]
          refine wpAnyH_take (i := 5) (oi := { dst := some 70, op := Op.load 9 (Operand.tmp 69), type := 9, pos := "deeds.go:143", after := #[{ on := 4, ground := Ground.data }], guard := none }) (v := ?_) rfl (by kernel_rfl) (by kernel_rfl) (by kernel_rfl) (fun _ _ _ h => h) (Or.inl ⟨by rfl, ?_⟩) hHeld ?_
          rotate_left
          · intro w hSw; (try dsimp only at hSw); go_simp; try with_reducible rfl
          try simp only [Act.put, List.setIfInBounds_toArray, List.set_cons_zero, List.set_cons_succ]
          refine wpAnyH_take (i := 6) (oi := { dst := some 71, op := Op.load 57 (Operand.tmp 10), type := 57, pos := "deeds.go:143", after := #[], guard := none }) (v := ?_) rfl (by kernel_rfl) (by kernel_rfl) (by kernel_rfl) (fun _ _ _ h => h) (Or.inl ⟨by rfl, ?_⟩) hHeld ?_
          rotate_left
          · intro w hSw; (try dsimp only at hSw); go_simp; try with_reducible rfl
          try simp only [Act.put, List.setIfInBounds_toArray, List.set_cons_zero, List.set_cons_succ]
          refine wpAnyH_ready (rs := [7]) (by kernel_rfl) (by simp) ?_
          refine AllReadyH.cons rfl (fun K hK => ?_) (AllReadyH.nil)
          go_simp
          refine hK.out _ _ (HS14b.out) (fun hHeld => ?_)
          clear hK K
          try simp only [Act.put, List.setIfInBounds_toArray, List.set_cons_zero, List.set_cons_succ]
          refine wpAnyH_done (by kernel_rfl) ?_ _
          clear hHeld
          go_wp2_with fail
          exact ⟨⟨j + 1, _, by omega, by go_num, HG4, HSh4, HC4⟩, by simp [intOf]; omega⟩
        · obtain rfl : m = j := by omega
          have HFin : Hid (GMv w wr F g (n + 101) G.deal) := by
            refine ⟨F ++ blksOf As, ⟨⟨M1, M2, M3, A', pv, ?_⟩, HO.out.dealt.mono (by omega), fun b hb => ?_⟩, ?_, fun b hb => ?_⟩
            · have h := HGj.out.mono (show n + m ≤ n + 101 by omega)
              unfold Gp.deal
              rw [HM.out, HGe.out]
              exact h
            · rcases List.mem_append.1 hb with h | h
              · exact Nat.lt_of_lt_of_le (HF5.out b h) (Nat.le_trans hz6 HCj.out.size)
              · obtain ⟨s, hs, hsb⟩ := mem_blksOf.1 h
                obtain ⟨i, hi, rfl⟩ := List.getElem_of_mem hs
                have hp := HShj.out.part i hi
                rw [getD_at _ _ _ hi] at hp
                exact (hp.block b hsb).2.1
            · exact (HC5.out.trans (Chg.of HB6.out) (fun k hk => Or.inl hk)).trans (HCj.out.mono (fun k hk => by simp at hk; subst hk; exact HG5.out.in1)) (fun k hk => Or.inl hk)
            · rcases List.mem_append.1 hb with h | h
              · exact Or.inl h
              · obtain ⟨s, hs, hsb⟩ := mem_blksOf.1 h
                obtain ⟨i, hi, rfl⟩ := List.getElem_of_mem hs
                have hp := HShj.out.part i hi
                rw [getD_at _ _ _ hi] at hp
                exact Or.inr (Nat.le_trans HC5.out.size (hp.block b hsb).1)
          go_wp2_with fail
          go_end0
          exact ⟨rfl, HFin.out⟩
end Go.Proofs.YtipgociofjokeaaGreat
