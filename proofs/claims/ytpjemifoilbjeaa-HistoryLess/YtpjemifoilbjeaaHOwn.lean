/- Own of the statements of layer 20: calls as the program has them (by genhown.py). -/
import Derived.Test.YtpjemifoilbjeaaHOwnM
namespace Go.Proofs.Ytpjemifoilbjeaa
open Go.RowKit Hy
variable {w w' : World} {ra : Option Addr} {rm rc : Nat} {B : List HcA}

set_option maxRecDepth 20000 in
set_option maxHeartbeats 4000000 in
theorem Own_any (h : HV kR w B ra rm rc) (hby : rm * 72 ≤ 140737488351232) (hbq : ∀ i, i < rm → (B.getD i hz0).2.m * 16 ≤ 140737488351232) :
    Calls Try.prog 8 #[.slice ra rm rc] w fun e w' => CPost w B rm e w' := by
  have HB := hid h
  have hl := h.row.len
  have HL := hid hl
  have HBq := hid hbq
  have hrm : rm ≤ 1954687338211 := by omega
  clear h hl hbq
  go_enter Try.func8, Try.ntmps8
  go_wp2_with fail
  go_loopw [3, 4] (fun v iv wr => ∃ (i : Nat) (va : Option Addr) (vc : Nat) (A : List HcA), i ≤ rm ∧ iv = .int .i64 (i : Int) ∧ v = .slice va i vc ∧ w.heap.size ≤ wr.heap.size ∧ Hid (CS kC wr w.heap.size (.slice va i vc) A) ∧ Hid (cls A = (cls B).take i) ∧ Hid (Below w.heap.size w wr)) (fun _ iv _ => rm - (intOf iv).toNat)
  case atStart => exact ⟨0, none, 0, [], by omega, rfl, rfl, Nat.le_refl _, CS.nil kC w _, (by rw [List.take_zero]; exact rfl), Below.refl _ _⟩
  case round =>
    obtain ⟨i, va, vc, A, hi, rfl, rfl, hsz, HCs, HNm, HBl⟩ := hrel
    by_cases hlt : i < rm
    · have hB := HB.out.later HBl.out
      obtain ⟨b2, o2, rfl, hs0, -⟩ := HB.out.row.cells (by omega)
      obtain ⟨b3, o3, e3, hs2, r0, r1, r2, r3, r4, r5, r6⟩ := hB.atR hlt
      cases e3
      have hpB := hB.part i hlt
      have hqb := HBq.out i hlt
      have hsm := hB.small i hlt
      obtain ⟨y, hy⟩ : ∃ y, B.getD i hz0 = y := ⟨_, rfl⟩
      rw [hy] at hpB hqb hsm r0 r1 r2 r3 r4 r5 r6
      obtain ⟨x, xa, xm, xc⟩ := y
      dsimp only at hpB hqb hsm r0 r1 r2 r3 r4 r5 r6
      obtain ⟨ns, hns⟩ : ∃ ns, nmS x.val = ns := ⟨_, rfl⟩
      rw [hns] at r5
      have HNs := hid hns
      have HSm := hid hsm
      have HQm : Hid (0 + xm ≤ maxLen ∧ (0 + xm) * 16 ≤ 140737488355328) := by show _ ∧ _; unfold maxLen; omega
      have HAl : Hid (A.length = i) := by have := congrArg List.length HNm.out; rw [cls_len, List.length_take, cls_len, HL.out] at this; show A.length = i; omega
      have HTn : Hid ((cls B).take (i + 1) = (cls B).take i ++ [x]) := by
        rw [cls_take (by rw [HL.out]; exact hlt), hy]; exact rfl
      have HW1 : Hid (∀ W1, wr.alloc (.cells #[.bool x.rd, .bool x.dn, .int .i64 x.bg, .int .i64 x.en, .int .i64 x.off, .string ns, .slice xa xm xc] 35) = W1 → Below wr.heap.size wr W1 ∧ ArgK kS W1 x.vals xa xm xc ∧ (∀ W, Below W1.heap.size W1 W → W.cell? ⟨wr.heap.size, 0, none⟩ = some (.bool x.rd) ∧ W.cell? ⟨wr.heap.size, 1, none⟩ = some (.bool x.dn) ∧ W.cell? ⟨wr.heap.size, 2, none⟩ = some (.int .i64 x.bg) ∧ W.cell? ⟨wr.heap.size, 3, none⟩ = some (.int .i64 x.en) ∧ W.cell? ⟨wr.heap.size, 4, none⟩ = some (.int .i64 x.off) ∧ W.cell? ⟨wr.heap.size, 5, none⟩ = some (.string ns) ∧ W.cell? ⟨wr.heap.size, 6, none⟩ = some (.slice xa xm xc))) := fun W1 e => by
        have hb1 : Below wr.heap.size wr W1 := by rw [← e]; exact (Below.refl _ _).alloc (Nat.le_refl _) _
        have hk : Blk W1 wr.heap.size #[.bool x.rd, .bool x.dn, .int .i64 x.bg, .int .i64 x.en, .int .i64 x.off, .string ns, .slice xa xm xc] 35 := by rw [← e]; exact heap_alloc_new _ _
        refine ⟨hb1, hpB.later hb1, fun W hb => ?_⟩
        have hk2 := hk.later hb
        exact ⟨hk2.cell 0, hk2.cell 1, hk2.cell 2, hk2.cell 3, hk2.cell 4, hk2.cell 5, hk2.cell 6⟩
      have HFin : Hid (∀ (W1 W3 W4 W5 : World) (s : Sl) (v5 : Value), Below wr.heap.size wr W1 → (∀ W, Below W1.heap.size W1 W → W.cell? ⟨wr.heap.size, 0, none⟩ = some (.bool x.rd) ∧ W.cell? ⟨wr.heap.size, 1, none⟩ = some (.bool x.dn) ∧ W.cell? ⟨wr.heap.size, 2, none⟩ = some (.int .i64 x.bg) ∧ W.cell? ⟨wr.heap.size, 3, none⟩ = some (.int .i64 x.en) ∧ W.cell? ⟨wr.heap.size, 4, none⟩ = some (.int .i64 x.off) ∧ W.cell? ⟨wr.heap.size, 5, none⟩ = some (.string ns) ∧ W.cell? ⟨wr.heap.size, 6, none⟩ = some (.slice xa xm xc)) → Below W1.heap.size W1 W3 → Below W3.heap.size W3 W4 → OwnK kS W3 W1.heap.size s.v x.vals → W4.grownBy W5 (Value.slice va i vc).ownBlock → OwnK kC W5 w.heap.size v5 (A ++ [(x, s)]) → (w.heap.size ≤ W5.heap.size ∧ (W5.cell? ⟨wr.heap.size, 0, none⟩ = some (.bool x.rd) ∧ W5.cell? ⟨wr.heap.size, 1, none⟩ = some (.bool x.dn) ∧ W5.cell? ⟨wr.heap.size, 2, none⟩ = some (.int .i64 x.bg) ∧ W5.cell? ⟨wr.heap.size, 3, none⟩ = some (.int .i64 x.en) ∧ W5.cell? ⟨wr.heap.size, 4, none⟩ = some (.int .i64 x.off) ∧ W5.cell? ⟨wr.heap.size, 5, none⟩ = some (.string ns) ∧ W5.cell? ⟨wr.heap.size, 6, none⟩ = some (.slice xa xm xc)) ∧ CS kC W5 w.heap.size v5 (A ++ [(x, s)]) ∧ Below w.heap.size w W5)) := fun W1 W3 W4 W5 s v5 h1 hS h3 h4 hO hG h5 => by
        have h13 := h1.trans (h3.mono h1.size)
        have h04 := h13.trans (h4.mono h13.size)
        have hm := (HCs.out.later h04).more (y := (x, s)) (by decide) ((hO.mono (Nat.le_trans hsz h1.size)).later h4) HSm.out hG h5
        have hb0 : Below w.heap.size wr W5 := (h04.mono hsz).grown hG (by have := h04.size; omega) (fun k hk => (HCs.out.row.block k hk).1)
        have h14 := h3.trans (h4.mono h3.size)
        have hc := hS W4 h14
        have hne : ∀ k, (Value.slice va i vc).ownBlock = some k → wr.heap.size ≠ k := fun k hk e => by have := (HCs.out.row.block k hk).2.1; omega
        have hlt4 : wr.heap.size < W4.heap.size := by
          obtain ⟨c0, -⟩ := hc
          rcases Nat.lt_or_ge wr.heap.size W4.heap.size with h | h
          · exact h
          · simp [World.cell?, Array.getElem?_eq_none h] at c0
        have hbk : W5.heap[wr.heap.size]? = W4.heap[wr.heap.size]? := hG.block _ hlt4 (fun e => hne _ e.symm rfl)
        refine ⟨by have := hb0.size; omega, ?_, hm, HBl.out.trans hb0⟩
        simp only [World.cell?, hbk]
        simp only [World.cell?] at hc
        exact hc
      clear hB hpB hy hns hsm hqb
      go_wp2_with fail
      obtain ⟨W1, hW1⟩ : ∃ W1, wr.alloc (.cells #[.bool x.rd, .bool x.dn, .int .i64 x.bg, .int .i64 x.en, .int .i64 x.off, .string ns, .slice xa xm xc] 35) = W1 := ⟨_, rfl⟩
      obtain ⟨hb1, hq1, hs1⟩ := HW1.out W1 hW1
      have HB1 := hid hb1
      have HS : Hid (∀ W, Below W1.heap.size W1 W → W.cell? ⟨wr.heap.size, 0, none⟩ = some (.bool x.rd) ∧ W.cell? ⟨wr.heap.size, 1, none⟩ = some (.bool x.dn) ∧ W.cell? ⟨wr.heap.size, 2, none⟩ = some (.int .i64 x.bg) ∧ W.cell? ⟨wr.heap.size, 3, none⟩ = some (.int .i64 x.en) ∧ W.cell? ⟨wr.heap.size, 4, none⟩ = some (.int .i64 x.off) ∧ W.cell? ⟨wr.heap.size, 5, none⟩ = some (.string ns) ∧ W.cell? ⟨wr.heap.size, 6, none⟩ = some (.slice xa xm xc)) := hs1
      have HQ : Hid (∀ W, Below W1.heap.size W1 W → ArgK kS W x.vals xa xm xc) := fun W hb => hq1.later hb
      have HZ : Hid (w.heap.size ≤ W1.heap.size) := Nat.le_trans hsz hb1.size
      have HFin := hid (fun W3 W4 W5 s v5 => HFin.out W1 W3 W4 W5 s v5 hb1 hs1)
      have HCs0 := HCs
      have HCs := hid (show OwnK kC W1 w.heap.size (.slice va i vc) A from HCs.out.row.later hb1)
      clear hb1 hq1 hs1
      rw [hW1]
      clear HW1 hW1
      refine wp_region_held_drew (S := fun W => W.cell? ⟨wr.heap.size, 0, none⟩ = some (.bool x.rd) ∧ W.cell? ⟨wr.heap.size, 1, none⟩ = some (.bool x.dn) ∧ W.cell? ⟨wr.heap.size, 2, none⟩ = some (.int .i64 x.bg) ∧ W.cell? ⟨wr.heap.size, 3, none⟩ = some (.int .i64 x.en) ∧ W.cell? ⟨wr.heap.size, 4, none⟩ = some (.int .i64 x.off) ∧ W.cell? ⟨wr.heap.size, 5, none⟩ = some (.string ns) ∧ W.cell? ⟨wr.heap.size, 6, none⟩ = some (.slice xa xm xc)) (by kernel_rfl) (HS.out _ (Below.refl _ W1).drew) (fun hHeld => ?_)
      refine wpAnyH_take (i := 0) (oi := { dst := some 16, op := Op.move (Operand.tmp 3), type := 23, pos := "law.go:17", after := #[], guard := none }) (v := ?_) rfl (by kernel_rfl) (by kernel_rfl) (by kernel_rfl) (fun _ _ _ h => h) (Or.inl ⟨by rfl, ?_⟩) hHeld ?_
      rotate_left
      · intro w hSw; (try dsimp only at hSw); go_simp; try with_reducible rfl
      try simp only [Act.put, List.setIfInBounds_toArray, List.set_cons_zero, List.set_cons_succ]
      refine wpAnyH_take (i := 1) (oi := { dst := some 17, op := Op.fieldAddr 35 (Operand.tmp 5) 0, type := 0, pos := "law.go:17", after := #[], guard := none }) (v := ?_) rfl (by kernel_rfl) (by kernel_rfl) (by kernel_rfl) (fun _ _ _ h => h) (Or.inl ⟨by rfl, ?_⟩) hHeld ?_
      rotate_left
      · intro w hSw; (try dsimp only at hSw); go_simp; try with_reducible rfl
      try simp only [Act.put, List.setIfInBounds_toArray, List.set_cons_zero, List.set_cons_succ]
      refine wpAnyH_take (i := 2) (oi := { dst := some 18, op := Op.load 4 (Operand.tmp 17), type := 4, pos := "law.go:17", after := #[{ on := 1, ground := Ground.data }], guard := none }) (v := ?_) rfl (by kernel_rfl) (by kernel_rfl) (by kernel_rfl) (fun _ _ _ h => h) (Or.inl ⟨by rfl, ?_⟩) hHeld ?_
      rotate_left
      · intro w hSw; (try dsimp only at hSw); go_simp; try with_reducible rfl
      try simp only [Act.put, List.setIfInBounds_toArray, List.set_cons_zero, List.set_cons_succ]
      refine wpAnyH_take (i := 3) (oi := { dst := some 19, op := Op.fieldAddr 35 (Operand.tmp 5) 1, type := 0, pos := "law.go:17", after := #[], guard := none }) (v := ?_) rfl (by kernel_rfl) (by kernel_rfl) (by kernel_rfl) (fun _ _ _ h => h) (Or.inl ⟨by rfl, ?_⟩) hHeld ?_
      rotate_left
      · intro w hSw; (try dsimp only at hSw); go_simp; try with_reducible rfl
      try simp only [Act.put, List.setIfInBounds_toArray, List.set_cons_zero, List.set_cons_succ]
      refine wpAnyH_take (i := 4) (oi := { dst := some 20, op := Op.load 4 (Operand.tmp 19), type := 4, pos := "law.go:17", after := #[{ on := 3, ground := Ground.data }], guard := none }) (v := ?_) rfl (by kernel_rfl) (by kernel_rfl) (by kernel_rfl) (fun _ _ _ h => h) (Or.inl ⟨by rfl, ?_⟩) hHeld ?_
      rotate_left
      · intro w hSw; (try dsimp only at hSw); go_simp; try with_reducible rfl
      try simp only [Act.put, List.setIfInBounds_toArray, List.set_cons_zero, List.set_cons_succ]
      refine wpAnyH_take (i := 5) (oi := { dst := some 21, op := Op.fieldAddr 35 (Operand.tmp 5) 2, type := 0, pos := "law.go:17", after := #[], guard := none }) (v := ?_) rfl (by kernel_rfl) (by kernel_rfl) (by kernel_rfl) (fun _ _ _ h => h) (Or.inl ⟨by rfl, ?_⟩) hHeld ?_
      rotate_left
      · intro w hSw; (try dsimp only at hSw); go_simp; try with_reducible rfl
      try simp only [Act.put, List.setIfInBounds_toArray, List.set_cons_zero, List.set_cons_succ]
      refine wpAnyH_take (i := 6) (oi := { dst := some 22, op := Op.load 3 (Operand.tmp 21), type := 3, pos := "law.go:17", after := #[{ on := 5, ground := Ground.data }], guard := none }) (v := ?_) rfl (by kernel_rfl) (by kernel_rfl) (by kernel_rfl) (fun _ _ _ h => h) (Or.inl ⟨by rfl, ?_⟩) hHeld ?_
      rotate_left
      · intro w hSw; (try dsimp only at hSw); go_simp; try with_reducible rfl
      try simp only [Act.put, List.setIfInBounds_toArray, List.set_cons_zero, List.set_cons_succ]
      refine wpAnyH_take (i := 7) (oi := { dst := some 23, op := Op.fieldAddr 35 (Operand.tmp 5) 3, type := 0, pos := "law.go:17", after := #[], guard := none }) (v := ?_) rfl (by kernel_rfl) (by kernel_rfl) (by kernel_rfl) (fun _ _ _ h => h) (Or.inl ⟨by rfl, ?_⟩) hHeld ?_
      rotate_left
      · intro w hSw; (try dsimp only at hSw); go_simp; try with_reducible rfl
      try simp only [Act.put, List.setIfInBounds_toArray, List.set_cons_zero, List.set_cons_succ]
      refine wpAnyH_take (i := 8) (oi := { dst := some 24, op := Op.load 3 (Operand.tmp 23), type := 3, pos := "law.go:17", after := #[{ on := 7, ground := Ground.data }], guard := none }) (v := ?_) rfl (by kernel_rfl) (by kernel_rfl) (by kernel_rfl) (fun _ _ _ h => h) (Or.inl ⟨by rfl, ?_⟩) hHeld ?_
      rotate_left
      · intro w hSw; (try dsimp only at hSw); go_simp; try with_reducible rfl
      try simp only [Act.put, List.setIfInBounds_toArray, List.set_cons_zero, List.set_cons_succ]
      refine wpAnyH_take (i := 9) (oi := { dst := some 25, op := Op.fieldAddr 35 (Operand.tmp 5) 4, type := 0, pos := "law.go:17", after := #[], guard := none }) (v := ?_) rfl (by kernel_rfl) (by kernel_rfl) (by kernel_rfl) (fun _ _ _ h => h) (Or.inl ⟨by rfl, ?_⟩) hHeld ?_
      rotate_left
      · intro w hSw; (try dsimp only at hSw); go_simp; try with_reducible rfl
      try simp only [Act.put, List.setIfInBounds_toArray, List.set_cons_zero, List.set_cons_succ]
      refine wpAnyH_take (i := 10) (oi := { dst := some 26, op := Op.load 3 (Operand.tmp 25), type := 3, pos := "law.go:17", after := #[{ on := 9, ground := Ground.data }], guard := none }) (v := ?_) rfl (by kernel_rfl) (by kernel_rfl) (by kernel_rfl) (fun _ _ _ h => h) (Or.inl ⟨by rfl, ?_⟩) hHeld ?_
      rotate_left
      · intro w hSw; (try dsimp only at hSw); go_simp; try with_reducible rfl
      try simp only [Act.put, List.setIfInBounds_toArray, List.set_cons_zero, List.set_cons_succ]
      refine wpAnyH_take (i := 11) (oi := { dst := some 27, op := Op.fieldAddr 35 (Operand.tmp 5) 5, type := 0, pos := "law.go:17", after := #[], guard := none }) (v := ?_) rfl (by kernel_rfl) (by kernel_rfl) (by kernel_rfl) (fun _ _ _ h => h) (Or.inl ⟨by rfl, ?_⟩) hHeld ?_
      rotate_left
      · intro w hSw; (try dsimp only at hSw); go_simp; try with_reducible rfl
      try simp only [Act.put, List.setIfInBounds_toArray, List.set_cons_zero, List.set_cons_succ]
      refine wpAnyH_take (i := 12) (oi := { dst := some 28, op := Op.load 9 (Operand.tmp 27), type := 9, pos := "law.go:17", after := #[{ on := 11, ground := Ground.data }], guard := none }) (v := ?_) rfl (by kernel_rfl) (by kernel_rfl) (by kernel_rfl) (fun _ _ _ h => h) (Or.inl ⟨by rfl, ?_⟩) hHeld ?_
      rotate_left
      · intro w hSw; (try dsimp only at hSw); go_simp; try with_reducible rfl
      try simp only [Act.put, List.setIfInBounds_toArray, List.set_cons_zero, List.set_cons_succ]
      refine wpAnyH_take (i := 14) (oi := { dst := some 30, op := Op.fieldAddr 35 (Operand.tmp 5) 6, type := 0, pos := "law.go:17", after := #[], guard := none }) (v := ?_) rfl (by kernel_rfl) (by kernel_rfl) (by kernel_rfl) (fun _ _ _ h => h) (Or.inl ⟨by rfl, ?_⟩) hHeld ?_
      rotate_left
      · intro w hSw; (try dsimp only at hSw); go_simp; try with_reducible rfl
      try simp only [Act.put, List.setIfInBounds_toArray, List.set_cons_zero, List.set_cons_succ]
      refine wpAnyH_take (i := 15) (oi := { dst := some 31, op := Op.load 32 (Operand.tmp 30), type := 32, pos := "law.go:17", after := #[{ on := 14, ground := Ground.data }], guard := none }) (v := ?_) rfl (by kernel_rfl) (by kernel_rfl) (by kernel_rfl) (fun _ _ _ h => h) (Or.inl ⟨by rfl, ?_⟩) hHeld ?_
      rotate_left
      · intro w hSw; (try dsimp only at hSw); go_simp; try with_reducible rfl
      try simp only [Act.put, List.setIfInBounds_toArray, List.set_cons_zero, List.set_cons_succ]
      refine wpAnyH_ready (rs := [13]) (by kernel_rfl) (by simp) ?_
      refine AllReadyH.cons rfl (fun K hK => ?_) (AllReadyH.nil)
      go_simp
      refine hK.out _ _ (HS.out _ ((Below.refl _ W1).alloc (Nat.le_refl _) (.cells #[] 9)).drew) (fun hHeld => ?_)
      clear hK K
      try simp only [Act.put, List.setIfInBounds_toArray, List.set_cons_zero, List.set_cons_succ]
      refine wpAnyH_ready (rs := [16]) (by kernel_rfl) (by simp) ?_
      refine AllReadyH.cons rfl (fun K hK => ?_) (AllReadyH.nil)
      have hO1 := emptyK_drew kS W1
      refine step_app_argK kS_ok (by rfl) (.tmp 29) (.tmp 31) (by rfl) W1.heap.size (.slice (some ⟨W1.heap.size, 0, none⟩) 0 0) [] x.vals (by rfl) hO1 (by rfl) (HQ.out _ ((Below.refl _ W1).alloc (Nat.le_refl _) (.cells #[] 9)).drew) (by rw [List.length_nil]; exact HQm.out.1) (by rw [List.length_nil]; exact HQm.out.2) (by simp [World.drew]) ?_
      intro s' W3 hs' hO3 hG3 hL3
      have hB3 := own_stepK hO1 hG3
      have HO3 := hid hO3; have HB3 := hid hB3; clear hO1 hO3 hG3 hL3 hs'
      obtain ⟨sa, sm, sc⟩ := s'
      unfold Sl.v at HO3 ⊢
      refine hK.out _ _ (HS.out _ HB3.out) (fun hHeld => ?_)
      clear hK K
      refine wpAnyH_take (i := 17) (oi := { dst := some 33, op := Op.build 34 #[(0, Operand.tmp 18), (1, Operand.tmp 20), (2, Operand.tmp 22), (3, Operand.tmp 24), (4, Operand.tmp 26), (5, Operand.tmp 28), (6, Operand.tmp 32)], type := 34, pos := "law.go:17", after := #[{ on := 2, ground := Ground.data }, { on := 4, ground := Ground.data }, { on := 6, ground := Ground.data }, { on := 8, ground := Ground.data }, { on := 10, ground := Ground.data }, { on := 12, ground := Ground.data }, { on := 16, ground := Ground.data }], guard := none }) (v := ?_) rfl (by kernel_rfl) (by kernel_rfl) (by kernel_rfl) (fun _ _ _ h => h) (Or.inl ⟨by rfl, ?_⟩) hHeld ?_
      rotate_left
      · intro w hSw; (try dsimp only at hSw); go_simp; try with_reducible rfl
      refine wpAnyH_ready (rs := [18]) (by kernel_rfl) (by simp) ?_
      refine AllReadyH.cons rfl (fun K hK => ?_) (AllReadyH.nil)
      go_simp
      obtain ⟨W4, hW4⟩ : ∃ W4, (W3.alloc (.cells #[.bool x.rd, .bool x.dn, .int .i64 x.bg, .int .i64 x.en, .int .i64 x.off, .string ns, .slice sa sm sc] 34)) = W4 := ⟨_, rfl⟩
      have hRw : RowK kC W4 (some ⟨W3.heap.size, 0, none⟩) [(x, ⟨sa, sm, sc⟩)] := by rw [← hW4]; exact call_row W3 (x, ⟨sa, sm, sc⟩) ns HNs.out _ kC rfl (fun _ => rfl)
      have hB34 : Below W3.heap.size W3 W4 := by rw [← hW4]; exact (Below.refl _ _).alloc (Nat.le_refl _) _
      rw [hW4]
      have hB4 := HB3.out.trans (hB34.mono HB3.out.size)
      refine hK.out _ _ (HS.out _ hB4) (fun hHeld => ?_)
      clear hK K
      refine wpAnyH_ready (rs := [19]) (by kernel_rfl) (by simp) ?_
      refine AllReadyH.cons rfl (fun K hK => ?_) (AllReadyH.nil)
      refine step_app_kd kC_ok (by rfl) (.tmp 16) (.tmp 34) (by rfl) w.heap.size (.slice va i vc) A (by rfl) (HCs.out.later hB4) W3.heap.size (x, ⟨sa, sm, sc⟩) (by rfl) hRw (by rw [HAl.out]; unfold maxLen; omega) (by rw [HAl.out]; show (i + 1) * 72 ≤ _; omega) (by have := hB4.size; have := HZ.out; omega) ?_
      intro bb cap W5 hO5 hG5 hL5
      have hF := HFin.out W3 W4 W5 ⟨sa, sm, sc⟩ (.slice (some ⟨bb, 0, none⟩) (A.length + 1) cap) HB3.out hB34 HO3.out hG5 hO5
      have HF := hid hF
      have hS5 := hF.2.1
      rw [HAl.out] at HF ⊢
      clear hO5 hG5 hL5 hF hRw hB34 hB4 hW4
      refine hK.out _ _ (hS5) (fun hHeld => ?_)
      clear hK K
      refine wpAnyH_take (i := 20) (oi := { dst := some 3, op := Op.assign (Operand.tmp 35), type := 23, pos := "law.go:17", after := #[{ on := 19, ground := Ground.data }, { on := 19, ground := Ground.chain }, { on := 0, ground := Ground.phase }, { on := 1, ground := Ground.phase }, { on := 2, ground := Ground.phase }, { on := 3, ground := Ground.phase }, { on := 4, ground := Ground.phase }, { on := 5, ground := Ground.phase }, { on := 6, ground := Ground.phase }, { on := 7, ground := Ground.phase }, { on := 8, ground := Ground.phase }, { on := 9, ground := Ground.phase }, { on := 10, ground := Ground.phase }, { on := 11, ground := Ground.phase }, { on := 12, ground := Ground.phase }, { on := 13, ground := Ground.phase }, { on := 14, ground := Ground.phase }, { on := 15, ground := Ground.phase }, { on := 16, ground := Ground.phase }, { on := 17, ground := Ground.phase }, { on := 18, ground := Ground.phase }, { on := 19, ground := Ground.phase }], guard := none }) (v := ?_) rfl (by kernel_rfl) (by kernel_rfl) (by kernel_rfl) (fun _ _ _ h => h) (Or.inl ⟨by rfl, ?_⟩) hHeld ?_
      rotate_left
      · intro w hSw; (try dsimp only at hSw); go_simp; try with_reducible rfl
      refine wpAnyH_done (by kernel_rfl) ?_ _
      go_wp2_with fail
      refine ⟨⟨i + 1, some ⟨bb, 0, none⟩, cap, A ++ [(x, (⟨sa, sm, sc⟩ : Sl))], by omega, by go_num, rfl, HF.out.1, hid HF.out.2.2.1, ?_, hid HF.out.2.2.2⟩, by simp [intOf]; omega⟩
      show cls (A ++ [(x, (⟨sa, sm, sc⟩ : Sl))]) = _
      have := HNm.out
      rw [HTn.out]
      unfold cls at *
      rw [List.map_append, this]
      rfl
    · obtain rfl : rm = i := by omega
      go_wp2_with fail
      go_ret
      refine ⟨va, vc, A, rfl, HCs.out, ?_, HBl.out⟩
      rw [HNm.out, List.take_of_length_le (by rw [cls_len, HL.out]; exact Nat.le_refl _)]
end Go.Proofs.Ytpjemifoilbjeaa
