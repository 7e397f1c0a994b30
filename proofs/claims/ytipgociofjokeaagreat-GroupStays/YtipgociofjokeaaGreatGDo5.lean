/- promise and mark of package group (by gendo415.py). -/
import Derived.Test.YtipgociofjokeaaGreatGDo4
import Derived.Deep.RegionHeld3
import Derived.OrdersHeld
namespace Go.Proofs.YtipgociofjokeaaGreat
open Go.RowKit Go.Shelf Go.Sort
variable {w w' : World} {g M1 M2 M3 n : Nat} {A : Nm → Sl} {pv : Value} {G : Gp} {F : List Nat}

theorem own_own_ne {α β : Type} {K : Kd α} {K' : Kd β} {v v' : Value} {l : List α} {l' : List β} {base base' b b' : Nat} (h : OwnK K w base v l) (h' : OwnK K' w base' v' l') (hT : K.T ≠ K'.T) (hb : v.ownBlock = some b) (hb' : v'.ownBlock = some b') : b ≠ b' := by
  rintro rfl
  obtain ⟨-, -, cur, hc⟩ := h.block b hb
  obtain ⟨-, -, cur', hc'⟩ := h'.block b hb'
  rw [hc] at hc'
  injection hc' with hc'
  injection hc' with h1 h2 h3
  exact hT h2
/-- What is pending, and what was committed, changed. -/
theorem GP.pendTo {W3 : World} (h : GP w F g M1 M2 M3 n A pv G) {X F' : List Nat} (hc : Chg X w W3) (hX : ∀ b ∈ X, b = M2 ∨ pv.ownBlock = some b) {off' : Int → Option Int} {l' : List (Int × Int × Int)} {pv' : Value} {k n' : Nat} (hoff : MapF W3 3 M2 k (intF off')) (hk : k ≤ n' - l'.length) (hn : n ≤ n') (hO : OwnK kPd W3 0 pv' l') (hF : ∀ b ∈ F, b ∈ F') (hP : ∀ b, pv'.ownBlock = some b → b ∈ F') :
    GP (W3.setCell ⟨g, 5, none⟩ pv') F' g M1 M2 M3 n' A pv' { G with off := off', pend := l' } := by
  have n1 := blk_map_ne h.box h.mem
  have n2 := blk_map_ne h.box h.off
  have n3 := blk_map_ne h.box h.ep
  have gX : g ∉ X := fun hm => by rcases hX g hm with e | e; exact n2 e; exact own_blk_ne h.pend e h.box (by decide) rfl
  have hx := (h.box.chg hc gX).set 5 pv'
  have hs : Chg [g] W3 (W3.setCell ⟨g, 5, none⟩ pv') := (Chg.refl _ _).set (Or.inl (by simp)) 5 pv'
  have m1 : MapF W3 9 M1 n (memF G.mem A) := mapF_chg h.mem hc (fun hm => by rcases hX _ hm with e | e; exact h.ne12 e; exact own_map_ne h.pend e h.mem rfl)
  have m3 : MapF W3 3 M3 n (intF G.ep) := mapF_chg h.ep hc (fun hm => by rcases hX _ hm with e | e; exact h.ne23 e.symm; exact own_map_ne h.pend e h.ep rfl)
  refine ⟨hx, (mapF_chg m1 hs (by simp; omega)).mono hn, (mapF_chg hoff hs (by simp; omega)).mono hk, hO.chg hs (fun b hb => ?_), (mapF_chg m3 hs (by simp; omega)).mono hn, fun q mb hq => ?_, h.ne12, h.ne13, h.ne23, hF _ h.inG, hF _ h.in1, hF _ h.in2, hF _ h.in3, hP, fun q mb b hq hb => hF b (h.inR q mb b hq hb)⟩
  · have := own_blk_ne hO hb (h.box.chg hc gX) (by decide)
    simpa using this
  · have hr := h.rows q mb hq
    have hr3 : OwnK kZ W3 0 (A q).v mb.parts := hr.chg hc (fun b hb hm => by rcases hX _ hm with e | e; exact own_map_ne hr hb h.off e; exact own_own_ne hr h.pend (by decide) hb e rfl)
    exact hr3.chg hs (fun b hb => by have := own_blk_ne hr3 hb (h.box.chg hc gX) (by decide); simpa using this)
theorem pd_row (W : World) (y : Int × Int × Int) : RowK kPd (W.alloc (.cells #[.int .i64 y.1, .int .i64 y.2.1, .int .i64 y.2.2] 77)).drew (some ⟨W.heap.size, 0, none⟩) [y] := by
  refine Or.inr ⟨W.heap.size, 0, rfl, by simp [World.drew], fun i hi c hc => ?_⟩
  obtain rfl : i = 0 := by simpa using hi
  have hb : Blk (W.alloc (.cells #[.int .i64 y.1, .int .i64 y.2.1, .int .i64 y.2.2] 77)).drew W.heap.size #[.int .i64 y.1, .int .i64 y.2.1, .int .i64 y.2.2] 77 := heap_alloc_new W _
  rw [show 0 + 0 * kPd.sz + c = c by simp]
  exact (hb.cell c).trans (by rw [List.getElem?_toArray]; rfl)
set_option maxRecDepth 100000 in
set_option maxHeartbeats 2000000 in
theorem promise_any (h : GAt w F g n G) (x : Ev) (hp : -9223372036854775808 ≤ x.prod ∧ x.prod ≤ 9223372036854775807) (hpt : inN x.part) (hn : n + 102 ≤ 598134325510144) : Calls Tryz.prog 30 #[.pointer (some ⟨g, 0, none⟩), .agg (evA x)] w fun r w' => r = .returned (.tuple #[]) ∧ GMv w w' F g (n + 102) { G with pend := G.pend ++ [(x.prod, x.part, x.off)], ep := setN G.ep x.prod (some x.ep) } := by
  obtain ⟨⟨M1, M2, M3, A, pv, h⟩, ho, hF⟩ := h
  obtain ⟨k, s, a, b, c, d, e, f, q⟩ := x
  dsimp only at *
  obtain ⟨t, ht⟩ : ∃ t, nmS s = t := ⟨_, rfl⟩
  show Calls Tryz.prog _ #[_, .agg #[.int .i64 k, .string (nmS s), .int .i64 a, .int .i64 b, .int .i64 c, .int .i64 d, .int .i64 e, .int .i64 f, .bool q]] w _
  rw [ht]
  obtain ⟨W1, hW1⟩ : ∃ W1, w.alloc (.cells #[.int .i64 k, .string t, .int .i64 a, .int .i64 b, .int .i64 c, .int .i64 d, .int .i64 e, .int .i64 f, .bool q] TEv) = W1 := ⟨_, rfl⟩
  have b1 : Below w.heap.size w W1 := by rw [← hW1]; exact (Below.refl _ _).alloc (Nat.le_refl _) _
  have x1 : Blk W1 w.heap.size #[.int .i64 k, .string t, .int .i64 a, .int .i64 b, .int .i64 c, .int .i64 d, .int .i64 e, .int .i64 f, .bool q] TEv := by rw [← hW1]; exact heap_alloc_new w _
  obtain ⟨pa, pc, hpv, hpA⟩ := h.pend.form kPd_ok.tofit
  obtain ⟨pm, hpm⟩ : ∃ pm, G.pend.length = pm := ⟨_, rfl⟩
  rw [hpm] at hpv hpA
  subst hpv
  have hpp := ho.pend
  rw [hpm] at hpp
  have HL5 : Hid (∀ W, Below W1.heap.size W1 W → W.cell? ⟨g, 5, none⟩ = some (.slice pa pm pc)) := fun W hW => ((h.later b1).later hW).box.cell 5
  have HS : Hid (∀ W, Below W1.heap.size W1 W → W.cell? ⟨w.heap.size, 3, none⟩ = some (.int .i64 b) ∧ W.cell? ⟨w.heap.size, 4, none⟩ = some (.int .i64 c) ∧ W.cell? ⟨w.heap.size, 5, none⟩ = some (.int .i64 d) ∧ W.cell? ⟨w.heap.size, 6, none⟩ = some (.int .i64 e)) := fun W hW => by
    have hx := x1.later hW
    exact ⟨hx.cell 3, hx.cell 4, hx.cell 5, hx.cell 6⟩
  have HOp : Hid (∀ W, Below W1.heap.size W1 W → OwnK kPd W 0 (.slice pa pm pc) G.pend) := fun W hW => ((h.later b1).later hW).pend
  have hga : G.pend.length + 1 ≤ maxLen ∧ (G.pend.length + 1) * kPd.bytes ≤ 140737488355328 := by
    rw [hpm]
    refine ⟨by unfold maxLen; omega, ?_⟩
    show (pm + 1) * 24 ≤ _
    omega
  have HFn : Hid (∀ b3 c3 W3, OwnK kPd W3 0 (.slice (some ⟨b3, 0, none⟩) (G.pend.length + 1) c3) (G.pend ++ [(d, b, c)]) → (W1.alloc (.cells #[.int .i64 d, .int .i64 b, .int .i64 c] 77)).drew.grownBy W3 (Value.slice pa pm pc).ownBlock → ((Value.slice pa pm pc).ownBlock = some b3 ∨ b3 = (W1.alloc (.cells #[.int .i64 d, .int .i64 b, .int .i64 c] 77)).drew.heap.size) →
      ∃ W5, (W3.cell? ⟨w.heap.size, 3, none⟩ = some (.int .i64 b) ∧ W3.cell? ⟨w.heap.size, 4, none⟩ = some (.int .i64 c) ∧ W3.cell? ⟨w.heap.size, 5, none⟩ = some (.int .i64 d) ∧ W3.cell? ⟨w.heap.size, 6, none⟩ = some (.int .i64 e)) ∧ (W3.cell? ⟨g, 5, none⟩ = some (.slice pa pm pc) ∧ W3.frozen? ⟨g, 5, none⟩ = false) ∧ ((W3.setCell ⟨g, 5, none⟩ (.slice (some ⟨b3, 0, none⟩) (G.pend.length + 1) c3)).cell? ⟨w.heap.size, 3, none⟩ = some (.int .i64 b) ∧ (W3.setCell ⟨g, 5, none⟩ (.slice (some ⟨b3, 0, none⟩) (G.pend.length + 1) c3)).cell? ⟨w.heap.size, 4, none⟩ = some (.int .i64 c) ∧ (W3.setCell ⟨g, 5, none⟩ (.slice (some ⟨b3, 0, none⟩) (G.pend.length + 1) c3)).cell? ⟨w.heap.size, 5, none⟩ = some (.int .i64 d) ∧ (W3.setCell ⟨g, 5, none⟩ (.slice (some ⟨b3, 0, none⟩) (G.pend.length + 1) c3)).cell? ⟨w.heap.size, 6, none⟩ = some (.int .i64 e)) ∧ ((W3.setCell ⟨g, 5, none⟩ (.slice (some ⟨b3, 0, none⟩) (G.pend.length + 1) c3)).drew.cell? ⟨w.heap.size, 5, none⟩ = some (.int .i64 d) ∧ (W3.setCell ⟨g, 5, none⟩ (.slice (some ⟨b3, 0, none⟩) (G.pend.length + 1) c3)).drew.cell? ⟨w.heap.size, 6, none⟩ = some (.int .i64 e) ∧ (W3.setCell ⟨g, 5, none⟩ (.slice (some ⟨b3, 0, none⟩) (G.pend.length + 1) c3)).drew.cell? ⟨g, 6, none⟩ = some (.map (some M3))) ∧ (Instr.mapUpdate TIi (.map (some M3)) (.int .i64 d) (.int .i64 e)).run Tryz.prog (W3.setCell ⟨g, 5, none⟩ (.slice (some ⟨b3, 0, none⟩) (G.pend.length + 1) c3)).drew = .ok () W5 ∧ (W5.cell? ⟨w.heap.size, 5, none⟩ = some (.int .i64 d) ∧ W5.cell? ⟨w.heap.size, 6, none⟩ = some (.int .i64 e) ∧ W5.cell? ⟨g, 6, none⟩ = some (.map (some M3))) ∧ GMv w W5 F g (n + 102) { G with pend := G.pend ++ [(d, b, c)], ep := setN G.ep d (some e) }) := fun b3 c3 W3 hO hG hN => by
    obtain ⟨V, hV⟩ : ∃ V, (W1.alloc (.cells #[.int .i64 d, .int .i64 b, .int .i64 c] 77)).drew = V := ⟨_, rfl⟩
    rw [hV] at hG hN
    have bV : Below W1.heap.size W1 V := by rw [← hV]; exact ((Below.refl _ W1).alloc (Nat.le_refl _) (.cells #[.int .i64 d, .int .i64 b, .int .i64 c] 77)).drew
    have gpV := (h.later b1).later bV
    have hcX : Chg (Value.slice pa pm pc).ownBlock.toList V W3 := grown_chg hG _ (fun q hq => by simp [hq])
    have hXp : ∀ q ∈ (Value.slice pa pm pc).ownBlock.toList, (Value.slice pa pm pc).ownBlock = some q := fun q hq => by simpa using hq
    have hXw : ∀ q ∈ (Value.slice pa pm pc).ownBlock.toList, q < w.heap.size := fun q hq => (h.pend.block q (hXp q hq)).2.1
    have gX : g ∉ (Value.slice pa pm pc).ownBlock.toList := fun hm => own_blk_ne h.pend (hXp _ hm) h.box (by decide) rfl
    have gp4 := gpV.pendTo (F' := b3 :: F) (k := n - G.pend.length) (n' := n + 1) (off' := G.off) hcX (fun q hq => Or.inr (hXp q hq)) (mapF_chg gpV.off hcX (fun hm => own_map_ne gpV.pend (hXp _ hm) gpV.off rfl)) (by rw [List.length_append]; simp only [List.length_cons, List.length_nil]; omega) (by omega) hO (fun q hq => List.mem_cons_of_mem _ hq) (fun q hq => by cases hq; simp)
    have hx3 := (x1.later bV).chg hcX (fun hm => by have := hXw _ hm; omega)
    have hb3 := gpV.box.chg hcX gX
    have hs4 : Chg [g] W3 (W3.setCell ⟨g, 5, none⟩ (.slice (some ⟨b3, 0, none⟩) (G.pend.length + 1) c3)) := (Chg.refl _ _).set (Or.inl (by simp)) 5 _
    have hgl := h.box.lt
    have hM3l := h.ep.lt
    have hx4 := hx3.chg hs4 (by simp; omega)
    have gp4d := gp4.keep (w' := (W3.setCell ⟨g, 5, none⟩ (.slice (some ⟨b3, 0, none⟩) (G.pend.length + 1) c3)).drew) (fun q _ _ => rfl)
    obtain ⟨W5, hr5, gp5, hc5⟩ := gp4d.storeEp (by unfold maxLen; omega) hp.1 hp.2 e
    have hx5 : Blk W5 w.heap.size #[.int .i64 k, .string t, .int .i64 a, .int .i64 b, .int .i64 c, .int .i64 d, .int .i64 e, .int .i64 f, .bool q] TEv := Blk.chg (w := (W3.setCell ⟨g, 5, none⟩ (.slice (some ⟨b3, 0, none⟩) (G.pend.length + 1) c3)).drew) hx4 hc5 (by simp; omega)
    refine ⟨W5, ⟨hx3.cell 3, hx3.cell 4, hx3.cell 5, hx3.cell 6⟩, ⟨hb3.cell 5, hb3.free 5⟩, ⟨hx4.cell 3, hx4.cell 4, hx4.cell 5, hx4.cell 6⟩, ⟨hx4.cell 5, hx4.cell 6, gp4.box.cell 6⟩, hr5, ⟨hx5.cell 5, hx5.cell 6, gp5.box.cell 6⟩, b3 :: F, ⟨⟨M1, M2, M3, A, _, gp5.mono (by omega)⟩, ?_, ?_⟩, ?_, ?_⟩
    · refine ⟨ho.sorted, ho.nodup, ho.mem, ho.name, ho.cnt, ho.parts, ho.sess, ho.heard, ho.share, ⟨ho.gen.1, by have := ho.gen.2; show G.gen ≤ ((n + 102 : Nat) : Int); omega⟩, ?_, fun y hy => ?_⟩
      · show (G.pend ++ [(d, b, c)]).length * 102 ≤ n + 102
        rw [List.length_append]
        have := ho.pend
        simp only [List.length_cons, List.length_nil]
        omega
      · rcases List.mem_append.1 hy with hy | hy
        · exact ho.pin y hy
        · have e : y = (d, b, c) := by simpa using hy
          rw [e]; exact hpt
    · intro q hq
      have z5 : W3.heap.size ≤ W5.heap.size := Nat.le_trans hs4.size hc5.size
      rcases List.mem_cons.1 hq with rfl | hq
      · exact Nat.lt_of_lt_of_le (hO.block q rfl).2.1 z5
      · exact Nat.lt_of_lt_of_le (hF q hq) (Nat.le_trans b1.size (Nat.le_trans bV.size (Nat.le_trans hcX.size z5)))
    · have k1 : Chg F w V := (Chg.of b1).trans (Chg.of bV) (fun q hq => Or.inl hq)
      have k2 : Chg F w W3 := k1.trans (hcX.mono (fun q hq => h.inP q (hXp q hq))) (fun q hq => Or.inl hq)
      have k3 : Chg F w (W3.setCell ⟨g, 5, none⟩ (.slice (some ⟨b3, 0, none⟩) (G.pend.length + 1) c3)) := k2.trans (hs4.mono (fun q hq => by simp at hq; subst hq; exact h.inG)) (fun q hq => Or.inl hq)
      have k4 : Chg F w (W3.setCell ⟨g, 5, none⟩ (.slice (some ⟨b3, 0, none⟩) (G.pend.length + 1) c3)).drew := ⟨k3.os, k3.tape, k3.output, k3.size, k3.block⟩
      exact k4.trans (hc5.mono (fun q hq => by simp at hq; subst hq; exact h.in3)) (fun q hq => Or.inl hq)
    · intro q hq
      rcases List.mem_cons.1 hq with rfl | hq
      · rcases hN with e | e
        · exact Or.inl (h.inP q e)
        · right; rw [e]; exact Nat.le_trans b1.size bV.size
      · exact Or.inl hq
  clear h ho hF b1 x1 hpA hpm hpp
  go_enter Tryz.func30, Tryz.ntmps30
  go_wp2_with fail
  refine wp_region_held_drew (S := fun W => W.cell? ⟨w.heap.size, 3, none⟩ = some (.int .i64 b) ∧ W.cell? ⟨w.heap.size, 4, none⟩ = some (.int .i64 c) ∧ W.cell? ⟨w.heap.size, 5, none⟩ = some (.int .i64 d) ∧ W.cell? ⟨w.heap.size, 6, none⟩ = some (.int .i64 e)) (by kernel_rfl) (HS.out _ (Below.refl _ W1).drew) (fun hHeld => ?_)
  refine wpAnyH_take (i := 0) (oi := { dst := some 4, op := Op.move (Operand.tmp 0), type := 23, pos := "deeds.go:101", after := #[], guard := none }) (v := ?_) rfl (by kernel_rfl) (by kernel_rfl) (by kernel_rfl) (fun _ _ _ h => h) (Or.inl ⟨by rfl, ?_⟩) hHeld ?_
  rotate_left
  · intro w hSw; (try dsimp only at hSw); go_simp; try with_reducible rfl
  try simp only [Act.put, List.setIfInBounds_toArray, List.set_cons_zero, List.set_cons_succ]
  refine wpAnyH_take (i := 1) (oi := { dst := some 5, op := Op.move (Operand.tmp 0), type := 23, pos := "deeds.go:101", after := #[], guard := none }) (v := ?_) rfl (by kernel_rfl) (by kernel_rfl) (by kernel_rfl) (fun _ _ _ h => h) (Or.inl ⟨by rfl, ?_⟩) hHeld ?_
  rotate_left
  · intro w hSw; (try dsimp only at hSw); go_simp; try with_reducible rfl
  try simp only [Act.put, List.setIfInBounds_toArray, List.set_cons_zero, List.set_cons_succ]
  refine wpAnyH_take (i := 2) (oi := { dst := some 6, op := Op.nilCheck (Operand.tmp 5), type := 0, pos := "deeds.go:101", after := #[{ on := 1, ground := Ground.data }], guard := none }) (v := ?_) rfl (by kernel_rfl) (by kernel_rfl) (by kernel_rfl) (fun _ _ _ h => h) (Or.inl ⟨by rfl, ?_⟩) hHeld ?_
  rotate_left
  · intro w hSw; (try dsimp only at hSw); go_simp; try with_reducible rfl
  try simp only [Act.put, List.setIfInBounds_toArray, List.set_cons_zero, List.set_cons_succ]
  refine wpAnyH_take (i := 3) (oi := { dst := some 7, op := Op.fieldAddr 41 (Operand.tmp 6) 5, type := 0, pos := "deeds.go:101", after := #[{ on := 2, ground := Ground.data }], guard := none }) (v := ?_) rfl (by kernel_rfl) (by kernel_rfl) (by kernel_rfl) (fun _ _ _ h => h) (Or.inl ⟨by rfl, ?_⟩) hHeld ?_
  rotate_left
  · intro w hSw; (try dsimp only at hSw); go_simp; try with_reducible rfl
  try simp only [Act.put, List.setIfInBounds_toArray, List.set_cons_zero, List.set_cons_succ]
  refine wpAnyH_take (i := 5) (oi := { dst := some 9, op := Op.fieldAddr 31 (Operand.tmp 3) 5, type := 0, pos := "deeds.go:101", after := #[], guard := none }) (v := ?_) rfl (by kernel_rfl) (by kernel_rfl) (by kernel_rfl) (fun _ _ _ h => h) (Or.inl ⟨by rfl, ?_⟩) hHeld ?_
  rotate_left
  · intro w hSw; (try dsimp only at hSw); go_simp; try with_reducible rfl
  try simp only [Act.put, List.setIfInBounds_toArray, List.set_cons_zero, List.set_cons_succ]
  refine wpAnyH_take (i := 6) (oi := { dst := some 10, op := Op.load 3 (Operand.tmp 9), type := 3, pos := "deeds.go:101", after := #[{ on := 5, ground := Ground.data }], guard := none }) (v := ?_) rfl (by kernel_rfl) (by kernel_rfl) (by kernel_rfl) (fun _ _ _ h => h) (Or.inl ⟨by rfl, ?_⟩) hHeld ?_
  rotate_left
  · intro w hSw; (try dsimp only at hSw); go_simp; try with_reducible rfl
  try simp only [Act.put, List.setIfInBounds_toArray, List.set_cons_zero, List.set_cons_succ]
  refine wpAnyH_take (i := 7) (oi := { dst := some 11, op := Op.fieldAddr 31 (Operand.tmp 3) 3, type := 0, pos := "deeds.go:101", after := #[], guard := none }) (v := ?_) rfl (by kernel_rfl) (by kernel_rfl) (by kernel_rfl) (fun _ _ _ h => h) (Or.inl ⟨by rfl, ?_⟩) hHeld ?_
  rotate_left
  · intro w hSw; (try dsimp only at hSw); go_simp; try with_reducible rfl
  try simp only [Act.put, List.setIfInBounds_toArray, List.set_cons_zero, List.set_cons_succ]
  refine wpAnyH_take (i := 8) (oi := { dst := some 12, op := Op.load 3 (Operand.tmp 11), type := 3, pos := "deeds.go:101", after := #[{ on := 7, ground := Ground.data }], guard := none }) (v := ?_) rfl (by kernel_rfl) (by kernel_rfl) (by kernel_rfl) (fun _ _ _ h => h) (Or.inl ⟨by rfl, ?_⟩) hHeld ?_
  rotate_left
  · intro w hSw; (try dsimp only at hSw); go_simp; try with_reducible rfl
  try simp only [Act.put, List.setIfInBounds_toArray, List.set_cons_zero, List.set_cons_succ]
  refine wpAnyH_take (i := 9) (oi := { dst := some 13, op := Op.fieldAddr 31 (Operand.tmp 3) 4, type := 0, pos := "deeds.go:101", after := #[], guard := none }) (v := ?_) rfl (by kernel_rfl) (by kernel_rfl) (by kernel_rfl) (fun _ _ _ h => h) (Or.inl ⟨by rfl, ?_⟩) hHeld ?_
  rotate_left
  · intro w hSw; (try dsimp only at hSw); go_simp; try with_reducible rfl
  try simp only [Act.put, List.setIfInBounds_toArray, List.set_cons_zero, List.set_cons_succ]
  refine wpAnyH_take (i := 10) (oi := { dst := some 14, op := Op.load 3 (Operand.tmp 13), type := 3, pos := "deeds.go:101", after := #[{ on := 9, ground := Ground.data }], guard := none }) (v := ?_) rfl (by kernel_rfl) (by kernel_rfl) (by kernel_rfl) (fun _ _ _ h => h) (Or.inl ⟨by rfl, ?_⟩) hHeld ?_
  rotate_left
  · intro w hSw; (try dsimp only at hSw); go_simp; try with_reducible rfl
  try simp only [Act.put, List.setIfInBounds_toArray, List.set_cons_zero, List.set_cons_succ]
  refine wpAnyH_take (i := 11) (oi := { dst := some 15, op := Op.build 77 #[(0, Operand.tmp 10), (1, Operand.tmp 12), (2, Operand.tmp 14)], type := 77, pos := "deeds.go:101", after := #[{ on := 6, ground := Ground.data }, { on := 8, ground := Ground.data }, { on := 10, ground := Ground.data }], guard := none }) (v := .agg #[.int .i64 d, .int .i64 b, .int .i64 c]) rfl (by kernel_rfl) (by kernel_rfl) (by kernel_rfl) (fun _ _ _ h => h) (Or.inl ⟨by rfl, ?_⟩) hHeld ?_
  · intro w hSw; go_simp
  try simp only [Act.put, List.setIfInBounds_toArray, List.set_cons_zero, List.set_cons_succ]
  refine wpAnyH_ready (rs := [4, 12]) (by kernel_rfl) (by simp) ?_
  refine AllReadyH.cons rfl (fun K hK => ?_) (AllReadyH.cons rfl (fun K hK => ?_) (AllReadyH.nil))
  · skip
    have q0 := HL5.out W1.drew (Below.refl _ W1).drew
    go_simp
    clear q0
    refine hK.out _ _ (HS.out _ (Below.refl _ W1).drew) (fun hHeld => ?_)
    clear hK K
    try simp only [Act.put, List.setIfInBounds_toArray, List.set_cons_zero, List.set_cons_succ]
    refine wpAnyH_ready (rs := [12]) (by kernel_rfl) (by simp) ?_
    refine AllReadyH.cons rfl (fun K hK => ?_) (AllReadyH.nil)
    go_simp
    refine hK.out _ _ (HS.out _ ((Below.refl _ W1).alloc (Nat.le_refl _) (.cells #[.int .i64 d, .int .i64 b, .int .i64 c] 77)).drew) (fun hHeld => ?_)
    clear hK K
    try simp only [Act.put, List.setIfInBounds_toArray, List.set_cons_zero, List.set_cons_succ]
    refine wpAnyH_ready (rs := [13]) (by kernel_rfl) (by simp) ?_
    refine AllReadyH.cons rfl (fun K hK => ?_) (AllReadyH.nil)
    refine step_app_kd kPd_ok (by rfl) (.tmp 8) (.tmp 16) (by rfl) 0 (.slice pa pm pc) G.pend (by rfl) (HOp.out _ ((Below.refl _ W1).alloc (Nat.le_refl _) (.cells #[.int .i64 d, .int .i64 b, .int .i64 c] 77)).drew) W1.heap.size (d, b, c) (by rfl) (pd_row W1 (d, b, c)) hga.1 hga.2 (Nat.zero_le _) ?_
    intro b3 c3 W3 hO3 hG3 hN3
    obtain ⟨W5, s1, ⟨q5, f5⟩, s4, s4d, hr5, s5, hf5⟩ := HFn.out b3 c3 W3 hO3 hG3 hN3
    have HF5 := hid hf5
    have HS4 := hid s4
    have HS4d := hid s4d
    have HS5 := hid s5
    clear hf5 s4 s4d s5 hO3 hG3 hN3
    refine hK.out _ _ (s1) (fun hHeld => ?_)
    clear hK K
    refine wpAnyH_take (i := 14) (oi := { dst := some 18, op := Op.nilCheck (Operand.tmp 4), type := 0, pos := "deeds.go:101", after := #[{ on := 0, ground := Ground.data }, { on := 0, ground := Ground.phase }, { on := 1, ground := Ground.phase }, { on := 2, ground := Ground.phase }, { on := 3, ground := Ground.phase }, { on := 4, ground := Ground.phase }, { on := 5, ground := Ground.phase }, { on := 6, ground := Ground.phase }, { on := 7, ground := Ground.phase }, { on := 8, ground := Ground.phase }, { on := 9, ground := Ground.phase }, { on := 10, ground := Ground.phase }, { on := 11, ground := Ground.phase }, { on := 12, ground := Ground.phase }, { on := 13, ground := Ground.phase }], guard := none }) (v := ?_) rfl (by kernel_rfl) (by kernel_rfl) (by kernel_rfl) (fun _ _ _ h => h) (Or.inl ⟨by rfl, ?_⟩) hHeld ?_
    rotate_left
    · intro w hSw; (try dsimp only at hSw); go_simp; try with_reducible rfl
    refine wpAnyH_take (i := 15) (oi := { dst := some 19, op := Op.fieldAddr 41 (Operand.tmp 18) 5, type := 0, pos := "deeds.go:101", after := #[{ on := 14, ground := Ground.data }, { on := 0, ground := Ground.phase }, { on := 1, ground := Ground.phase }, { on := 2, ground := Ground.phase }, { on := 3, ground := Ground.phase }, { on := 4, ground := Ground.phase }, { on := 5, ground := Ground.phase }, { on := 6, ground := Ground.phase }, { on := 7, ground := Ground.phase }, { on := 8, ground := Ground.phase }, { on := 9, ground := Ground.phase }, { on := 10, ground := Ground.phase }, { on := 11, ground := Ground.phase }, { on := 12, ground := Ground.phase }, { on := 13, ground := Ground.phase }], guard := none }) (v := ?_) rfl (by kernel_rfl) (by kernel_rfl) (by kernel_rfl) (fun _ _ _ h => h) (Or.inl ⟨by rfl, ?_⟩) hHeld ?_
    rotate_left
    · intro w hSw; (try dsimp only at hSw); go_simp; try with_reducible rfl
    refine wpAnyH_ready (rs := [16]) (by kernel_rfl) (by simp) ?_
    refine AllReadyH.cons rfl (fun K hK => ?_) (AllReadyH.nil)
    go_simp
    refine hK.out _ _ (HS4.out) (fun hHeld => ?_)
    clear hK K
    refine wpAnyH_done (by kernel_rfl) ?_ _
    clear hHeld q5 f5
    go_wp2_with fail
    refine wp_region_held_drew (S := fun W => W.cell? ⟨w.heap.size, 5, none⟩ = some (.int .i64 d) ∧ W.cell? ⟨w.heap.size, 6, none⟩ = some (.int .i64 e) ∧ W.cell? ⟨g, 6, none⟩ = some (.map (some M3))) (by kernel_rfl) (HS4d.out) (fun hHeld => ?_)
    refine wpAnyH_take (i := 0) (oi := { dst := some 20, op := Op.move (Operand.tmp 0), type := 23, pos := "deeds.go:102", after := #[], guard := none }) (v := ?_) rfl (by kernel_rfl) (by kernel_rfl) (by kernel_rfl) (fun _ _ _ h => h) (Or.inl ⟨by rfl, ?_⟩) hHeld ?_
    rotate_left
    · intro w hSw; (try dsimp only at hSw); go_simp; try with_reducible rfl
    try simp only [Act.put, List.setIfInBounds_toArray, List.set_cons_zero, List.set_cons_succ]
    refine wpAnyH_take (i := 1) (oi := { dst := some 21, op := Op.nilCheck (Operand.tmp 20), type := 0, pos := "deeds.go:102", after := #[{ on := 0, ground := Ground.data }], guard := none }) (v := ?_) rfl (by kernel_rfl) (by kernel_rfl) (by kernel_rfl) (fun _ _ _ h => h) (Or.inl ⟨by rfl, ?_⟩) hHeld ?_
    rotate_left
    · intro w hSw; (try dsimp only at hSw); go_simp; try with_reducible rfl
    try simp only [Act.put, List.setIfInBounds_toArray, List.set_cons_zero, List.set_cons_succ]
    refine wpAnyH_take (i := 2) (oi := { dst := some 22, op := Op.fieldAddr 41 (Operand.tmp 21) 6, type := 0, pos := "deeds.go:102", after := #[{ on := 1, ground := Ground.data }], guard := none }) (v := ?_) rfl (by kernel_rfl) (by kernel_rfl) (by kernel_rfl) (fun _ _ _ h => h) (Or.inl ⟨by rfl, ?_⟩) hHeld ?_
    rotate_left
    · intro w hSw; (try dsimp only at hSw); go_simp; try with_reducible rfl
    try simp only [Act.put, List.setIfInBounds_toArray, List.set_cons_zero, List.set_cons_succ]
    refine wpAnyH_take (i := 3) (oi := { dst := some 23, op := Op.load 38 (Operand.tmp 22), type := 38, pos := "deeds.go:102", after := #[{ on := 2, ground := Ground.data }], guard := none }) (v := ?_) rfl (by kernel_rfl) (by kernel_rfl) (by kernel_rfl) (fun _ _ _ h => h) (Or.inl ⟨by rfl, ?_⟩) hHeld ?_
    rotate_left
    · intro w hSw; (try dsimp only at hSw); go_simp; try with_reducible rfl
    try simp only [Act.put, List.setIfInBounds_toArray, List.set_cons_zero, List.set_cons_succ]
    refine wpAnyH_take (i := 4) (oi := { dst := some 24, op := Op.fieldAddr 31 (Operand.tmp 3) 5, type := 0, pos := "deeds.go:102", after := #[], guard := none }) (v := ?_) rfl (by kernel_rfl) (by kernel_rfl) (by kernel_rfl) (fun _ _ _ h => h) (Or.inl ⟨by rfl, ?_⟩) hHeld ?_
    rotate_left
    · intro w hSw; (try dsimp only at hSw); go_simp; try with_reducible rfl
    try simp only [Act.put, List.setIfInBounds_toArray, List.set_cons_zero, List.set_cons_succ]
    refine wpAnyH_take (i := 5) (oi := { dst := some 25, op := Op.load 3 (Operand.tmp 24), type := 3, pos := "deeds.go:102", after := #[{ on := 4, ground := Ground.data }], guard := none }) (v := ?_) rfl (by kernel_rfl) (by kernel_rfl) (by kernel_rfl) (fun _ _ _ h => h) (Or.inl ⟨by rfl, ?_⟩) hHeld ?_
    rotate_left
    · intro w hSw; (try dsimp only at hSw); go_simp; try with_reducible rfl
    try simp only [Act.put, List.setIfInBounds_toArray, List.set_cons_zero, List.set_cons_succ]
    refine wpAnyH_take (i := 6) (oi := { dst := some 26, op := Op.fieldAddr 31 (Operand.tmp 3) 6, type := 0, pos := "deeds.go:102", after := #[], guard := none }) (v := ?_) rfl (by kernel_rfl) (by kernel_rfl) (by kernel_rfl) (fun _ _ _ h => h) (Or.inl ⟨by rfl, ?_⟩) hHeld ?_
    rotate_left
    · intro w hSw; (try dsimp only at hSw); go_simp; try with_reducible rfl
    try simp only [Act.put, List.setIfInBounds_toArray, List.set_cons_zero, List.set_cons_succ]
    refine wpAnyH_take (i := 7) (oi := { dst := some 27, op := Op.load 3 (Operand.tmp 26), type := 3, pos := "deeds.go:102", after := #[{ on := 6, ground := Ground.data }], guard := none }) (v := ?_) rfl (by kernel_rfl) (by kernel_rfl) (by kernel_rfl) (fun _ _ _ h => h) (Or.inl ⟨by rfl, ?_⟩) hHeld ?_
    rotate_left
    · intro w hSw; (try dsimp only at hSw); go_simp; try with_reducible rfl
    try simp only [Act.put, List.setIfInBounds_toArray, List.set_cons_zero, List.set_cons_succ]
    refine wpAnyH_ready (rs := [8]) (by kernel_rfl) (by simp) ?_
    refine AllReadyH.cons rfl (fun K hK => ?_) (AllReadyH.nil)
    go_simp
    refine hK.out _ _ (HS5.out) (fun hHeld => ?_)
    clear hK K
    try simp only [Act.put, List.setIfInBounds_toArray, List.set_cons_zero, List.set_cons_succ]
    refine wpAnyH_done (by kernel_rfl) ?_ _
    clear hHeld
    go_wp2_with fail
    go_end0
    exact ⟨rfl, HF5.out⟩
  · skip
    go_simp
    refine hK.out _ _ (HS.out _ ((Below.refl _ W1).alloc (Nat.le_refl _) (.cells #[.int .i64 d, .int .i64 b, .int .i64 c] 77)).drew) (fun hHeld => ?_)
    clear hK K
    try simp only [Act.put, List.setIfInBounds_toArray, List.set_cons_zero, List.set_cons_succ]
    refine wpAnyH_ready (rs := [4]) (by kernel_rfl) (by simp) ?_
    refine AllReadyH.cons rfl (fun K hK => ?_) (AllReadyH.nil)
    have q0 := HL5.out (W1.alloc (.cells #[.int .i64 d, .int .i64 b, .int .i64 c] 77)).drew ((Below.refl _ W1).alloc (Nat.le_refl _) (.cells #[.int .i64 d, .int .i64 b, .int .i64 c] 77)).drew
    go_simp
    clear q0
    refine hK.out _ _ (HS.out _ ((Below.refl _ W1).alloc (Nat.le_refl _) (.cells #[.int .i64 d, .int .i64 b, .int .i64 c] 77)).drew) (fun hHeld => ?_)
    clear hK K
    try simp only [Act.put, List.setIfInBounds_toArray, List.set_cons_zero, List.set_cons_succ]
    refine wpAnyH_ready (rs := [13]) (by kernel_rfl) (by simp) ?_
    refine AllReadyH.cons rfl (fun K hK => ?_) (AllReadyH.nil)
    refine step_app_kd kPd_ok (by rfl) (.tmp 8) (.tmp 16) (by rfl) 0 (.slice pa pm pc) G.pend (by rfl) (HOp.out _ ((Below.refl _ W1).alloc (Nat.le_refl _) (.cells #[.int .i64 d, .int .i64 b, .int .i64 c] 77)).drew) W1.heap.size (d, b, c) (by rfl) (pd_row W1 (d, b, c)) hga.1 hga.2 (Nat.zero_le _) ?_
    intro b3 c3 W3 hO3 hG3 hN3
    obtain ⟨W5, s1, ⟨q5, f5⟩, s4, s4d, hr5, s5, hf5⟩ := HFn.out b3 c3 W3 hO3 hG3 hN3
    have HF5 := hid hf5
    have HS4 := hid s4
    have HS4d := hid s4d
    have HS5 := hid s5
    clear hf5 s4 s4d s5 hO3 hG3 hN3
    refine hK.out _ _ (s1) (fun hHeld => ?_)
    clear hK K
    refine wpAnyH_take (i := 14) (oi := { dst := some 18, op := Op.nilCheck (Operand.tmp 4), type := 0, pos := "deeds.go:101", after := #[{ on := 0, ground := Ground.data }, { on := 0, ground := Ground.phase }, { on := 1, ground := Ground.phase }, { on := 2, ground := Ground.phase }, { on := 3, ground := Ground.phase }, { on := 4, ground := Ground.phase }, { on := 5, ground := Ground.phase }, { on := 6, ground := Ground.phase }, { on := 7, ground := Ground.phase }, { on := 8, ground := Ground.phase }, { on := 9, ground := Ground.phase }, { on := 10, ground := Ground.phase }, { on := 11, ground := Ground.phase }, { on := 12, ground := Ground.phase }, { on := 13, ground := Ground.phase }], guard := none }) (v := ?_) rfl (by kernel_rfl) (by kernel_rfl) (by kernel_rfl) (fun _ _ _ h => h) (Or.inl ⟨by rfl, ?_⟩) hHeld ?_
    rotate_left
    · intro w hSw; (try dsimp only at hSw); go_simp; try with_reducible rfl
    refine wpAnyH_take (i := 15) (oi := { dst := some 19, op := Op.fieldAddr 41 (Operand.tmp 18) 5, type := 0, pos := "deeds.go:101", after := #[{ on := 14, ground := Ground.data }, { on := 0, ground := Ground.phase }, { on := 1, ground := Ground.phase }, { on := 2, ground := Ground.phase }, { on := 3, ground := Ground.phase }, { on := 4, ground := Ground.phase }, { on := 5, ground := Ground.phase }, { on := 6, ground := Ground.phase }, { on := 7, ground := Ground.phase }, { on := 8, ground := Ground.phase }, { on := 9, ground := Ground.phase }, { on := 10, ground := Ground.phase }, { on := 11, ground := Ground.phase }, { on := 12, ground := Ground.phase }, { on := 13, ground := Ground.phase }], guard := none }) (v := ?_) rfl (by kernel_rfl) (by kernel_rfl) (by kernel_rfl) (fun _ _ _ h => h) (Or.inl ⟨by rfl, ?_⟩) hHeld ?_
    rotate_left
    · intro w hSw; (try dsimp only at hSw); go_simp; try with_reducible rfl
    refine wpAnyH_ready (rs := [16]) (by kernel_rfl) (by simp) ?_
    refine AllReadyH.cons rfl (fun K hK => ?_) (AllReadyH.nil)
    go_simp
    refine hK.out _ _ (HS4.out) (fun hHeld => ?_)
    clear hK K
    refine wpAnyH_done (by kernel_rfl) ?_ _
    clear hHeld q5 f5
    go_wp2_with fail
    refine wp_region_held_drew (S := fun W => W.cell? ⟨w.heap.size, 5, none⟩ = some (.int .i64 d) ∧ W.cell? ⟨w.heap.size, 6, none⟩ = some (.int .i64 e) ∧ W.cell? ⟨g, 6, none⟩ = some (.map (some M3))) (by kernel_rfl) (HS4d.out) (fun hHeld => ?_)
    refine wpAnyH_take (i := 0) (oi := { dst := some 20, op := Op.move (Operand.tmp 0), type := 23, pos := "deeds.go:102", after := #[], guard := none }) (v := ?_) rfl (by kernel_rfl) (by kernel_rfl) (by kernel_rfl) (fun _ _ _ h => h) (Or.inl ⟨by rfl, ?_⟩) hHeld ?_
    rotate_left
    · intro w hSw; (try dsimp only at hSw); go_simp; try with_reducible rfl
    try simp only [Act.put, List.setIfInBounds_toArray, List.set_cons_zero, List.set_cons_succ]
    refine wpAnyH_take (i := 1) (oi := { dst := some 21, op := Op.nilCheck (Operand.tmp 20), type := 0, pos := "deeds.go:102", after := #[{ on := 0, ground := Ground.data }], guard := none }) (v := ?_) rfl (by kernel_rfl) (by kernel_rfl) (by kernel_rfl) (fun _ _ _ h => h) (Or.inl ⟨by rfl, ?_⟩) hHeld ?_
    rotate_left
    · intro w hSw; (try dsimp only at hSw); go_simp; try with_reducible rfl
    try simp only [Act.put, List.setIfInBounds_toArray, List.set_cons_zero, List.set_cons_succ]
    refine wpAnyH_take (i := 2) (oi := { dst := some 22, op := Op.fieldAddr 41 (Operand.tmp 21) 6, type := 0, pos := "deeds.go:102", after := #[{ on := 1, ground := Ground.data }], guard := none }) (v := ?_) rfl (by kernel_rfl) (by kernel_rfl) (by kernel_rfl) (fun _ _ _ h => h) (Or.inl ⟨by rfl, ?_⟩) hHeld ?_
    rotate_left
    · intro w hSw; (try dsimp only at hSw); go_simp; try with_reducible rfl
    try simp only [Act.put, List.setIfInBounds_toArray, List.set_cons_zero, List.set_cons_succ]
    refine wpAnyH_take (i := 3) (oi := { dst := some 23, op := Op.load 38 (Operand.tmp 22), type := 38, pos := "deeds.go:102", after := #[{ on := 2, ground := Ground.data }], guard := none }) (v := ?_) rfl (by kernel_rfl) (by kernel_rfl) (by kernel_rfl) (fun _ _ _ h => h) (Or.inl ⟨by rfl, ?_⟩) hHeld ?_
    rotate_left
    · intro w hSw; (try dsimp only at hSw); go_simp; try with_reducible rfl
    try simp only [Act.put, List.setIfInBounds_toArray, List.set_cons_zero, List.set_cons_succ]
    refine wpAnyH_take (i := 4) (oi := { dst := some 24, op := Op.fieldAddr 31 (Operand.tmp 3) 5, type := 0, pos := "deeds.go:102", after := #[], guard := none }) (v := ?_) rfl (by kernel_rfl) (by kernel_rfl) (by kernel_rfl) (fun _ _ _ h => h) (Or.inl ⟨by rfl, ?_⟩) hHeld ?_
    rotate_left
    · intro w hSw; (try dsimp only at hSw); go_simp; try with_reducible rfl
    try simp only [Act.put, List.setIfInBounds_toArray, List.set_cons_zero, List.set_cons_succ]
    refine wpAnyH_take (i := 5) (oi := { dst := some 25, op := Op.load 3 (Operand.tmp 24), type := 3, pos := "deeds.go:102", after := #[{ on := 4, ground := Ground.data }], guard := none }) (v := ?_) rfl (by kernel_rfl) (by kernel_rfl) (by kernel_rfl) (fun _ _ _ h => h) (Or.inl ⟨by rfl, ?_⟩) hHeld ?_
    rotate_left
    · intro w hSw; (try dsimp only at hSw); go_simp; try with_reducible rfl
    try simp only [Act.put, List.setIfInBounds_toArray, List.set_cons_zero, List.set_cons_succ]
    refine wpAnyH_take (i := 6) (oi := { dst := some 26, op := Op.fieldAddr 31 (Operand.tmp 3) 6, type := 0, pos := "deeds.go:102", after := #[], guard := none }) (v := ?_) rfl (by kernel_rfl) (by kernel_rfl) (by kernel_rfl) (fun _ _ _ h => h) (Or.inl ⟨by rfl, ?_⟩) hHeld ?_
    rotate_left
    · intro w hSw; (try dsimp only at hSw); go_simp; try with_reducible rfl
    try simp only [Act.put, List.setIfInBounds_toArray, List.set_cons_zero, List.set_cons_succ]
    refine wpAnyH_take (i := 7) (oi := { dst := some 27, op := Op.load 3 (Operand.tmp 26), type := 3, pos := "deeds.go:102", after := #[{ on := 6, ground := Ground.data }], guard := none }) (v := ?_) rfl (by kernel_rfl) (by kernel_rfl) (by kernel_rfl) (fun _ _ _ h => h) (Or.inl ⟨by rfl, ?_⟩) hHeld ?_
    rotate_left
    · intro w hSw; (try dsimp only at hSw); go_simp; try with_reducible rfl
    try simp only [Act.put, List.setIfInBounds_toArray, List.set_cons_zero, List.set_cons_succ]
    refine wpAnyH_ready (rs := [8]) (by kernel_rfl) (by simp) ?_
    refine AllReadyH.cons rfl (fun K hK => ?_) (AllReadyH.nil)
    go_simp
    refine hK.out _ _ (HS5.out) (fun hHeld => ?_)
    clear hK K
    try simp only [Act.put, List.setIfInBounds_toArray, List.set_cons_zero, List.set_cons_succ]
    refine wpAnyH_done (by kernel_rfl) ?_ _
    clear hHeld
    go_wp2_with fail
    go_end0
    exact ⟨rfl, HF5.out⟩
end Go.Proofs.YtipgociofjokeaaGreat
