/- The walk of ChainGrows (by gengrows.py). -/
import Derived.Test.YtgkabdmeggaphabGrowsP
import Derived.Deep.RegionHeld
namespace Go.Proofs.Ytgkabdmeggaphab
open Go.RowKit
variable {w : World} {xs : List Int} {ad : Option Addr} {m c : Nat}

theorem mod16 (k : Nat) : 0 ≤ (k : Int).tmod 16 ∧ (k : Int).tmod 16 ≤ 15 := by
  rw [Int.tmod_eq_emod_of_nonneg (by omega)]
  omega
theorem tmod_rng (x : Int) : -4097 < x.tmod 4097 ∧ x.tmod 4097 < 4097 := by
  constructor
  · have := Int.lt_tmod_of_pos x (show (0 : Int) < 4097 by omega); omega
  · exact Int.tmod_lt_of_pos x (by omega)
set_option maxRecDepth 100000 in
set_option maxHeartbeats 4000000 in
theorem grows_walk (h : Ints w xs ad m c) : Calls Try.prog 3 #[.slice ad m c] w fun x w' => x = .returned (.bool true) ∧ Below w.heap.size w w' := by
  have H := hid h
  have hm : m ≤ 9223372036854775807 := by have := h.cap; have := h.room; unfold maxLen at this; omega
  have hlx := h.len
  have HST := hid (GW.start w xs)
  clear h
  obtain ⟨M, hM⟩ : ∃ M, M = min m 60 := ⟨_, rfl⟩
  have hM1 : M ≤ m := by omega
  have hM2 : M ≤ 60 := by omega
  have hM3 : Hid (M = m ∨ M = 60) := hid (by omega)
  clear hM
  go_enter Try.func3, Try.ntmps3
  go_wp2_with fail
  go_loopw [4, 5, 6, 7] (fun x4 x5 x6 x7 wr => ∃ k : Nat, k ≤ M ∧ x7 = .int .i64 k ∧ x4 = .int .i64 (endsN xs k) ∧ ∃ ow adc mc cc, Hid (GW w xs k ow adc mc cc x5 x6 wr)) (fun _ _ _ x7 _ => M - (intOf x7).toNat)
  case atStart => exact ⟨0, by omega, rfl, rfl, _, _, _, _, HST⟩
  case round =>
    obtain ⟨k, hk, rfl, rfl, ow, adc, mc, cc, HG⟩ := hrel
    clear HST
    have k0 : wr.cell? ⟨w.heap.size, 0, none⟩ = some (.int .i64 ow) := HG.out.box.cell 0
    have k1 : wr.cell? ⟨w.heap.size, 1, none⟩ = some (.int .i64 0) := HG.out.box.cell 1
    have k2 : wr.cell? ⟨w.heap.size, 2, none⟩ = some (.slice adc mc cc) := HG.out.box.cell 2
    by_cases hlt : k < M
    · have d1 : decide ((k : Int) < (m : Int)) = true := by simp; omega
      have d2 : decide ((k : Int) < 60) = true := by simp; omega
      obtain ⟨ow', how'⟩ : ∃ ow', (k : Int).tmod 16 = ow' := ⟨_, rfl⟩
      have HOW : Hid (0 ≤ ow' ∧ ow' ≤ 15) := hid (by rw [← how']; exact mod16 k)
      obtain ⟨A1, hA1, -⟩ := HG.out.chain
      have hek := endsN_rng xs k
      have hexE := grows_ext xs (show k < 60 by omega) HG.out.own HOW.out
      have hexC : extC ow 0 (growsN xs k) 3 ow' (endsN xs k) (k : Int) [0, 1, 2] = ⟨ow', 0, growsN xs (k + 1)⟩ := by unfold extC; rw [if_pos hexE]; rfl
      have HEX := extend_any (o := ow) (t := 0) (n := 3) (e := endsN xs k) (ow := ow') (id := (k : Int)) (hA1.later ((Below.refl _ wr).alloc (Nat.le_refl _) (.cells #[.int .i64 0, .int .i64 1, .int .i64 2] 3))) (ints3 wr) (fun e => by cases e) (by omega) (by omega) (by omega)
      rw [hexE, hexC] at HEX
      simp only at HEX
      replace HEX := hid HEX
      have HBX : Hid (∀ (w2 : World) (ow' : Int) (ad' : Option Addr) (m' c' : Nat), Below (wr.alloc (.cells #[.int .i64 0, .int .i64 1, .int .i64 2] 3)).heap.size (wr.alloc (.cells #[.int .i64 0, .int .i64 1, .int .i64 2] 3)) w2 → (w2.alloc (.cells #[.int .i64 ow', .int .i64 0, .slice ad' m' c'] 25)).cell? ⟨w.heap.size, 0, none⟩ = some (.int .i64 ow) ∧ (w2.alloc (.cells #[.int .i64 ow', .int .i64 0, .slice ad' m' c'] 25)).cell? ⟨w.heap.size, 1, none⟩ = some (.int .i64 0) ∧ (w2.alloc (.cells #[.int .i64 ow', .int .i64 0, .slice ad' m' c'] 25)).cell? ⟨w.heap.size, 2, none⟩ = some (.slice adc mc cc) ∧ (w2.alloc (.cells #[.int .i64 ow', .int .i64 0, .slice ad' m' c'] 25)).frozen? ⟨w.heap.size, 0, none⟩ = false ∧ (w2.alloc (.cells #[.int .i64 ow', .int .i64 0, .slice ad' m' c'] 25)).frozen? ⟨w.heap.size, 1, none⟩ = false ∧ (w2.alloc (.cells #[.int .i64 ow', .int .i64 0, .slice ad' m' c'] 25)).frozen? ⟨w.heap.size, 2, none⟩ = false) := hid (fun w2 ow' ad' m' c' hb => by
        have q : Blk (w2.alloc (.cells #[.int .i64 ow', .int .i64 0, .slice ad' m' c'] 25)) w.heap.size _ _ := blk_alloc _ _ ((blk_alloc _ _ HG.out.box).later hb)
        exact ⟨q.cell 0, q.cell 1, q.cell 2, q.free 0, q.free 1, q.free 2⟩)
      obtain ⟨b, off, rfl, hs, hc⟩ := H.out.row.resolve_left (by omega)
      have HXS : Hid (∀ W, Below w.heap.size w W → W.cell? ⟨b, off + k, none⟩ = some (.int .i64 (xs.getD k 0))) := hid (fun W hW => (hW.cell (p := ⟨b, off + k, none⟩) hs).trans (hc k (by omega)))
      have hstep : Hid (endsN xs (k + 1) = endsN xs k + dN (xs.getD k 0)) := hid rfl
      have hdr := dN_rng (xs.getD k 0)
      have hrr := tmod_rng (xs.getD k 0)
      unfold dN at hdr hstep
      clear hc hs hA1 hexE hexC
      generalize xs.getD k 0 = xk at *
      generalize hr : xk.tmod 4097 = r at *
      generalize hq : (r + 4097).tmod 4097 = q at *
      go_wp2_with first | (go_at_call 5; refine (num10_any _ _).mono ?_; rintro x wn ⟨rfl, hwn⟩; obtain rfl := hwn.symm) | (go_at_call 4; refine HEX.out.mono ?_; rintro x w2 ⟨ad', m', c', rfl, hans, hb2⟩; have HGX := hid (HG.out.ext HOW.out (.cells #[.int .i64 0, .int .i64 1, .int .i64 2] 3) hb2 hans.out); obtain ⟨y0, y1, y2, e0, e1, e2⟩ := HBX.out w2 ow' ad' m' c' hb2; have z5 := HGX.out.below.size; clear hb2 hans) | (at_builtin; refine app_int1 rfl _ _ rfl (w.heap.size + 1) k u5 (firstsN xs k) rfl (HGX.out.own5 (.cells #[.int .i64 (endsN xs k)] 3)) (firstsN_len xs k) (w2.heap.size + 1) (endsN xs k) rfl (heap_alloc_new' _ _ _ (by simp [World.setCell])) (by omega) (by have := HGX.out.box.lt; rw [World.size_alloc]; omega) ?_; intro v5' w6 r5 g5 e5; have HR5 := hid r5; have HG5 := hid g5; have HE5 := hid e5; clear r5 g5 e5) | (at_builtin; refine app_int1 rfl _ _ rfl (w.heap.size + 1) k u6 (idsN k) rfl (HGX.out.own6 (.cells #[.int .i64 (endsN xs k)] 3) (.cells #[.int .i64 (k : Int)] 3) HG5.out) (idsN_len k) w6.heap.size (k : Int) rfl (heap_alloc_new _ _) (by omega) (by have h1 := HGX.out.box.lt; have h2 := HG5.out.size; rw [World.size_alloc] at h2 ⊢; omega) ?_; intro v6' w8 r6 g6 e6; have HGN := hid (HGX.out.apps (.cells #[.int .i64 (endsN xs k)] 3) (.cells #[.int .i64 (k : Int)] 3) HR5.out HG5.out HE5.out r6 g6 e6); have r0 := HXS.out w8 HGN.out.below; clear r6 g6 e6)
      exact ⟨⟨k + 1, by omega, by go_num, by rw [hstep.out], _, _, _, _, HGN⟩, by simp [intOf]; omega⟩
    · obtain rfl : k = M := by omega
      have d1 : (decide (k < m) = false) ∨ (decide (k < m) = true ∧ decide ((k : Int) < 60) = false) := by
        by_cases q : k < m
        · exact Or.inr ⟨by simp; omega, by simp; have := hM3.out; omega⟩
        · exact Or.inl (by simp; omega)
      obtain ⟨A1, hA1, -⟩ := HG.out.chain
      obtain ⟨s5, rfl, hm5, hi5, -⟩ := OwnI.form (l := firstsN xs k) (by unfold OwnI; rw [firstsN_len]; exact HG.out.f5) (fun x hx => by
        unfold firstsN at hx
        obtain ⟨i, hi, rfl⟩ := List.mem_map.1 hx
        have := endsN_rng xs i
        have := List.mem_range.1 hi
        omega)
      obtain ⟨s6, rfl, hm6, hi6, -⟩ := OwnI.form (l := idsN k) (by unfold OwnI; rw [idsN_len]; exact HG.out.f6) (fun x hx => by
        unfold idsN at hx
        obtain ⟨i, hi, rfl⟩ := List.mem_map.1 hx
        have := List.mem_range.1 hi
        omega)
      rw [firstsN_len] at hm5
      rw [idsN_len] at hm6
      have HG2 := hid HG.out.below
      have HBX2 := hid HG.out.box
      have HA1 := hid hA1
      have HI5 := hid hi5
      have HI6 := hid hi6
      obtain ⟨a5, m5, c5⟩ := s5
      obtain ⟨a6, m6, c6⟩ := s6
      simp only at hm5 hm6
      subst hm5 hm6
      have HMY := hid ((grows_gi xs m6).may hM2 (o := ow) HG.out.own)
      clear HG hA1 hi5 hi6 k0 k1 k2
      have HS2 : Hid (∀ X, Below wr.heap.size wr X → (X.cell? ⟨w.heap.size, 0, none⟩ = some (.int .i64 ow) ∧ X.cell? ⟨w.heap.size, 1, none⟩ = some (.int .i64 0) ∧ X.cell? ⟨w.heap.size, 2, none⟩ = some (.slice adc mc cc)) ∧ CArg X (growsN xs m6) A1 adc mc cc ∧ Ints X (firstsN xs m6) a5 m6 c5 ∧ Ints X (idsN m6) a6 m6 c6) := hid (fun X hX => ⟨⟨(HBX2.out.later hX).cell 0, (HBX2.out.later hX).cell 1, (HBX2.out.later hX).cell 2⟩, HA1.out.later hX, HI5.out.later hX, HI6.out.later hX⟩)
      clear HBX2 HA1 HI5 HI6 H
      rcases d1 with d1 | ⟨d1, d2⟩
      · go_wp2_with fail
        go_loopw [10] (fun x10 wr' => ∃ j : Nat, j ≤ m6 ∧ x10 = .int .i64 j ∧ Hid (Below wr.heap.size wr wr')) (fun x10 _ => m6 - (intOf x10).toNat)
        case atStart => exact ⟨0, by omega, rfl, hid (Below.refl _ _)⟩
        case round =>
          obtain ⟨j, hj, rfl, HB⟩ := hrel
          obtain ⟨⟨k0, k1, k2⟩, -, hi5, hi6⟩ := HS2.out wr HB.out
          by_cases hjl : j < m6
          · have dj : decide ((j : Int) < (m6 : Int)) = true := by simp; omega
            obtain ⟨b5, o5, rfl, h5, hc5⟩ := hi5.row.resolve_left (by omega)
            obtain ⟨b6, o6, rfl, h6, hc6⟩ := hi6.row.resolve_left (by omega)
            have q5 := hc5 j hjl
            rw [firstsN_get xs m6 j hjl] at q5
            have q6 := hc6 j hjl
            rw [idsN_get m6 j hjl] at q6
            have hr1 := endsN_rng xs j
            have hr2 := endsN_rng xs (j + 1)
            have HS : Hid (∀ W, Below wr.heap.size wr W → (W.cell? ⟨w.heap.size, 0, none⟩ = some (.int .i64 ow) ∧ W.cell? ⟨w.heap.size, 1, none⟩ = some (.int .i64 0) ∧ W.cell? ⟨w.heap.size, 2, none⟩ = some (.slice adc mc cc)) ∧ W.cell? ⟨b5, o5 + j, none⟩ = some (.int .i64 (endsN xs j))) := hid (fun W hW => ⟨(HS2.out W (HB.out.trans (hW.mono HB.out.size))).1, (hW.cell (p := ⟨b5, o5 + j, none⟩) h5).trans q5⟩)
            have HS6 : Hid (∀ W, Below wr.heap.size wr W → W.cell? ⟨b6, o6 + j, none⟩ = some (.int .i64 (j : Int))) := hid (fun W hW => (hW.cell (p := ⟨b6, o6 + j, none⟩) h6).trans q6)
            by_cases hn : j + 1 < m6
            · have dn : decide ((j : Int) + 1 < (m6 : Int)) = true := by simp; omega
              have dn2 : (j : Int) + 1 < (m6 : Int) := by omega
              have qn := hc5 (j + 1) hn
              rw [firstsN_get xs m6 (j + 1) hn] at qn
              have hix : ((j : Int) + 1).toNat = j + 1 := by omega
              clear hi5 hi6 hc5 hc6 h5 h6
              by_cases hE : endsN xs j = endsN xs (j + 1)
              · have dE : (endsN xs (j + 1) == endsN xs j) = true := by simp [hE]
                clear hE
                go_wp2_with fail
                exact ⟨⟨j + 1, by omega, by go_num, HB⟩, by simp [intOf]; omega⟩
              · have hlt2 : endsN xs j < endsN xs (j + 1) := by have := (endsN_step xs j).1; omega
                have dE : (endsN xs (j + 1) == endsN xs j) = false := by simp; omega
                obtain ⟨hw1, hw2⟩ := grows_where xs (show j < m6 by omega) hlt2
                have HW1 : Hid (∀ X, Below wr.heap.size wr X → Calls Try.prog 6 #[.agg #[.int .i64 ow, .int .i64 0, .slice adc mc cc], .int .i64 (endsN xs j)] X fun x w' => x = .returned (.tuple #[.int .i64 (j : Int), .int .i64 0, .bool true]) ∧ Below X.heap.size X w') := hid (fun X hX => by
                  have h9 := where_any (HS2.out X (HB.out.trans (hX.mono HB.out.size))).2.1 ow 0 (endsN xs j) (by omega)
                  rw [hw1] at h9
                  exact h9)
                have HW2 : Hid (∀ X, Below wr.heap.size wr X → Calls Try.prog 6 #[.agg #[.int .i64 ow, .int .i64 0, .slice adc mc cc], .int .i64 (endsN xs (j + 1) - 1)] X fun x w' => x = .returned (.tuple #[.int .i64 (j : Int), .int .i64 (endsN xs (j + 1) - 1 - endsN xs j), .bool true]) ∧ Below X.heap.size X w') := hid (fun X hX => by
                  have h9 := where_any (HS2.out X (HB.out.trans (hX.mono HB.out.size))).2.1 ow 0 (endsN xs (j + 1) - 1) (by omega)
                  rw [hw2] at h9
                  exact h9)
                clear hE hw1 hw2
                go_wp2_with fail
                refine wp_region_held_drew (S := fun W => (W.cell? ⟨w.heap.size, 0, none⟩ = some (.int .i64 ow) ∧ W.cell? ⟨w.heap.size, 1, none⟩ = some (.int .i64 0) ∧ W.cell? ⟨w.heap.size, 2, none⟩ = some (.slice adc mc cc)) ∧ W.cell? ⟨b5, o5 + j, none⟩ = some (.int .i64 (endsN xs j))) (by kernel_rfl) (HS.out _ (Below.refl _ _).drew) (fun hHeld => ?_)
                refine wpAnyH_take (i := 0) (oi := { dst := some 85, op := Op.load 25 (Operand.tmp 3), type := 25, pos := "law.go:191", after := #[], guard := none }) (v := ?_) rfl (by kernel_rfl) (by kernel_rfl) (by kernel_rfl) (fun _ _ _ h => h) (Or.inl ⟨by rfl, ?_⟩) hHeld ?_
                rotate_left
                · intro w hSw; (try dsimp only at hSw); go_simp; try with_reducible rfl
                try simp only [Act.put, List.setIfInBounds_toArray, List.set_cons_zero, List.set_cons_succ]
                refine wpAnyH_take (i := 1) (oi := { dst := some 86, op := Op.move (Operand.tmp 5), type := 22, pos := "law.go:191", after := #[], guard := none }) (v := ?_) rfl (by kernel_rfl) (by kernel_rfl) (by kernel_rfl) (fun _ _ _ h => h) (Or.inl ⟨by rfl, ?_⟩) hHeld ?_
                rotate_left
                · intro w hSw; (try dsimp only at hSw); go_simp; try with_reducible rfl
                try simp only [Act.put, List.setIfInBounds_toArray, List.set_cons_zero, List.set_cons_succ]
                refine wpAnyH_take (i := 2) (oi := { dst := some 87, op := Op.move (Operand.tmp 10), type := 3, pos := "law.go:191", after := #[], guard := none }) (v := ?_) rfl (by kernel_rfl) (by kernel_rfl) (by kernel_rfl) (fun _ _ _ h => h) (Or.inl ⟨by rfl, ?_⟩) hHeld ?_
                rotate_left
                · intro w hSw; (try dsimp only at hSw); go_simp; try with_reducible rfl
                try simp only [Act.put, List.setIfInBounds_toArray, List.set_cons_zero, List.set_cons_succ]
                refine wpAnyH_take (i := 3) (oi := { dst := some 88, op := Op.indexAddr 22 (Operand.tmp 86) (Operand.tmp 87), type := 0, pos := "law.go:191", after := #[{ on := 1, ground := Ground.data }, { on := 2, ground := Ground.data }], guard := none }) (v := ?_) rfl (by kernel_rfl) (by kernel_rfl) (by kernel_rfl) (fun _ _ _ h => h) (Or.inl ⟨by rfl, ?_⟩) hHeld ?_
                rotate_left
                · intro w hSw; (try dsimp only at hSw); go_simp; try with_reducible rfl
                try simp only [Act.put, List.setIfInBounds_toArray, List.set_cons_zero, List.set_cons_succ]
                refine wpAnyH_take (i := 4) (oi := { dst := some 89, op := Op.load 3 (Operand.tmp 88), type := 3, pos := "law.go:191", after := #[{ on := 3, ground := Ground.data }], guard := none }) (v := ?_) rfl (by kernel_rfl) (by kernel_rfl) (by kernel_rfl) (fun _ _ _ h => h) (Or.inl ⟨by rfl, ?_⟩) hHeld ?_
                rotate_left
                · intro w hSw; (try dsimp only at hSw); go_simp; try with_reducible rfl
                try simp only [Act.put, List.setIfInBounds_toArray, List.set_cons_zero, List.set_cons_succ]
                refine wpAnyH_ready (rs := [5]) (by kernel_rfl) (by simp) ?_
                refine AllReadyH.cons rfl (fun K hK => ?_) (AllReadyH.nil)
                go_simp
                go_wp2_with (go_at_call 6; refine (HW1.out _ (Below.refl _ _).drew).mono ?_; rintro x w3 ⟨rfl, hb3⟩; have HB3 := hid (((Below.refl _ wr).drew).trans hb3); clear hb3)
                refine hK.out _ _ (HS.out _ HB3.out) (fun hHeld => ?_)
                clear hK K
                try simp only [Act.put, List.setIfInBounds_toArray, List.set_cons_zero, List.set_cons_succ]
                refine wpAnyH_take (i := 6) (oi := { dst := some 84, op := Op.move (Operand.tmp 90), type := 32, pos := "law.go:191", after := #[{ on := 5, ground := Ground.data }], guard := none }) (v := ?_) rfl (by kernel_rfl) (by kernel_rfl) (by kernel_rfl) (fun _ _ _ h => h) (Or.inl ⟨by rfl, ?_⟩) hHeld ?_
                rotate_left
                · intro w hSw; (try dsimp only at hSw); go_simp; try with_reducible rfl
                try simp only [Act.put, List.setIfInBounds_toArray, List.set_cons_zero, List.set_cons_succ]
                refine wpAnyH_take (i := 7) (oi := { dst := some 91, op := Op.extract (Operand.tmp 84) 0, type := 3, pos := "law.go:191", after := #[{ on := 6, ground := Ground.data }], guard := none }) (v := ?_) rfl (by kernel_rfl) (by kernel_rfl) (by kernel_rfl) (fun _ _ _ h => h) (Or.inl ⟨by rfl, ?_⟩) hHeld ?_
                rotate_left
                · intro w hSw; (try dsimp only at hSw); go_simp; try with_reducible rfl
                try simp only [Act.put, List.setIfInBounds_toArray, List.set_cons_zero, List.set_cons_succ]
                refine wpAnyH_take (i := 8) (oi := { dst := some 92, op := Op.extract (Operand.tmp 84) 1, type := 3, pos := "law.go:191", after := #[{ on := 6, ground := Ground.data }, { on := 10, ground := Ground.gcOnly Departure.lateStores }], guard := none }) (v := ?_) rfl (by kernel_rfl) (by kernel_rfl) (by kernel_rfl) (fun _ _ _ h => h) (Or.inl ⟨by rfl, ?_⟩) hHeld ?_
                rotate_left
                · intro w hSw; (try dsimp only at hSw); go_simp; try with_reducible rfl
                try simp only [Act.put, List.setIfInBounds_toArray, List.set_cons_zero, List.set_cons_succ]
                refine wpAnyH_take (i := 9) (oi := { dst := some 93, op := Op.extract (Operand.tmp 84) 2, type := 4, pos := "law.go:191", after := #[{ on := 6, ground := Ground.data }, { on := 11, ground := Ground.gcOnly Departure.lateStores }], guard := none }) (v := ?_) rfl (by kernel_rfl) (by kernel_rfl) (by kernel_rfl) (fun _ _ _ h => h) (Or.inl ⟨by rfl, ?_⟩) hHeld ?_
                rotate_left
                · intro w hSw; (try dsimp only at hSw); go_simp; try with_reducible rfl
                try simp only [Act.put, List.setIfInBounds_toArray, List.set_cons_zero, List.set_cons_succ]
                refine wpAnyH_take (i := 10) (oi := { dst := some 12, op := Op.assign (Operand.tmp 91), type := 3, pos := "law.go:191", after := #[{ on := 7, ground := Ground.data }, { on := 5, ground := Ground.chain }, { on := 0, ground := Ground.phase }, { on := 1, ground := Ground.phase }, { on := 2, ground := Ground.phase }, { on := 3, ground := Ground.phase }, { on := 4, ground := Ground.phase }, { on := 5, ground := Ground.phase }, { on := 6, ground := Ground.phase }, { on := 7, ground := Ground.phase }, { on := 8, ground := Ground.textOnly Departure.lateStores }, { on := 9, ground := Ground.textOnly Departure.lateStores }], guard := none }) (v := ?_) rfl (by kernel_rfl) (by kernel_rfl) (by kernel_rfl) (fun _ _ _ h => h) (Or.inl ⟨by rfl, ?_⟩) hHeld ?_
                rotate_left
                · intro w hSw; (try dsimp only at hSw); go_simp; try with_reducible rfl
                try simp only [Act.put, List.setIfInBounds_toArray, List.set_cons_zero, List.set_cons_succ]
                refine wpAnyH_take (i := 11) (oi := { dst := some 13, op := Op.assign (Operand.tmp 92), type := 3, pos := "law.go:191", after := #[{ on := 8, ground := Ground.data }, { on := 10, ground := Ground.chain }, { on := 0, ground := Ground.phase }, { on := 1, ground := Ground.phase }, { on := 2, ground := Ground.phase }, { on := 3, ground := Ground.phase }, { on := 4, ground := Ground.phase }, { on := 5, ground := Ground.phase }, { on := 6, ground := Ground.phase }, { on := 7, ground := Ground.phase }, { on := 8, ground := Ground.phase }, { on := 9, ground := Ground.textOnly Departure.lateStores }, { on := 10, ground := Ground.phase }], guard := none }) (v := ?_) rfl (by kernel_rfl) (by kernel_rfl) (by kernel_rfl) (fun _ _ _ h => h) (Or.inl ⟨by rfl, ?_⟩) hHeld ?_
                rotate_left
                · intro w hSw; (try dsimp only at hSw); go_simp; try with_reducible rfl
                try simp only [Act.put, List.setIfInBounds_toArray, List.set_cons_zero, List.set_cons_succ]
                refine wpAnyH_take (i := 12) (oi := { dst := some 14, op := Op.assign (Operand.tmp 93), type := 4, pos := "law.go:191", after := #[{ on := 9, ground := Ground.data }, { on := 11, ground := Ground.chain }, { on := 0, ground := Ground.phase }, { on := 1, ground := Ground.phase }, { on := 2, ground := Ground.phase }, { on := 3, ground := Ground.phase }, { on := 4, ground := Ground.phase }, { on := 5, ground := Ground.phase }, { on := 6, ground := Ground.phase }, { on := 7, ground := Ground.phase }, { on := 8, ground := Ground.phase }, { on := 9, ground := Ground.phase }, { on := 10, ground := Ground.phase }, { on := 11, ground := Ground.phase }], guard := none }) (v := ?_) rfl (by kernel_rfl) (by kernel_rfl) (by kernel_rfl) (fun _ _ _ h => h) (Or.inl ⟨by rfl, ?_⟩) hHeld ?_
                rotate_left
                · intro w hSw; (try dsimp only at hSw); go_simp; try with_reducible rfl
                try simp only [Act.put, List.setIfInBounds_toArray, List.set_cons_zero, List.set_cons_succ]
                refine wpAnyH_done (by kernel_rfl) ?_ _
                obtain ⟨⟨k0, k1, k2⟩, r0⟩ := HS.out w3 HB3.out
                go_wp2_with (go_at_call 6; refine (HW2.out w3 HB3.out).mono ?_; rintro x w4 ⟨rfl, hb4⟩; have HB4 := hid (HB3.out.trans (hb4.mono HB3.out.size)); obtain ⟨-, r0⟩ := HS.out w4 HB4.out; have r6 := HS6.out w4 HB4.out; clear hb4)
                exact ⟨⟨j + 1, by omega, by go_num, hid (HB.out.trans (HB4.out.mono HB.out.size))⟩, by simp [intOf]; omega⟩
            · obtain rfl : m6 = j + 1 := by omega
              have dn : decide ((j : Int) + 1 < ((j + 1 : Nat) : Int)) = false := by simp
              clear hi5 hi6 hc5 hc6 h5 h6
              by_cases hE : endsN xs j = endsN xs (j + 1)
              · have dE : (endsN xs (j + 1) == endsN xs j) = true := by simp [hE]
                clear hE
                go_wp2_with fail
                exact ⟨⟨j + 1, by omega, by go_num, HB⟩, by simp [intOf]⟩
              · have hlt2 : endsN xs j < endsN xs (j + 1) := by have := (endsN_step xs j).1; omega
                have dE : (endsN xs (j + 1) == endsN xs j) = false := by simp; omega
                obtain ⟨hw1, hw2⟩ := grows_where xs (show j < (j + 1) by omega) hlt2
                have HW1 : Hid (∀ X, Below wr.heap.size wr X → Calls Try.prog 6 #[.agg #[.int .i64 ow, .int .i64 0, .slice adc mc cc], .int .i64 (endsN xs j)] X fun x w' => x = .returned (.tuple #[.int .i64 (j : Int), .int .i64 0, .bool true]) ∧ Below X.heap.size X w') := hid (fun X hX => by
                  have h9 := where_any (HS2.out X (HB.out.trans (hX.mono HB.out.size))).2.1 ow 0 (endsN xs j) (by omega)
                  rw [hw1] at h9
                  exact h9)
                have HW2 : Hid (∀ X, Below wr.heap.size wr X → Calls Try.prog 6 #[.agg #[.int .i64 ow, .int .i64 0, .slice adc mc cc], .int .i64 (endsN xs (j + 1) - 1)] X fun x w' => x = .returned (.tuple #[.int .i64 (j : Int), .int .i64 (endsN xs (j + 1) - 1 - endsN xs j), .bool true]) ∧ Below X.heap.size X w') := hid (fun X hX => by
                  have h9 := where_any (HS2.out X (HB.out.trans (hX.mono HB.out.size))).2.1 ow 0 (endsN xs (j + 1) - 1) (by omega)
                  rw [hw2] at h9
                  exact h9)
                clear hE hw1 hw2
                go_wp2_with fail
                refine wp_region_held_drew (S := fun W => (W.cell? ⟨w.heap.size, 0, none⟩ = some (.int .i64 ow) ∧ W.cell? ⟨w.heap.size, 1, none⟩ = some (.int .i64 0) ∧ W.cell? ⟨w.heap.size, 2, none⟩ = some (.slice adc mc cc)) ∧ W.cell? ⟨b5, o5 + j, none⟩ = some (.int .i64 (endsN xs j))) (by kernel_rfl) (HS.out _ (Below.refl _ _).drew) (fun hHeld => ?_)
                refine wpAnyH_take (i := 0) (oi := { dst := some 85, op := Op.load 25 (Operand.tmp 3), type := 25, pos := "law.go:191", after := #[], guard := none }) (v := ?_) rfl (by kernel_rfl) (by kernel_rfl) (by kernel_rfl) (fun _ _ _ h => h) (Or.inl ⟨by rfl, ?_⟩) hHeld ?_
                rotate_left
                · intro w hSw; (try dsimp only at hSw); go_simp; try with_reducible rfl
                try simp only [Act.put, List.setIfInBounds_toArray, List.set_cons_zero, List.set_cons_succ]
                refine wpAnyH_take (i := 1) (oi := { dst := some 86, op := Op.move (Operand.tmp 5), type := 22, pos := "law.go:191", after := #[], guard := none }) (v := ?_) rfl (by kernel_rfl) (by kernel_rfl) (by kernel_rfl) (fun _ _ _ h => h) (Or.inl ⟨by rfl, ?_⟩) hHeld ?_
                rotate_left
                · intro w hSw; (try dsimp only at hSw); go_simp; try with_reducible rfl
                try simp only [Act.put, List.setIfInBounds_toArray, List.set_cons_zero, List.set_cons_succ]
                refine wpAnyH_take (i := 2) (oi := { dst := some 87, op := Op.move (Operand.tmp 10), type := 3, pos := "law.go:191", after := #[], guard := none }) (v := ?_) rfl (by kernel_rfl) (by kernel_rfl) (by kernel_rfl) (fun _ _ _ h => h) (Or.inl ⟨by rfl, ?_⟩) hHeld ?_
                rotate_left
                · intro w hSw; (try dsimp only at hSw); go_simp; try with_reducible rfl
                try simp only [Act.put, List.setIfInBounds_toArray, List.set_cons_zero, List.set_cons_succ]
                refine wpAnyH_take (i := 3) (oi := { dst := some 88, op := Op.indexAddr 22 (Operand.tmp 86) (Operand.tmp 87), type := 0, pos := "law.go:191", after := #[{ on := 1, ground := Ground.data }, { on := 2, ground := Ground.data }], guard := none }) (v := ?_) rfl (by kernel_rfl) (by kernel_rfl) (by kernel_rfl) (fun _ _ _ h => h) (Or.inl ⟨by rfl, ?_⟩) hHeld ?_
                rotate_left
                · intro w hSw; (try dsimp only at hSw); go_simp; try with_reducible rfl
                try simp only [Act.put, List.setIfInBounds_toArray, List.set_cons_zero, List.set_cons_succ]
                refine wpAnyH_take (i := 4) (oi := { dst := some 89, op := Op.load 3 (Operand.tmp 88), type := 3, pos := "law.go:191", after := #[{ on := 3, ground := Ground.data }], guard := none }) (v := ?_) rfl (by kernel_rfl) (by kernel_rfl) (by kernel_rfl) (fun _ _ _ h => h) (Or.inl ⟨by rfl, ?_⟩) hHeld ?_
                rotate_left
                · intro w hSw; (try dsimp only at hSw); go_simp; try with_reducible rfl
                try simp only [Act.put, List.setIfInBounds_toArray, List.set_cons_zero, List.set_cons_succ]
                refine wpAnyH_ready (rs := [5]) (by kernel_rfl) (by simp) ?_
                refine AllReadyH.cons rfl (fun K hK => ?_) (AllReadyH.nil)
                go_simp
                go_wp2_with (go_at_call 6; refine (HW1.out _ (Below.refl _ _).drew).mono ?_; rintro x w3 ⟨rfl, hb3⟩; have HB3 := hid (((Below.refl _ wr).drew).trans hb3); clear hb3)
                refine hK.out _ _ (HS.out _ HB3.out) (fun hHeld => ?_)
                clear hK K
                try simp only [Act.put, List.setIfInBounds_toArray, List.set_cons_zero, List.set_cons_succ]
                refine wpAnyH_take (i := 6) (oi := { dst := some 84, op := Op.move (Operand.tmp 90), type := 32, pos := "law.go:191", after := #[{ on := 5, ground := Ground.data }], guard := none }) (v := ?_) rfl (by kernel_rfl) (by kernel_rfl) (by kernel_rfl) (fun _ _ _ h => h) (Or.inl ⟨by rfl, ?_⟩) hHeld ?_
                rotate_left
                · intro w hSw; (try dsimp only at hSw); go_simp; try with_reducible rfl
                try simp only [Act.put, List.setIfInBounds_toArray, List.set_cons_zero, List.set_cons_succ]
                refine wpAnyH_take (i := 7) (oi := { dst := some 91, op := Op.extract (Operand.tmp 84) 0, type := 3, pos := "law.go:191", after := #[{ on := 6, ground := Ground.data }], guard := none }) (v := ?_) rfl (by kernel_rfl) (by kernel_rfl) (by kernel_rfl) (fun _ _ _ h => h) (Or.inl ⟨by rfl, ?_⟩) hHeld ?_
                rotate_left
                · intro w hSw; (try dsimp only at hSw); go_simp; try with_reducible rfl
                try simp only [Act.put, List.setIfInBounds_toArray, List.set_cons_zero, List.set_cons_succ]
                refine wpAnyH_take (i := 8) (oi := { dst := some 92, op := Op.extract (Operand.tmp 84) 1, type := 3, pos := "law.go:191", after := #[{ on := 6, ground := Ground.data }, { on := 10, ground := Ground.gcOnly Departure.lateStores }], guard := none }) (v := ?_) rfl (by kernel_rfl) (by kernel_rfl) (by kernel_rfl) (fun _ _ _ h => h) (Or.inl ⟨by rfl, ?_⟩) hHeld ?_
                rotate_left
                · intro w hSw; (try dsimp only at hSw); go_simp; try with_reducible rfl
                try simp only [Act.put, List.setIfInBounds_toArray, List.set_cons_zero, List.set_cons_succ]
                refine wpAnyH_take (i := 9) (oi := { dst := some 93, op := Op.extract (Operand.tmp 84) 2, type := 4, pos := "law.go:191", after := #[{ on := 6, ground := Ground.data }, { on := 11, ground := Ground.gcOnly Departure.lateStores }], guard := none }) (v := ?_) rfl (by kernel_rfl) (by kernel_rfl) (by kernel_rfl) (fun _ _ _ h => h) (Or.inl ⟨by rfl, ?_⟩) hHeld ?_
                rotate_left
                · intro w hSw; (try dsimp only at hSw); go_simp; try with_reducible rfl
                try simp only [Act.put, List.setIfInBounds_toArray, List.set_cons_zero, List.set_cons_succ]
                refine wpAnyH_take (i := 10) (oi := { dst := some 12, op := Op.assign (Operand.tmp 91), type := 3, pos := "law.go:191", after := #[{ on := 7, ground := Ground.data }, { on := 5, ground := Ground.chain }, { on := 0, ground := Ground.phase }, { on := 1, ground := Ground.phase }, { on := 2, ground := Ground.phase }, { on := 3, ground := Ground.phase }, { on := 4, ground := Ground.phase }, { on := 5, ground := Ground.phase }, { on := 6, ground := Ground.phase }, { on := 7, ground := Ground.phase }, { on := 8, ground := Ground.textOnly Departure.lateStores }, { on := 9, ground := Ground.textOnly Departure.lateStores }], guard := none }) (v := ?_) rfl (by kernel_rfl) (by kernel_rfl) (by kernel_rfl) (fun _ _ _ h => h) (Or.inl ⟨by rfl, ?_⟩) hHeld ?_
                rotate_left
                · intro w hSw; (try dsimp only at hSw); go_simp; try with_reducible rfl
                try simp only [Act.put, List.setIfInBounds_toArray, List.set_cons_zero, List.set_cons_succ]
                refine wpAnyH_take (i := 11) (oi := { dst := some 13, op := Op.assign (Operand.tmp 92), type := 3, pos := "law.go:191", after := #[{ on := 8, ground := Ground.data }, { on := 10, ground := Ground.chain }, { on := 0, ground := Ground.phase }, { on := 1, ground := Ground.phase }, { on := 2, ground := Ground.phase }, { on := 3, ground := Ground.phase }, { on := 4, ground := Ground.phase }, { on := 5, ground := Ground.phase }, { on := 6, ground := Ground.phase }, { on := 7, ground := Ground.phase }, { on := 8, ground := Ground.phase }, { on := 9, ground := Ground.textOnly Departure.lateStores }, { on := 10, ground := Ground.phase }], guard := none }) (v := ?_) rfl (by kernel_rfl) (by kernel_rfl) (by kernel_rfl) (fun _ _ _ h => h) (Or.inl ⟨by rfl, ?_⟩) hHeld ?_
                rotate_left
                · intro w hSw; (try dsimp only at hSw); go_simp; try with_reducible rfl
                try simp only [Act.put, List.setIfInBounds_toArray, List.set_cons_zero, List.set_cons_succ]
                refine wpAnyH_take (i := 12) (oi := { dst := some 14, op := Op.assign (Operand.tmp 93), type := 4, pos := "law.go:191", after := #[{ on := 9, ground := Ground.data }, { on := 11, ground := Ground.chain }, { on := 0, ground := Ground.phase }, { on := 1, ground := Ground.phase }, { on := 2, ground := Ground.phase }, { on := 3, ground := Ground.phase }, { on := 4, ground := Ground.phase }, { on := 5, ground := Ground.phase }, { on := 6, ground := Ground.phase }, { on := 7, ground := Ground.phase }, { on := 8, ground := Ground.phase }, { on := 9, ground := Ground.phase }, { on := 10, ground := Ground.phase }, { on := 11, ground := Ground.phase }], guard := none }) (v := ?_) rfl (by kernel_rfl) (by kernel_rfl) (by kernel_rfl) (fun _ _ _ h => h) (Or.inl ⟨by rfl, ?_⟩) hHeld ?_
                rotate_left
                · intro w hSw; (try dsimp only at hSw); go_simp; try with_reducible rfl
                try simp only [Act.put, List.setIfInBounds_toArray, List.set_cons_zero, List.set_cons_succ]
                refine wpAnyH_done (by kernel_rfl) ?_ _
                obtain ⟨⟨k0, k1, k2⟩, r0⟩ := HS.out w3 HB3.out
                go_wp2_with (go_at_call 6; refine (HW2.out w3 HB3.out).mono ?_; rintro x w4 ⟨rfl, hb4⟩; have HB4 := hid (HB3.out.trans (hb4.mono HB3.out.size)); obtain ⟨-, r0⟩ := HS.out w4 HB4.out; have r6 := HS6.out w4 HB4.out; clear hb4)
                go_roundw
                case rel =>
                  repeat apply Exists.intro
                  refine ⟨?_, rfl⟩
                  exact ⟨j + 1, by omega, by go_num, hid (HB.out.trans (HB4.out.mono HB.out.size))⟩
                case measure => simp [intOf]
          · obtain rfl : j = m6 := by omega
            have dj : decide ((j : Int) < (j : Int)) = false := by simp
            have hck := chk_any (HS2.out wr HB.out).2.1 ow 0 3
            rw [if_pos HMY.out] at hck
            clear hi5 hi6
            go_wp2_with first | (go_at_call 5; refine (num10_any _ _).mono ?_; rintro x wn ⟨rfl, hwn⟩; obtain rfl := hwn.symm) | (go_at_call 7; refine hck.mono ?_; rintro x w3 ⟨rfl, hb3⟩; have HB3 := hid hb3; clear hb3) | (go_at_call 8; refine (knows10 _).mono ?_; rintro x w4 ⟨rfl, hb4⟩; have HB4 := hid hb4; clear hb4)
            go_ret
            exact ⟨rfl, HG2.out.trans ((HB.out.trans ((HB3.out.trans (HB4.out.mono HB3.out.size)).mono HB.out.size)).mono HG2.out.size)⟩
      · go_wp2_with fail
        go_loopw [10] (fun x10 wr' => ∃ j : Nat, j ≤ m6 ∧ x10 = .int .i64 j ∧ Hid (Below wr.heap.size wr wr')) (fun x10 _ => m6 - (intOf x10).toNat)
        case atStart => exact ⟨0, by omega, rfl, hid (Below.refl _ _)⟩
        case round =>
          obtain ⟨j, hj, rfl, HB⟩ := hrel
          obtain ⟨⟨k0, k1, k2⟩, -, hi5, hi6⟩ := HS2.out wr HB.out
          by_cases hjl : j < m6
          · have dj : decide ((j : Int) < (m6 : Int)) = true := by simp; omega
            obtain ⟨b5, o5, rfl, h5, hc5⟩ := hi5.row.resolve_left (by omega)
            obtain ⟨b6, o6, rfl, h6, hc6⟩ := hi6.row.resolve_left (by omega)
            have q5 := hc5 j hjl
            rw [firstsN_get xs m6 j hjl] at q5
            have q6 := hc6 j hjl
            rw [idsN_get m6 j hjl] at q6
            have hr1 := endsN_rng xs j
            have hr2 := endsN_rng xs (j + 1)
            have HS : Hid (∀ W, Below wr.heap.size wr W → (W.cell? ⟨w.heap.size, 0, none⟩ = some (.int .i64 ow) ∧ W.cell? ⟨w.heap.size, 1, none⟩ = some (.int .i64 0) ∧ W.cell? ⟨w.heap.size, 2, none⟩ = some (.slice adc mc cc)) ∧ W.cell? ⟨b5, o5 + j, none⟩ = some (.int .i64 (endsN xs j))) := hid (fun W hW => ⟨(HS2.out W (HB.out.trans (hW.mono HB.out.size))).1, (hW.cell (p := ⟨b5, o5 + j, none⟩) h5).trans q5⟩)
            have HS6 : Hid (∀ W, Below wr.heap.size wr W → W.cell? ⟨b6, o6 + j, none⟩ = some (.int .i64 (j : Int))) := hid (fun W hW => (hW.cell (p := ⟨b6, o6 + j, none⟩) h6).trans q6)
            by_cases hn : j + 1 < m6
            · have dn : decide ((j : Int) + 1 < (m6 : Int)) = true := by simp; omega
              have dn2 : (j : Int) + 1 < (m6 : Int) := by omega
              have qn := hc5 (j + 1) hn
              rw [firstsN_get xs m6 (j + 1) hn] at qn
              have hix : ((j : Int) + 1).toNat = j + 1 := by omega
              clear hi5 hi6 hc5 hc6 h5 h6
              by_cases hE : endsN xs j = endsN xs (j + 1)
              · have dE : (endsN xs (j + 1) == endsN xs j) = true := by simp [hE]
                clear hE
                go_wp2_with fail
                exact ⟨⟨j + 1, by omega, by go_num, HB⟩, by simp [intOf]; omega⟩
              · have hlt2 : endsN xs j < endsN xs (j + 1) := by have := (endsN_step xs j).1; omega
                have dE : (endsN xs (j + 1) == endsN xs j) = false := by simp; omega
                obtain ⟨hw1, hw2⟩ := grows_where xs (show j < m6 by omega) hlt2
                have HW1 : Hid (∀ X, Below wr.heap.size wr X → Calls Try.prog 6 #[.agg #[.int .i64 ow, .int .i64 0, .slice adc mc cc], .int .i64 (endsN xs j)] X fun x w' => x = .returned (.tuple #[.int .i64 (j : Int), .int .i64 0, .bool true]) ∧ Below X.heap.size X w') := hid (fun X hX => by
                  have h9 := where_any (HS2.out X (HB.out.trans (hX.mono HB.out.size))).2.1 ow 0 (endsN xs j) (by omega)
                  rw [hw1] at h9
                  exact h9)
                have HW2 : Hid (∀ X, Below wr.heap.size wr X → Calls Try.prog 6 #[.agg #[.int .i64 ow, .int .i64 0, .slice adc mc cc], .int .i64 (endsN xs (j + 1) - 1)] X fun x w' => x = .returned (.tuple #[.int .i64 (j : Int), .int .i64 (endsN xs (j + 1) - 1 - endsN xs j), .bool true]) ∧ Below X.heap.size X w') := hid (fun X hX => by
                  have h9 := where_any (HS2.out X (HB.out.trans (hX.mono HB.out.size))).2.1 ow 0 (endsN xs (j + 1) - 1) (by omega)
                  rw [hw2] at h9
                  exact h9)
                clear hE hw1 hw2
                go_wp2_with fail
                refine wp_region_held_drew (S := fun W => (W.cell? ⟨w.heap.size, 0, none⟩ = some (.int .i64 ow) ∧ W.cell? ⟨w.heap.size, 1, none⟩ = some (.int .i64 0) ∧ W.cell? ⟨w.heap.size, 2, none⟩ = some (.slice adc mc cc)) ∧ W.cell? ⟨b5, o5 + j, none⟩ = some (.int .i64 (endsN xs j))) (by kernel_rfl) (HS.out _ (Below.refl _ _).drew) (fun hHeld => ?_)
                refine wpAnyH_take (i := 0) (oi := { dst := some 85, op := Op.load 25 (Operand.tmp 3), type := 25, pos := "law.go:191", after := #[], guard := none }) (v := ?_) rfl (by kernel_rfl) (by kernel_rfl) (by kernel_rfl) (fun _ _ _ h => h) (Or.inl ⟨by rfl, ?_⟩) hHeld ?_
                rotate_left
                · intro w hSw; (try dsimp only at hSw); go_simp; try with_reducible rfl
                try simp only [Act.put, List.setIfInBounds_toArray, List.set_cons_zero, List.set_cons_succ]
                refine wpAnyH_take (i := 1) (oi := { dst := some 86, op := Op.move (Operand.tmp 5), type := 22, pos := "law.go:191", after := #[], guard := none }) (v := ?_) rfl (by kernel_rfl) (by kernel_rfl) (by kernel_rfl) (fun _ _ _ h => h) (Or.inl ⟨by rfl, ?_⟩) hHeld ?_
                rotate_left
                · intro w hSw; (try dsimp only at hSw); go_simp; try with_reducible rfl
                try simp only [Act.put, List.setIfInBounds_toArray, List.set_cons_zero, List.set_cons_succ]
                refine wpAnyH_take (i := 2) (oi := { dst := some 87, op := Op.move (Operand.tmp 10), type := 3, pos := "law.go:191", after := #[], guard := none }) (v := ?_) rfl (by kernel_rfl) (by kernel_rfl) (by kernel_rfl) (fun _ _ _ h => h) (Or.inl ⟨by rfl, ?_⟩) hHeld ?_
                rotate_left
                · intro w hSw; (try dsimp only at hSw); go_simp; try with_reducible rfl
                try simp only [Act.put, List.setIfInBounds_toArray, List.set_cons_zero, List.set_cons_succ]
                refine wpAnyH_take (i := 3) (oi := { dst := some 88, op := Op.indexAddr 22 (Operand.tmp 86) (Operand.tmp 87), type := 0, pos := "law.go:191", after := #[{ on := 1, ground := Ground.data }, { on := 2, ground := Ground.data }], guard := none }) (v := ?_) rfl (by kernel_rfl) (by kernel_rfl) (by kernel_rfl) (fun _ _ _ h => h) (Or.inl ⟨by rfl, ?_⟩) hHeld ?_
                rotate_left
                · intro w hSw; (try dsimp only at hSw); go_simp; try with_reducible rfl
                try simp only [Act.put, List.setIfInBounds_toArray, List.set_cons_zero, List.set_cons_succ]
                refine wpAnyH_take (i := 4) (oi := { dst := some 89, op := Op.load 3 (Operand.tmp 88), type := 3, pos := "law.go:191", after := #[{ on := 3, ground := Ground.data }], guard := none }) (v := ?_) rfl (by kernel_rfl) (by kernel_rfl) (by kernel_rfl) (fun _ _ _ h => h) (Or.inl ⟨by rfl, ?_⟩) hHeld ?_
                rotate_left
                · intro w hSw; (try dsimp only at hSw); go_simp; try with_reducible rfl
                try simp only [Act.put, List.setIfInBounds_toArray, List.set_cons_zero, List.set_cons_succ]
                refine wpAnyH_ready (rs := [5]) (by kernel_rfl) (by simp) ?_
                refine AllReadyH.cons rfl (fun K hK => ?_) (AllReadyH.nil)
                go_simp
                go_wp2_with (go_at_call 6; refine (HW1.out _ (Below.refl _ _).drew).mono ?_; rintro x w3 ⟨rfl, hb3⟩; have HB3 := hid (((Below.refl _ wr).drew).trans hb3); clear hb3)
                refine hK.out _ _ (HS.out _ HB3.out) (fun hHeld => ?_)
                clear hK K
                try simp only [Act.put, List.setIfInBounds_toArray, List.set_cons_zero, List.set_cons_succ]
                refine wpAnyH_take (i := 6) (oi := { dst := some 84, op := Op.move (Operand.tmp 90), type := 32, pos := "law.go:191", after := #[{ on := 5, ground := Ground.data }], guard := none }) (v := ?_) rfl (by kernel_rfl) (by kernel_rfl) (by kernel_rfl) (fun _ _ _ h => h) (Or.inl ⟨by rfl, ?_⟩) hHeld ?_
                rotate_left
                · intro w hSw; (try dsimp only at hSw); go_simp; try with_reducible rfl
                try simp only [Act.put, List.setIfInBounds_toArray, List.set_cons_zero, List.set_cons_succ]
                refine wpAnyH_take (i := 7) (oi := { dst := some 91, op := Op.extract (Operand.tmp 84) 0, type := 3, pos := "law.go:191", after := #[{ on := 6, ground := Ground.data }], guard := none }) (v := ?_) rfl (by kernel_rfl) (by kernel_rfl) (by kernel_rfl) (fun _ _ _ h => h) (Or.inl ⟨by rfl, ?_⟩) hHeld ?_
                rotate_left
                · intro w hSw; (try dsimp only at hSw); go_simp; try with_reducible rfl
                try simp only [Act.put, List.setIfInBounds_toArray, List.set_cons_zero, List.set_cons_succ]
                refine wpAnyH_take (i := 8) (oi := { dst := some 92, op := Op.extract (Operand.tmp 84) 1, type := 3, pos := "law.go:191", after := #[{ on := 6, ground := Ground.data }, { on := 10, ground := Ground.gcOnly Departure.lateStores }], guard := none }) (v := ?_) rfl (by kernel_rfl) (by kernel_rfl) (by kernel_rfl) (fun _ _ _ h => h) (Or.inl ⟨by rfl, ?_⟩) hHeld ?_
                rotate_left
                · intro w hSw; (try dsimp only at hSw); go_simp; try with_reducible rfl
                try simp only [Act.put, List.setIfInBounds_toArray, List.set_cons_zero, List.set_cons_succ]
                refine wpAnyH_take (i := 9) (oi := { dst := some 93, op := Op.extract (Operand.tmp 84) 2, type := 4, pos := "law.go:191", after := #[{ on := 6, ground := Ground.data }, { on := 11, ground := Ground.gcOnly Departure.lateStores }], guard := none }) (v := ?_) rfl (by kernel_rfl) (by kernel_rfl) (by kernel_rfl) (fun _ _ _ h => h) (Or.inl ⟨by rfl, ?_⟩) hHeld ?_
                rotate_left
                · intro w hSw; (try dsimp only at hSw); go_simp; try with_reducible rfl
                try simp only [Act.put, List.setIfInBounds_toArray, List.set_cons_zero, List.set_cons_succ]
                refine wpAnyH_take (i := 10) (oi := { dst := some 12, op := Op.assign (Operand.tmp 91), type := 3, pos := "law.go:191", after := #[{ on := 7, ground := Ground.data }, { on := 5, ground := Ground.chain }, { on := 0, ground := Ground.phase }, { on := 1, ground := Ground.phase }, { on := 2, ground := Ground.phase }, { on := 3, ground := Ground.phase }, { on := 4, ground := Ground.phase }, { on := 5, ground := Ground.phase }, { on := 6, ground := Ground.phase }, { on := 7, ground := Ground.phase }, { on := 8, ground := Ground.textOnly Departure.lateStores }, { on := 9, ground := Ground.textOnly Departure.lateStores }], guard := none }) (v := ?_) rfl (by kernel_rfl) (by kernel_rfl) (by kernel_rfl) (fun _ _ _ h => h) (Or.inl ⟨by rfl, ?_⟩) hHeld ?_
                rotate_left
                · intro w hSw; (try dsimp only at hSw); go_simp; try with_reducible rfl
                try simp only [Act.put, List.setIfInBounds_toArray, List.set_cons_zero, List.set_cons_succ]
                refine wpAnyH_take (i := 11) (oi := { dst := some 13, op := Op.assign (Operand.tmp 92), type := 3, pos := "law.go:191", after := #[{ on := 8, ground := Ground.data }, { on := 10, ground := Ground.chain }, { on := 0, ground := Ground.phase }, { on := 1, ground := Ground.phase }, { on := 2, ground := Ground.phase }, { on := 3, ground := Ground.phase }, { on := 4, ground := Ground.phase }, { on := 5, ground := Ground.phase }, { on := 6, ground := Ground.phase }, { on := 7, ground := Ground.phase }, { on := 8, ground := Ground.phase }, { on := 9, ground := Ground.textOnly Departure.lateStores }, { on := 10, ground := Ground.phase }], guard := none }) (v := ?_) rfl (by kernel_rfl) (by kernel_rfl) (by kernel_rfl) (fun _ _ _ h => h) (Or.inl ⟨by rfl, ?_⟩) hHeld ?_
                rotate_left
                · intro w hSw; (try dsimp only at hSw); go_simp; try with_reducible rfl
                try simp only [Act.put, List.setIfInBounds_toArray, List.set_cons_zero, List.set_cons_succ]
                refine wpAnyH_take (i := 12) (oi := { dst := some 14, op := Op.assign (Operand.tmp 93), type := 4, pos := "law.go:191", after := #[{ on := 9, ground := Ground.data }, { on := 11, ground := Ground.chain }, { on := 0, ground := Ground.phase }, { on := 1, ground := Ground.phase }, { on := 2, ground := Ground.phase }, { on := 3, ground := Ground.phase }, { on := 4, ground := Ground.phase }, { on := 5, ground := Ground.phase }, { on := 6, ground := Ground.phase }, { on := 7, ground := Ground.phase }, { on := 8, ground := Ground.phase }, { on := 9, ground := Ground.phase }, { on := 10, ground := Ground.phase }, { on := 11, ground := Ground.phase }], guard := none }) (v := ?_) rfl (by kernel_rfl) (by kernel_rfl) (by kernel_rfl) (fun _ _ _ h => h) (Or.inl ⟨by rfl, ?_⟩) hHeld ?_
                rotate_left
                · intro w hSw; (try dsimp only at hSw); go_simp; try with_reducible rfl
                try simp only [Act.put, List.setIfInBounds_toArray, List.set_cons_zero, List.set_cons_succ]
                refine wpAnyH_done (by kernel_rfl) ?_ _
                obtain ⟨⟨k0, k1, k2⟩, r0⟩ := HS.out w3 HB3.out
                go_wp2_with (go_at_call 6; refine (HW2.out w3 HB3.out).mono ?_; rintro x w4 ⟨rfl, hb4⟩; have HB4 := hid (HB3.out.trans (hb4.mono HB3.out.size)); obtain ⟨-, r0⟩ := HS.out w4 HB4.out; have r6 := HS6.out w4 HB4.out; clear hb4)
                exact ⟨⟨j + 1, by omega, by go_num, hid (HB.out.trans (HB4.out.mono HB.out.size))⟩, by simp [intOf]; omega⟩
            · obtain rfl : m6 = j + 1 := by omega
              have dn : decide ((j : Int) + 1 < ((j + 1 : Nat) : Int)) = false := by simp
              clear hi5 hi6 hc5 hc6 h5 h6
              by_cases hE : endsN xs j = endsN xs (j + 1)
              · have dE : (endsN xs (j + 1) == endsN xs j) = true := by simp [hE]
                clear hE
                go_wp2_with fail
                exact ⟨⟨j + 1, by omega, by go_num, HB⟩, by simp [intOf]⟩
              · have hlt2 : endsN xs j < endsN xs (j + 1) := by have := (endsN_step xs j).1; omega
                have dE : (endsN xs (j + 1) == endsN xs j) = false := by simp; omega
                obtain ⟨hw1, hw2⟩ := grows_where xs (show j < (j + 1) by omega) hlt2
                have HW1 : Hid (∀ X, Below wr.heap.size wr X → Calls Try.prog 6 #[.agg #[.int .i64 ow, .int .i64 0, .slice adc mc cc], .int .i64 (endsN xs j)] X fun x w' => x = .returned (.tuple #[.int .i64 (j : Int), .int .i64 0, .bool true]) ∧ Below X.heap.size X w') := hid (fun X hX => by
                  have h9 := where_any (HS2.out X (HB.out.trans (hX.mono HB.out.size))).2.1 ow 0 (endsN xs j) (by omega)
                  rw [hw1] at h9
                  exact h9)
                have HW2 : Hid (∀ X, Below wr.heap.size wr X → Calls Try.prog 6 #[.agg #[.int .i64 ow, .int .i64 0, .slice adc mc cc], .int .i64 (endsN xs (j + 1) - 1)] X fun x w' => x = .returned (.tuple #[.int .i64 (j : Int), .int .i64 (endsN xs (j + 1) - 1 - endsN xs j), .bool true]) ∧ Below X.heap.size X w') := hid (fun X hX => by
                  have h9 := where_any (HS2.out X (HB.out.trans (hX.mono HB.out.size))).2.1 ow 0 (endsN xs (j + 1) - 1) (by omega)
                  rw [hw2] at h9
                  exact h9)
                clear hE hw1 hw2
                go_wp2_with fail
                refine wp_region_held_drew (S := fun W => (W.cell? ⟨w.heap.size, 0, none⟩ = some (.int .i64 ow) ∧ W.cell? ⟨w.heap.size, 1, none⟩ = some (.int .i64 0) ∧ W.cell? ⟨w.heap.size, 2, none⟩ = some (.slice adc mc cc)) ∧ W.cell? ⟨b5, o5 + j, none⟩ = some (.int .i64 (endsN xs j))) (by kernel_rfl) (HS.out _ (Below.refl _ _).drew) (fun hHeld => ?_)
                refine wpAnyH_take (i := 0) (oi := { dst := some 85, op := Op.load 25 (Operand.tmp 3), type := 25, pos := "law.go:191", after := #[], guard := none }) (v := ?_) rfl (by kernel_rfl) (by kernel_rfl) (by kernel_rfl) (fun _ _ _ h => h) (Or.inl ⟨by rfl, ?_⟩) hHeld ?_
                rotate_left
                · intro w hSw; (try dsimp only at hSw); go_simp; try with_reducible rfl
                try simp only [Act.put, List.setIfInBounds_toArray, List.set_cons_zero, List.set_cons_succ]
                refine wpAnyH_take (i := 1) (oi := { dst := some 86, op := Op.move (Operand.tmp 5), type := 22, pos := "law.go:191", after := #[], guard := none }) (v := ?_) rfl (by kernel_rfl) (by kernel_rfl) (by kernel_rfl) (fun _ _ _ h => h) (Or.inl ⟨by rfl, ?_⟩) hHeld ?_
                rotate_left
                · intro w hSw; (try dsimp only at hSw); go_simp; try with_reducible rfl
                try simp only [Act.put, List.setIfInBounds_toArray, List.set_cons_zero, List.set_cons_succ]
                refine wpAnyH_take (i := 2) (oi := { dst := some 87, op := Op.move (Operand.tmp 10), type := 3, pos := "law.go:191", after := #[], guard := none }) (v := ?_) rfl (by kernel_rfl) (by kernel_rfl) (by kernel_rfl) (fun _ _ _ h => h) (Or.inl ⟨by rfl, ?_⟩) hHeld ?_
                rotate_left
                · intro w hSw; (try dsimp only at hSw); go_simp; try with_reducible rfl
                try simp only [Act.put, List.setIfInBounds_toArray, List.set_cons_zero, List.set_cons_succ]
                refine wpAnyH_take (i := 3) (oi := { dst := some 88, op := Op.indexAddr 22 (Operand.tmp 86) (Operand.tmp 87), type := 0, pos := "law.go:191", after := #[{ on := 1, ground := Ground.data }, { on := 2, ground := Ground.data }], guard := none }) (v := ?_) rfl (by kernel_rfl) (by kernel_rfl) (by kernel_rfl) (fun _ _ _ h => h) (Or.inl ⟨by rfl, ?_⟩) hHeld ?_
                rotate_left
                · intro w hSw; (try dsimp only at hSw); go_simp; try with_reducible rfl
                try simp only [Act.put, List.setIfInBounds_toArray, List.set_cons_zero, List.set_cons_succ]
                refine wpAnyH_take (i := 4) (oi := { dst := some 89, op := Op.load 3 (Operand.tmp 88), type := 3, pos := "law.go:191", after := #[{ on := 3, ground := Ground.data }], guard := none }) (v := ?_) rfl (by kernel_rfl) (by kernel_rfl) (by kernel_rfl) (fun _ _ _ h => h) (Or.inl ⟨by rfl, ?_⟩) hHeld ?_
                rotate_left
                · intro w hSw; (try dsimp only at hSw); go_simp; try with_reducible rfl
                try simp only [Act.put, List.setIfInBounds_toArray, List.set_cons_zero, List.set_cons_succ]
                refine wpAnyH_ready (rs := [5]) (by kernel_rfl) (by simp) ?_
                refine AllReadyH.cons rfl (fun K hK => ?_) (AllReadyH.nil)
                go_simp
                go_wp2_with (go_at_call 6; refine (HW1.out _ (Below.refl _ _).drew).mono ?_; rintro x w3 ⟨rfl, hb3⟩; have HB3 := hid (((Below.refl _ wr).drew).trans hb3); clear hb3)
                refine hK.out _ _ (HS.out _ HB3.out) (fun hHeld => ?_)
                clear hK K
                try simp only [Act.put, List.setIfInBounds_toArray, List.set_cons_zero, List.set_cons_succ]
                refine wpAnyH_take (i := 6) (oi := { dst := some 84, op := Op.move (Operand.tmp 90), type := 32, pos := "law.go:191", after := #[{ on := 5, ground := Ground.data }], guard := none }) (v := ?_) rfl (by kernel_rfl) (by kernel_rfl) (by kernel_rfl) (fun _ _ _ h => h) (Or.inl ⟨by rfl, ?_⟩) hHeld ?_
                rotate_left
                · intro w hSw; (try dsimp only at hSw); go_simp; try with_reducible rfl
                try simp only [Act.put, List.setIfInBounds_toArray, List.set_cons_zero, List.set_cons_succ]
                refine wpAnyH_take (i := 7) (oi := { dst := some 91, op := Op.extract (Operand.tmp 84) 0, type := 3, pos := "law.go:191", after := #[{ on := 6, ground := Ground.data }], guard := none }) (v := ?_) rfl (by kernel_rfl) (by kernel_rfl) (by kernel_rfl) (fun _ _ _ h => h) (Or.inl ⟨by rfl, ?_⟩) hHeld ?_
                rotate_left
                · intro w hSw; (try dsimp only at hSw); go_simp; try with_reducible rfl
                try simp only [Act.put, List.setIfInBounds_toArray, List.set_cons_zero, List.set_cons_succ]
                refine wpAnyH_take (i := 8) (oi := { dst := some 92, op := Op.extract (Operand.tmp 84) 1, type := 3, pos := "law.go:191", after := #[{ on := 6, ground := Ground.data }, { on := 10, ground := Ground.gcOnly Departure.lateStores }], guard := none }) (v := ?_) rfl (by kernel_rfl) (by kernel_rfl) (by kernel_rfl) (fun _ _ _ h => h) (Or.inl ⟨by rfl, ?_⟩) hHeld ?_
                rotate_left
                · intro w hSw; (try dsimp only at hSw); go_simp; try with_reducible rfl
                try simp only [Act.put, List.setIfInBounds_toArray, List.set_cons_zero, List.set_cons_succ]
                refine wpAnyH_take (i := 9) (oi := { dst := some 93, op := Op.extract (Operand.tmp 84) 2, type := 4, pos := "law.go:191", after := #[{ on := 6, ground := Ground.data }, { on := 11, ground := Ground.gcOnly Departure.lateStores }], guard := none }) (v := ?_) rfl (by kernel_rfl) (by kernel_rfl) (by kernel_rfl) (fun _ _ _ h => h) (Or.inl ⟨by rfl, ?_⟩) hHeld ?_
                rotate_left
                · intro w hSw; (try dsimp only at hSw); go_simp; try with_reducible rfl
                try simp only [Act.put, List.setIfInBounds_toArray, List.set_cons_zero, List.set_cons_succ]
                refine wpAnyH_take (i := 10) (oi := { dst := some 12, op := Op.assign (Operand.tmp 91), type := 3, pos := "law.go:191", after := #[{ on := 7, ground := Ground.data }, { on := 5, ground := Ground.chain }, { on := 0, ground := Ground.phase }, { on := 1, ground := Ground.phase }, { on := 2, ground := Ground.phase }, { on := 3, ground := Ground.phase }, { on := 4, ground := Ground.phase }, { on := 5, ground := Ground.phase }, { on := 6, ground := Ground.phase }, { on := 7, ground := Ground.phase }, { on := 8, ground := Ground.textOnly Departure.lateStores }, { on := 9, ground := Ground.textOnly Departure.lateStores }], guard := none }) (v := ?_) rfl (by kernel_rfl) (by kernel_rfl) (by kernel_rfl) (fun _ _ _ h => h) (Or.inl ⟨by rfl, ?_⟩) hHeld ?_
                rotate_left
                · intro w hSw; (try dsimp only at hSw); go_simp; try with_reducible rfl
                try simp only [Act.put, List.setIfInBounds_toArray, List.set_cons_zero, List.set_cons_succ]
                refine wpAnyH_take (i := 11) (oi := { dst := some 13, op := Op.assign (Operand.tmp 92), type := 3, pos := "law.go:191", after := #[{ on := 8, ground := Ground.data }, { on := 10, ground := Ground.chain }, { on := 0, ground := Ground.phase }, { on := 1, ground := Ground.phase }, { on := 2, ground := Ground.phase }, { on := 3, ground := Ground.phase }, { on := 4, ground := Ground.phase }, { on := 5, ground := Ground.phase }, { on := 6, ground := Ground.phase }, { on := 7, ground := Ground.phase }, { on := 8, ground := Ground.phase }, { on := 9, ground := Ground.textOnly Departure.lateStores }, { on := 10, ground := Ground.phase }], guard := none }) (v := ?_) rfl (by kernel_rfl) (by kernel_rfl) (by kernel_rfl) (fun _ _ _ h => h) (Or.inl ⟨by rfl, ?_⟩) hHeld ?_
                rotate_left
                · intro w hSw; (try dsimp only at hSw); go_simp; try with_reducible rfl
                try simp only [Act.put, List.setIfInBounds_toArray, List.set_cons_zero, List.set_cons_succ]
                refine wpAnyH_take (i := 12) (oi := { dst := some 14, op := Op.assign (Operand.tmp 93), type := 4, pos := "law.go:191", after := #[{ on := 9, ground := Ground.data }, { on := 11, ground := Ground.chain }, { on := 0, ground := Ground.phase }, { on := 1, ground := Ground.phase }, { on := 2, ground := Ground.phase }, { on := 3, ground := Ground.phase }, { on := 4, ground := Ground.phase }, { on := 5, ground := Ground.phase }, { on := 6, ground := Ground.phase }, { on := 7, ground := Ground.phase }, { on := 8, ground := Ground.phase }, { on := 9, ground := Ground.phase }, { on := 10, ground := Ground.phase }, { on := 11, ground := Ground.phase }], guard := none }) (v := ?_) rfl (by kernel_rfl) (by kernel_rfl) (by kernel_rfl) (fun _ _ _ h => h) (Or.inl ⟨by rfl, ?_⟩) hHeld ?_
                rotate_left
                · intro w hSw; (try dsimp only at hSw); go_simp; try with_reducible rfl
                try simp only [Act.put, List.setIfInBounds_toArray, List.set_cons_zero, List.set_cons_succ]
                refine wpAnyH_done (by kernel_rfl) ?_ _
                obtain ⟨⟨k0, k1, k2⟩, r0⟩ := HS.out w3 HB3.out
                go_wp2_with (go_at_call 6; refine (HW2.out w3 HB3.out).mono ?_; rintro x w4 ⟨rfl, hb4⟩; have HB4 := hid (HB3.out.trans (hb4.mono HB3.out.size)); obtain ⟨-, r0⟩ := HS.out w4 HB4.out; have r6 := HS6.out w4 HB4.out; clear hb4)
                go_roundw
                case rel =>
                  repeat apply Exists.intro
                  refine ⟨?_, rfl⟩
                  exact ⟨j + 1, by omega, by go_num, hid (HB.out.trans (HB4.out.mono HB.out.size))⟩
                case measure => simp [intOf]
          · obtain rfl : j = m6 := by omega
            have dj : decide ((j : Int) < (j : Int)) = false := by simp
            have hck := chk_any (HS2.out wr HB.out).2.1 ow 0 3
            rw [if_pos HMY.out] at hck
            clear hi5 hi6
            go_wp2_with first | (go_at_call 5; refine (num10_any _ _).mono ?_; rintro x wn ⟨rfl, hwn⟩; obtain rfl := hwn.symm) | (go_at_call 7; refine hck.mono ?_; rintro x w3 ⟨rfl, hb3⟩; have HB3 := hid hb3; clear hb3) | (go_at_call 8; refine (knows10 _).mono ?_; rintro x w4 ⟨rfl, hb4⟩; have HB4 := hid hb4; clear hb4)
            go_ret
            exact ⟨rfl, HG2.out.trans ((HB.out.trans ((HB3.out.trans (HB4.out.mono HB3.out.size)).mono HB.out.size)).mono HG2.out.size)⟩
end Go.Proofs.Ytgkabdmeggaphab
