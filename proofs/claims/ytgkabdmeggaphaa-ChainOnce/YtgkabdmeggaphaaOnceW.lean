/- The walk of ChainOnce (by genonce10.py). -/
import Derived.Test.YtgkabdmeggaphaaOnceM
import Derived.Test.YtgkabdmeggaphaaLKnow
import Derived.Deep.DeepCutAuto
namespace Go.Proofs.Ytgkabdmeggaphaa
open Go.RowKit
variable {w : World} {l : List Pt} {A : Nat → Sl} {ad : Option Addr} {m c : Nat} {ns : List Int} {s0 : Sl}

theorem whereV_form (x : Option (Int × Int)) : ∃ p q b, whereV x = .tuple #[.int .i64 p, .int .i64 q, .bool b] := by
  unfold whereV
  split
  · exact ⟨_, _, _, rfl⟩
  · exact ⟨_, _, _, rfl⟩
theorem extC_ok {o t n ow e id : Int} (h : extE o t l n ow e id ns = 0) : extC o t l n ow e id ns = ⟨ow, t, extL t l e ⟨e, id, ns⟩⟩ := by unfold extC; rw [if_pos h]
theorem cutC_ok {o t n a : Int} (h : cutE o t l n a = 0) : cutC o t l n a = ⟨o, a, l.drop (cutK l a)⟩ := by unfold cutC; rw [if_pos h]
theorem cutC_no {o t n a : Int} (h : cutE o t l n a ≠ 0) : cutC o t l n a = ⟨0, 0, []⟩ := by unfold cutC; rw [if_neg h]
set_option maxRecDepth 100000 in
set_option maxHeartbeats 8000000 in
theorem once_walk (h : CArg w l A ad m c) (o t n ow e a id : Int) (hm40 : m * 40 ≤ 140737488351232) (hni : ∀ i, i < m → (A i).m * 8 ≤ 140737488355328) (hx : Ints w ns s0.ad s0.m s0.c) (hx0 : s0.ad = none → s0.m = 0 ∧ s0.c = 0) (hx8 : s0.m * 8 ≤ 140737488351232) (hid' : -9223372036854775808 ≤ id ∧ id ≤ 9223372036854775807) (he' : -9223372036854775808 ≤ e ∧ e ≤ 9223372036854775807) (ha' : -9223372036854775808 ≤ a ∧ a ≤ 9223372036854775807) :
    Calls Try.prog 6 #[.agg #[.int .i64 o, .int .i64 t, .slice ad m c], .int .i64 n, .int .i64 ow, .int .i64 e, .agg #[.int .i64 id, .slice s0.ad s0.m s0.c], .int .i64 a] w fun x w' => x = .returned (.bool true) ∧ Below w.heap.size w w' := by
  have hb2 : Below w.heap.size w ((w.alloc (.cells #[.int .i64 o, .int .i64 t, .slice ad m c] 24)).alloc (.cells #[.int .i64 id, .slice s0.ad s0.m s0.c] 49)) := ((Below.refl _ _).alloc (Nat.le_refl _) _).alloc (by simp) _
  have HB2 := hid hb2
  have HO := own_any (h.later hb2) o t hm40 hni
  have HN2 : Hid (∀ X, Below ((w.alloc (.cells #[.int .i64 o, .int .i64 t, .slice ad m c] 24)).alloc (.cells #[.int .i64 id, .slice s0.ad s0.m s0.c] 49)).heap.size ((w.alloc (.cells #[.int .i64 o, .int .i64 t, .slice ad m c] 24)).alloc (.cells #[.int .i64 id, .slice s0.ad s0.m s0.c] 49)) X → Ints X ns s0.ad s0.m s0.c ∧ Blk X (w.heap.size + 1) #[.int .i64 id, .slice s0.ad s0.m s0.c] 49) := hid (fun X hX => ⟨(hx.later hb2).later hX, (heap_alloc_new' (w.alloc (.cells #[.int .i64 o, .int .i64 t, .slice ad m c] 24)) (w.heap.size + 1) _ (by simp)).later hX⟩)
  obtain ⟨i0, q0, b0, hv0⟩ := whereV_form (whereN t l a)
  have HV0 := hid hv0
  have Hx0 := hid hx0
  obtain ⟨E, hE⟩ : ∃ E, extE o t l n ow e id ns = E := ⟨_, rfl⟩
  obtain ⟨C, hC⟩ : ∃ C, extC o t l n ow e id ns = C := ⟨_, rfl⟩
  have HEC : Hid (extE o t l n ow e id ns = E ∧ extC o t l n ow e id ns = C) := hid ⟨hE, hC⟩
  obtain ⟨ce, hce⟩ : ∃ ce, cutE o t l n e = ce := ⟨_, rfl⟩
  obtain ⟨zo, zt, zl, hZ⟩ : ∃ zo zt zl, cutC o t l n e = ⟨zo, zt, zl⟩ := ⟨_, _, _, rfl⟩
  have HCZ : Hid (cutE o t l n e = ce ∧ cutC o t l n e = ⟨zo, zt, zl⟩) := hid ⟨hce, hZ⟩
  clear h hb2 hx hx0 hv0 hE hC hce hZ
  go_enter Try.func6, Try.ntmps6
  go_upto_region 3 with (first
    | (go_at_call 9; refine HO.mono ?_; rintro x w2 ⟨adx, cx, rfl, a2, b2⟩; obtain ⟨A2, hA2, -⟩ := a2.out.arg; have b2x := (Below.refl _ w2).alloc (Nat.le_refl _) (.cells #[.int .i64 o, .int .i64 t, .slice adx m cx] 28); have HX2 : Hid (∀ X, Below (w2.alloc (.cells #[.int .i64 o, .int .i64 t, .slice adx m cx] 28)).heap.size (w2.alloc (.cells #[.int .i64 o, .int .i64 t, .slice adx m cx] 28)) X → CArg X l A2 adx m cx ∧ Blk X w2.heap.size #[.int .i64 o, .int .i64 t, .slice adx m cx] 28 ∧ Below ((w.alloc (.cells #[.int .i64 o, .int .i64 t, .slice ad m c] 24)).alloc (.cells #[.int .i64 id, .slice s0.ad s0.m s0.c] 49)).heap.size ((w.alloc (.cells #[.int .i64 o, .int .i64 t, .slice ad m c] 24)).alloc (.cells #[.int .i64 id, .slice s0.ad s0.m s0.c] 49)) X) := hid (fun X hX => ⟨(hA2.later b2x).later hX, (show Blk _ w2.heap.size _ _ from heap_alloc_new w2 _).later hX, (b2.trans (b2x.mono b2.size)).trans (hX.mono (Nat.le_trans b2.size b2x.size))⟩); have HW1 := where_any (HX2.out _ (Below.refl _ _)).1 o t a ha'; rw [HV0.out] at HW1; clear b2 b2x hA2 a2)
    | (go_at_call 30; refine HW1.mono ?_; rintro x w4 ⟨rfl, b4⟩; have HB4 := hid b4; clear b4 HW1))
  have HX4 : Hid (∀ X, Below w4.heap.size w4 X → CArg X l A2 adx m cx ∧ Blk X w2.heap.size #[.int .i64 o, .int .i64 t, .slice adx m cx] 28 ∧ Below ((w.alloc (.cells #[.int .i64 o, .int .i64 t, .slice ad m c] 24)).alloc (.cells #[.int .i64 id, .slice s0.ad s0.m s0.c] 49)).heap.size ((w.alloc (.cells #[.int .i64 o, .int .i64 t, .slice ad m c] 24)).alloc (.cells #[.int .i64 id, .slice s0.ad s0.m s0.c] 49)) X) := hid (fun X hX => HX2.out X (HB4.out.trans (hX.mono HB4.out.size)))
  clear HX2 HB4 HO
  generalize w2.heap.size = gx at *
  have HS : Hid (∀ W, Below w4.heap.size w4 W → (W.cell? ⟨gx, 0, none⟩ = some (.int .i64 o) ∧ W.cell? ⟨gx, 1, none⟩ = some (.int .i64 t) ∧ W.cell? ⟨gx, 2, none⟩ = some (.slice adx m cx)) ∧ W.cell? ⟨w.heap.size + 1, 0, none⟩ = some (.int .i64 id) ∧ W.cell? ⟨w.heap.size + 1, 1, none⟩ = some (.slice s0.ad s0.m s0.c)) := hid (fun W hW => ⟨⟨(HX4.out W hW).2.1.cell 0, (HX4.out W hW).2.1.cell 1, (HX4.out W hW).2.1.cell 2⟩, (HN2.out W (HX4.out W hW).2.2).2.cell 0, (HN2.out W (HX4.out W hW).2.2).2.cell 1⟩)
  have HCF := hid (fun W (hW : Below w4.heap.size w4 W) => config_any (HN2.out W (HX4.out W hW).2.2).1 Hx0.out (by omega) id)
  have HEX : Hid (∀ (X : World) (s : Sl), Below w4.heap.size w4 X → NewI X w4.heap.size ns s → Calls Try.prog 23 #[.agg #[.int .i64 o, .int .i64 t, .slice adx m cx], .int .i64 n, .int .i64 ow, .int .i64 e, .agg #[.int .i64 id, .slice s.ad s.m s.c]] X fun x w' => ∃ ad' m' c', x = .returned (.tuple #[.agg #[.int .i64 C.owner, .int .i64 C.trim, .slice ad' m' c'], .int .i64 E]) ∧ Hid (CAns w' X.heap.size C.parts ad' m' c') ∧ Below X.heap.size X w') := hid (fun X s hX hs => by
    have hlen : s.m = s0.m := by have h1 := hs.ints.len; have h2 := (HN2.out w4 (HX4.out w4 (Below.refl _ _)).2.2).1.len; omega
    have := extend_any (o := o) (t := t) (n := n) (e := e) (ow := ow) (id := id) (HX4.out X hX).1 hs.ints hs.nil (by omega) hid' he'
    rw [HEC.out.1, HEC.out.2] at this
    exact this)
  have HBW4 : Hid (∀ X, Below w4.heap.size w4 X → Below w.heap.size w X) := hid (fun X hX => HB2.out.trans ((HX4.out X hX).2.2.mono HB2.out.size))
  clear HN2 HB2
  go_cut [17, 18] (fun x17 x18 wx => ∃ (G : Nat) (ad2 : Option Addr) (m2 c2 : Nat), x17 = .pointer (some ⟨G, 0, none⟩) ∧ x18 = .int .i64 E ∧ Hid (Blk wx G #[.int .i64 C.owner, .int .i64 C.trim, .slice ad2 m2 c2] 28 ∧ CAns wx 0 C.parts ad2 m2 c2 ∧ Below w4.heap.size w4 wx))
  case first =>
    refine wp_region_held_drew (S := fun W => (W.cell? ⟨gx, 0, none⟩ = some (.int .i64 o) ∧ W.cell? ⟨gx, 1, none⟩ = some (.int .i64 t) ∧ W.cell? ⟨gx, 2, none⟩ = some (.slice adx m cx)) ∧ W.cell? ⟨w.heap.size + 1, 0, none⟩ = some (.int .i64 id) ∧ W.cell? ⟨w.heap.size + 1, 1, none⟩ = some (.slice s0.ad s0.m s0.c)) (by kernel_rfl) (HS.out _ (Below.refl _ _).drew) (fun hHeld => ?_)
    refine wpAnyH_take (i := 0) (oi := { dst := some 37, op := Op.load 28 (Operand.tmp 13), type := 28, pos := "law.go:125", after := #[], guard := none }) (v := ?_) rfl (by kernel_rfl) (by kernel_rfl) (by kernel_rfl) (fun _ _ _ h => h) (Or.inl ⟨by rfl, ?_⟩) hHeld ?_
    rotate_left
    · intro w hSw; (try dsimp only at hSw); go_simp; try with_reducible rfl
    try simp only [Act.put, List.setIfInBounds_toArray, List.set_cons_zero, List.set_cons_succ]
    refine wpAnyH_take (i := 1) (oi := { dst := some 38, op := Op.move (Operand.tmp 1), type := 3, pos := "law.go:125", after := #[], guard := none }) (v := ?_) rfl (by kernel_rfl) (by kernel_rfl) (by kernel_rfl) (fun _ _ _ h => h) (Or.inl ⟨by rfl, ?_⟩) hHeld ?_
    rotate_left
    · intro w hSw; (try dsimp only at hSw); go_simp; try with_reducible rfl
    try simp only [Act.put, List.setIfInBounds_toArray, List.set_cons_zero, List.set_cons_succ]
    refine wpAnyH_take (i := 2) (oi := { dst := some 39, op := Op.move (Operand.tmp 2), type := 3, pos := "law.go:125", after := #[], guard := none }) (v := ?_) rfl (by kernel_rfl) (by kernel_rfl) (by kernel_rfl) (fun _ _ _ h => h) (Or.inl ⟨by rfl, ?_⟩) hHeld ?_
    rotate_left
    · intro w hSw; (try dsimp only at hSw); go_simp; try with_reducible rfl
    try simp only [Act.put, List.setIfInBounds_toArray, List.set_cons_zero, List.set_cons_succ]
    refine wpAnyH_take (i := 3) (oi := { dst := some 40, op := Op.move (Operand.tmp 3), type := 3, pos := "law.go:125", after := #[], guard := none }) (v := ?_) rfl (by kernel_rfl) (by kernel_rfl) (by kernel_rfl) (fun _ _ _ h => h) (Or.inl ⟨by rfl, ?_⟩) hHeld ?_
    rotate_left
    · intro w hSw; (try dsimp only at hSw); go_simp; try with_reducible rfl
    try simp only [Act.put, List.setIfInBounds_toArray, List.set_cons_zero, List.set_cons_succ]
    refine wpAnyH_take (i := 4) (oi := { dst := some 41, op := Op.load 49 (Operand.tmp 10), type := 49, pos := "law.go:125", after := #[], guard := none }) (v := ?_) rfl (by kernel_rfl) (by kernel_rfl) (by kernel_rfl) (fun _ _ _ h => h) (Or.inl ⟨by rfl, ?_⟩) hHeld ?_
    rotate_left
    · intro w hSw; (try dsimp only at hSw); go_simp; try with_reducible rfl
    try simp only [Act.put, List.setIfInBounds_toArray, List.set_cons_zero, List.set_cons_succ]
    refine wpAnyH_ready (rs := [5, 10]) (by kernel_rfl) (by simp) ?_
    refine AllReadyH.cons rfl (fun K hK => ?_) (AllReadyH.cons rfl (fun K hK => ?_) (AllReadyH.nil))
    · skip
      go_simp
      go_wp2_with (go_at_call 24; refine (HCF.out _ (Below.refl w4.heap.size w4).drew).mono ?_; rintro x w5 ⟨s, rfl, hnew, hb5⟩; have HB5 := hid (((Below.refl w4.heap.size w4).drew).trans (hb5.mono ((Below.refl w4.heap.size w4).drew).size)); have HN5 := hid hnew.out.1; clear hb5 hnew)
      refine hK.out _ _ (HS.out _ HB5.out) (fun hHeld => ?_)
      clear hK K
      try simp only [Act.put, List.setIfInBounds_toArray, List.set_cons_zero, List.set_cons_succ]
      refine wpAnyH_ready (rs := [6, 10]) (by kernel_rfl) (by simp) ?_
      refine AllReadyH.cons rfl (fun K hK => ?_) (AllReadyH.cons rfl (fun K hK => ?_) (AllReadyH.nil))
      · skip
        go_simp
        go_wp2_with (go_at_call 23; refine (HEX.out _ s HB5.out HN5.out).mono ?_; rintro x w6 ⟨ad2, m2, c2, rfl, hans, hb6⟩; have HB6 := hid ((HB5.out).trans (hb6.mono (HB5.out).size)); have HA6 := hid hans.out; clear hb6 hans)
        refine hK.out _ _ (HS.out _ HB6.out) (fun hHeld => ?_)
        clear hK K
        try simp only [Act.put, List.setIfInBounds_toArray, List.set_cons_zero, List.set_cons_succ]
        refine wpAnyH_take (i := 7) (oi := { dst := some 36, op := Op.move (Operand.tmp 43), type := 36, pos := "law.go:125", after := #[{ on := 6, ground := Ground.data }], guard := none }) (v := ?_) rfl (by kernel_rfl) (by kernel_rfl) (by kernel_rfl) (fun _ _ _ h => h) (Or.inl ⟨by rfl, ?_⟩) hHeld ?_
        rotate_left
        · intro w hSw; (try dsimp only at hSw); go_simp; try with_reducible rfl
        try simp only [Act.put, List.setIfInBounds_toArray, List.set_cons_zero, List.set_cons_succ]
        refine wpAnyH_take (i := 8) (oi := { dst := some 44, op := Op.extract (Operand.tmp 36) 0, type := 28, pos := "law.go:125", after := #[{ on := 7, ground := Ground.data }], guard := none }) (v := ?_) rfl (by kernel_rfl) (by kernel_rfl) (by kernel_rfl) (fun _ _ _ h => h) (Or.inl ⟨by rfl, ?_⟩) hHeld ?_
        rotate_left
        · intro w hSw; (try dsimp only at hSw); go_simp; try with_reducible rfl
        try simp only [Act.put, List.setIfInBounds_toArray, List.set_cons_zero, List.set_cons_succ]
        refine wpAnyH_take (i := 9) (oi := { dst := some 45, op := Op.extract (Operand.tmp 36) 1, type := 31, pos := "law.go:125", after := #[{ on := 7, ground := Ground.data }, { on := 11, ground := Ground.gcOnly Departure.lateStores }], guard := none }) (v := ?_) rfl (by kernel_rfl) (by kernel_rfl) (by kernel_rfl) (fun _ _ _ h => h) (Or.inl ⟨by rfl, ?_⟩) hHeld ?_
        rotate_left
        · intro w hSw; (try dsimp only at hSw); go_simp; try with_reducible rfl
        try simp only [Act.put, List.setIfInBounds_toArray, List.set_cons_zero, List.set_cons_succ]
        refine wpAnyH_ready (rs := [10]) (by kernel_rfl) (by simp) ?_
        refine AllReadyH.cons rfl (fun K hK => ?_) (AllReadyH.nil)
        go_simp
        refine hK.out _ _ (HS.out _ (HB6.out.alloc HB6.out.size _)) (fun hHeld => ?_)
        clear hK K
        try simp only [Act.put, List.setIfInBounds_toArray, List.set_cons_zero, List.set_cons_succ]
        refine wpAnyH_ready (rs := [11]) (by kernel_rfl) (by simp) ?_
        refine AllReadyH.cons rfl (fun K hK => ?_) (AllReadyH.nil)
        go_simp
        refine hK.out _ _ (HS.out _ (HB6.out.alloc HB6.out.size _)) (fun hHeld => ?_)
        clear hK K
        refine wpAnyH_take (i := 12) (oi := { dst := some 18, op := Op.assign (Operand.tmp 45), type := 31, pos := "law.go:125", after := #[{ on := 9, ground := Ground.data }, { on := 11, ground := Ground.chain }, { on := 0, ground := Ground.phase }, { on := 1, ground := Ground.phase }, { on := 2, ground := Ground.phase }, { on := 3, ground := Ground.phase }, { on := 4, ground := Ground.phase }, { on := 5, ground := Ground.phase }, { on := 6, ground := Ground.phase }, { on := 7, ground := Ground.phase }, { on := 8, ground := Ground.phase }, { on := 9, ground := Ground.phase }, { on := 10, ground := Ground.phase }, { on := 11, ground := Ground.phase }], guard := none }) (v := ?_) rfl (by kernel_rfl) (by kernel_rfl) (by kernel_rfl) (fun _ _ _ h => h) (Or.inl ⟨by rfl, ?_⟩) hHeld ?_
        rotate_left
        · intro w hSw; (try dsimp only at hSw); go_simp; try with_reducible rfl
        refine wpAnyH_done (by kernel_rfl) ?_ _
        go_wp2_with fail
        go_meet
        exact ⟨w6.heap.size, ad2, m2, c2, rfl, rfl, hid ⟨heap_alloc_new w6 _, (HA6.out.later ((Below.refl _ _).alloc (Nat.le_refl _) _)).down (Nat.zero_le _), HB6.out.alloc HB6.out.size _⟩⟩
      · skip
        have HB7 : Hid (Below w4.heap.size w4 (w5.alloc (.cells #[.int .i64 0, .int .i64 0, .slice none 0 0] 28))) := hid (HB5.out.alloc HB5.out.size _)
        go_simp
        refine hK.out _ _ (HS.out _ HB7.out) (fun hHeld => ?_)
        clear hK K
        try simp only [Act.put, List.setIfInBounds_toArray, List.set_cons_zero, List.set_cons_succ]
        refine wpAnyH_ready (rs := [6]) (by kernel_rfl) (by simp) ?_
        refine AllReadyH.cons rfl (fun K hK => ?_) (AllReadyH.nil)
        go_simp
        go_wp2_with (go_at_call 23; refine (HEX.out _ s HB7.out (HN5.out.later ((Below.refl _ w5).alloc (Nat.le_refl _) _))).mono ?_; rintro x w6 ⟨ad2, m2, c2, rfl, hans, hb6⟩; have HB6 := hid ((HB7.out).trans (hb6.mono (HB7.out).size)); have HA6 := hid hans.out; have K6 := hid ((show Blk (w5.alloc (.cells #[.int .i64 0, .int .i64 0, .slice none 0 0] 28)) w5.heap.size #[.int .i64 0, .int .i64 0, .slice none 0 0] 28 from heap_alloc_new w5 _).later hb6); have y0 : w6.cell? ⟨w5.heap.size, 0, none⟩ = some (.int .i64 0) := K6.out.cell 0; have y1 : w6.cell? ⟨w5.heap.size, 1, none⟩ = some (.int .i64 0) := K6.out.cell 1; have y2 : w6.cell? ⟨w5.heap.size, 2, none⟩ = some (.slice none 0 0) := K6.out.cell 2; have v0 := K6.out.free 0; have v1 := K6.out.free 1; have v2 := K6.out.free 2; clear hb6 hans)
        refine hK.out _ _ (HS.out _ HB6.out) (fun hHeld => ?_)
        clear hK K
        try simp only [Act.put, List.setIfInBounds_toArray, List.set_cons_zero, List.set_cons_succ]
        refine wpAnyH_take (i := 7) (oi := { dst := some 36, op := Op.move (Operand.tmp 43), type := 36, pos := "law.go:125", after := #[{ on := 6, ground := Ground.data }], guard := none }) (v := ?_) rfl (by kernel_rfl) (by kernel_rfl) (by kernel_rfl) (fun _ _ _ h => h) (Or.inl ⟨by rfl, ?_⟩) hHeld ?_
        rotate_left
        · intro w hSw; (try dsimp only at hSw); go_simp; try with_reducible rfl
        try simp only [Act.put, List.setIfInBounds_toArray, List.set_cons_zero, List.set_cons_succ]
        refine wpAnyH_take (i := 8) (oi := { dst := some 44, op := Op.extract (Operand.tmp 36) 0, type := 28, pos := "law.go:125", after := #[{ on := 7, ground := Ground.data }], guard := none }) (v := ?_) rfl (by kernel_rfl) (by kernel_rfl) (by kernel_rfl) (fun _ _ _ h => h) (Or.inl ⟨by rfl, ?_⟩) hHeld ?_
        rotate_left
        · intro w hSw; (try dsimp only at hSw); go_simp; try with_reducible rfl
        try simp only [Act.put, List.setIfInBounds_toArray, List.set_cons_zero, List.set_cons_succ]
        refine wpAnyH_take (i := 9) (oi := { dst := some 45, op := Op.extract (Operand.tmp 36) 1, type := 31, pos := "law.go:125", after := #[{ on := 7, ground := Ground.data }, { on := 11, ground := Ground.gcOnly Departure.lateStores }], guard := none }) (v := ?_) rfl (by kernel_rfl) (by kernel_rfl) (by kernel_rfl) (fun _ _ _ h => h) (Or.inl ⟨by rfl, ?_⟩) hHeld ?_
        rotate_left
        · intro w hSw; (try dsimp only at hSw); go_simp; try with_reducible rfl
        try simp only [Act.put, List.setIfInBounds_toArray, List.set_cons_zero, List.set_cons_succ]
        refine wpAnyH_ready (rs := [11]) (by kernel_rfl) (by simp) ?_
        refine AllReadyH.cons rfl (fun K hK => ?_) (AllReadyH.nil)
        have Q8 : Hid (Below w4.heap.size w4 (((w6.setCell ⟨w5.heap.size, 0, none⟩ (.int .i64 C.owner)).setCell ⟨w5.heap.size, 1, none⟩ (.int .i64 C.trim)).setCell ⟨w5.heap.size, 2, none⟩ (.slice ad2 m2 c2))) := hid (((HB6.out.setCell (p := ⟨w5.heap.size, 0, none⟩) (HB5.out.size) _).setCell (p := ⟨w5.heap.size, 1, none⟩) (HB5.out.size) _).setCell (p := ⟨w5.heap.size, 2, none⟩) (HB5.out.size) _)
        go_simp
        refine hK.out _ _ (HS.out _ Q8.out) (fun hHeld => ?_)
        clear hK K
        refine wpAnyH_take (i := 12) (oi := { dst := some 18, op := Op.assign (Operand.tmp 45), type := 31, pos := "law.go:125", after := #[{ on := 9, ground := Ground.data }, { on := 11, ground := Ground.chain }, { on := 0, ground := Ground.phase }, { on := 1, ground := Ground.phase }, { on := 2, ground := Ground.phase }, { on := 3, ground := Ground.phase }, { on := 4, ground := Ground.phase }, { on := 5, ground := Ground.phase }, { on := 6, ground := Ground.phase }, { on := 7, ground := Ground.phase }, { on := 8, ground := Ground.phase }, { on := 9, ground := Ground.phase }, { on := 10, ground := Ground.phase }, { on := 11, ground := Ground.phase }], guard := none }) (v := ?_) rfl (by kernel_rfl) (by kernel_rfl) (by kernel_rfl) (fun _ _ _ h => h) (Or.inl ⟨by rfl, ?_⟩) hHeld ?_
        rotate_left
        · intro w hSw; (try dsimp only at hSw); go_simp; try with_reducible rfl
        refine wpAnyH_done (by kernel_rfl) ?_ _
        go_wp2_with fail
        go_meet
        have hcg : Chg [w5.heap.size] w6 (((w6.setCell ⟨w5.heap.size, 0, none⟩ (.int .i64 C.owner)).setCell ⟨w5.heap.size, 1, none⟩ (.int .i64 C.trim)).setCell ⟨w5.heap.size, 2, none⟩ (.slice ad2 m2 c2)) := (((Chg.refl _ w6).set (Or.inl (by simp)) _ _).set (Or.inl (by simp)) _ _).set (Or.inl (by simp)) _ _
        exact ⟨w5.heap.size, ad2, m2, c2, rfl, rfl, hid ⟨((K6.out.set 0 _).set 1 _).set 2 _, (HA6.out.chg hcg (fun g hg => by simp at hg; show g < (w5.alloc (.cells #[.int .i64 0, .int .i64 0, .slice none 0 0] 28)).heap.size; rw [World.size_alloc]; omega)).down (Nat.zero_le _), Q8.out⟩⟩
    · skip
      have HB7 : Hid (Below w4.heap.size w4 (w4.alloc (.cells #[.int .i64 0, .int .i64 0, .slice none 0 0] 28)).drew) := hid ((Below.refl _ w4).alloc (Nat.le_refl _) _).drew
      go_simp
      refine hK.out _ _ (HS.out _ HB7.out) (fun hHeld => ?_)
      clear hK K
      try simp only [Act.put, List.setIfInBounds_toArray, List.set_cons_zero, List.set_cons_succ]
      refine wpAnyH_ready (rs := [5]) (by kernel_rfl) (by simp) ?_
      refine AllReadyH.cons rfl (fun K hK => ?_) (AllReadyH.nil)
      go_simp
      go_wp2_with (go_at_call 24; refine (HCF.out _ HB7.out).mono ?_; rintro x w5 ⟨s, rfl, hnew, hb5⟩; have HB5 := hid ((HB7.out).trans (hb5.mono (HB7.out).size)); have HN5 := hid hnew.out.1; have HK5 : Hid (Blk w5 w4.heap.size #[.int .i64 0, .int .i64 0, .slice none 0 0] 28) := hid ((show Blk (w4.alloc (.cells #[.int .i64 0, .int .i64 0, .slice none 0 0] 28)).drew w4.heap.size #[.int .i64 0, .int .i64 0, .slice none 0 0] 28 from heap_alloc_new w4 (.cells #[.int .i64 0, .int .i64 0, .slice none 0 0] 28)).later hb5); have HS5 : Hid (w4.heap.size + 1 ≤ w5.heap.size) := hid (by have := hb5.size; simpa using this); clear hb5 hnew)
      refine hK.out _ _ (HS.out _ HB5.out) (fun hHeld => ?_)
      clear hK K
      try simp only [Act.put, List.setIfInBounds_toArray, List.set_cons_zero, List.set_cons_succ]
      refine wpAnyH_ready (rs := [6]) (by kernel_rfl) (by simp) ?_
      refine AllReadyH.cons rfl (fun K hK => ?_) (AllReadyH.nil)
      go_simp
      go_wp2_with (go_at_call 23; refine (HEX.out _ s HB5.out (HN5.out.down HB7.out.size)).mono ?_; rintro x w6 ⟨ad2, m2, c2, rfl, hans, hb6⟩; have HB6 := hid ((HB5.out).trans (hb6.mono (HB5.out).size)); have HA6 := hid hans.out; have K6 := hid ((HK5.out).later hb6); have y0 : w6.cell? ⟨w4.heap.size, 0, none⟩ = some (.int .i64 0) := K6.out.cell 0; have y1 : w6.cell? ⟨w4.heap.size, 1, none⟩ = some (.int .i64 0) := K6.out.cell 1; have y2 : w6.cell? ⟨w4.heap.size, 2, none⟩ = some (.slice none 0 0) := K6.out.cell 2; have v0 := K6.out.free 0; have v1 := K6.out.free 1; have v2 := K6.out.free 2; clear hb6 hans)
      refine hK.out _ _ (HS.out _ HB6.out) (fun hHeld => ?_)
      clear hK K
      try simp only [Act.put, List.setIfInBounds_toArray, List.set_cons_zero, List.set_cons_succ]
      refine wpAnyH_take (i := 7) (oi := { dst := some 36, op := Op.move (Operand.tmp 43), type := 36, pos := "law.go:125", after := #[{ on := 6, ground := Ground.data }], guard := none }) (v := ?_) rfl (by kernel_rfl) (by kernel_rfl) (by kernel_rfl) (fun _ _ _ h => h) (Or.inl ⟨by rfl, ?_⟩) hHeld ?_
      rotate_left
      · intro w hSw; (try dsimp only at hSw); go_simp; try with_reducible rfl
      try simp only [Act.put, List.setIfInBounds_toArray, List.set_cons_zero, List.set_cons_succ]
      refine wpAnyH_take (i := 8) (oi := { dst := some 44, op := Op.extract (Operand.tmp 36) 0, type := 28, pos := "law.go:125", after := #[{ on := 7, ground := Ground.data }], guard := none }) (v := ?_) rfl (by kernel_rfl) (by kernel_rfl) (by kernel_rfl) (fun _ _ _ h => h) (Or.inl ⟨by rfl, ?_⟩) hHeld ?_
      rotate_left
      · intro w hSw; (try dsimp only at hSw); go_simp; try with_reducible rfl
      try simp only [Act.put, List.setIfInBounds_toArray, List.set_cons_zero, List.set_cons_succ]
      refine wpAnyH_take (i := 9) (oi := { dst := some 45, op := Op.extract (Operand.tmp 36) 1, type := 31, pos := "law.go:125", after := #[{ on := 7, ground := Ground.data }, { on := 11, ground := Ground.gcOnly Departure.lateStores }], guard := none }) (v := ?_) rfl (by kernel_rfl) (by kernel_rfl) (by kernel_rfl) (fun _ _ _ h => h) (Or.inl ⟨by rfl, ?_⟩) hHeld ?_
      rotate_left
      · intro w hSw; (try dsimp only at hSw); go_simp; try with_reducible rfl
      try simp only [Act.put, List.setIfInBounds_toArray, List.set_cons_zero, List.set_cons_succ]
      refine wpAnyH_ready (rs := [11]) (by kernel_rfl) (by simp) ?_
      refine AllReadyH.cons rfl (fun K hK => ?_) (AllReadyH.nil)
      have Q8 : Hid (Below w4.heap.size w4 (((w6.setCell ⟨w4.heap.size, 0, none⟩ (.int .i64 C.owner)).setCell ⟨w4.heap.size, 1, none⟩ (.int .i64 C.trim)).setCell ⟨w4.heap.size, 2, none⟩ (.slice ad2 m2 c2))) := hid (((HB6.out.setCell (p := ⟨w4.heap.size, 0, none⟩) (Nat.le_refl _) _).setCell (p := ⟨w4.heap.size, 1, none⟩) (Nat.le_refl _) _).setCell (p := ⟨w4.heap.size, 2, none⟩) (Nat.le_refl _) _)
      go_simp
      refine hK.out _ _ (HS.out _ Q8.out) (fun hHeld => ?_)
      clear hK K
      refine wpAnyH_take (i := 12) (oi := { dst := some 18, op := Op.assign (Operand.tmp 45), type := 31, pos := "law.go:125", after := #[{ on := 9, ground := Ground.data }, { on := 11, ground := Ground.chain }, { on := 0, ground := Ground.phase }, { on := 1, ground := Ground.phase }, { on := 2, ground := Ground.phase }, { on := 3, ground := Ground.phase }, { on := 4, ground := Ground.phase }, { on := 5, ground := Ground.phase }, { on := 6, ground := Ground.phase }, { on := 7, ground := Ground.phase }, { on := 8, ground := Ground.phase }, { on := 9, ground := Ground.phase }, { on := 10, ground := Ground.phase }, { on := 11, ground := Ground.phase }], guard := none }) (v := ?_) rfl (by kernel_rfl) (by kernel_rfl) (by kernel_rfl) (fun _ _ _ h => h) (Or.inl ⟨by rfl, ?_⟩) hHeld ?_
      rotate_left
      · intro w hSw; (try dsimp only at hSw); go_simp; try with_reducible rfl
      refine wpAnyH_done (by kernel_rfl) ?_ _
      go_wp2_with fail
      go_meet
      have hcg : Chg [w4.heap.size] w6 (((w6.setCell ⟨w4.heap.size, 0, none⟩ (.int .i64 C.owner)).setCell ⟨w4.heap.size, 1, none⟩ (.int .i64 C.trim)).setCell ⟨w4.heap.size, 2, none⟩ (.slice ad2 m2 c2)) := (((Chg.refl _ w6).set (Or.inl (by simp)) _ _).set (Or.inl (by simp)) _ _).set (Or.inl (by simp)) _ _
      exact ⟨w4.heap.size, ad2, m2, c2, rfl, rfl, hid ⟨((K6.out.set 0 _).set 1 _).set 2 _, (HA6.out.chg hcg (fun g hg => by simp at hg; have := HB5.out.size; have := HS5.out; omega)).down (Nat.zero_le _), Q8.out⟩⟩

  case rest =>
    obtain ⟨G, ad2, m2, c2, rfl, rfl, HW3⟩ := hcut
    clear HCF HEX
    go_upto_if 48 with (go_at_call 15; refine (num10_any _ _).mono ?_; rintro x wn ⟨rfl, hwn⟩; obtain rfl := hwn.symm)
    go_cut [14] (fun x14 wx => x14 = .int .i64 i0 ∧ Hid (Below w4.heap.size w4 wx))
    case first =>
      by_cases hE0 : E = 0
      · have hEd : (E == 0) = true := by simpa using hE0
        subst hE0
        have hok := ext_ok HEC.out.1
        have hCe := HEC.out.2.symm.trans (extC_ok HEC.out.1)
        have HOK := hid hok
        have HY : Hid (∀ X, Below wc.heap.size wc X → (X.cell? ⟨G, 0, none⟩ = some (.int .i64 ow) ∧ X.cell? ⟨G, 1, none⟩ = some (.int .i64 t) ∧ X.cell? ⟨G, 2, none⟩ = some (.slice ad2 m2 c2)) ∧ (Calls Try.prog 30 #[.agg #[.int .i64 ow, .int .i64 t, .slice ad2 m2 c2], .int .i64 a] X fun x w' => x = .returned (whereV (whereN t (extL t l e ⟨e, id, ns⟩) a)) ∧ Below X.heap.size X w') ∧ (Calls Try.prog 16 #[.agg #[.int .i64 ow, .int .i64 t, .slice ad2 m2 c2], .int .i64 n] X fun x w' => x = .returned (.int .i64 0) ∧ Below X.heap.size X w')) := hid (fun X hX => by
          have h3 := HW3.out
          rw [hCe] at h3
          obtain ⟨A3, hA3, -⟩ := h3.2.1.arg
          refine ⟨⟨(h3.1.later hX).cell 0, (h3.1.later hX).cell 1, (h3.1.later hX).cell 2⟩, where_any (hA3.later hX) ow t a ha', ?_⟩
          have h4 := chk_any (hA3.later hX) ow t n
          rw [if_pos hok.next] at h4
          exact h4)
        have hm2 : Hid (((m2 : Int) == 0) = false) := hid (by
          have h3 := HW3.out
          rw [hCe] at h3
          obtain ⟨A3, hA3, -⟩ := h3.2.1.arg
          have := hA3.len
          have := extL_len t l e ⟨e, id, ns⟩
          simp only at *
          simp
          omega)
        have hm2' := hm2.out
        have hpos : 0 ≤ e := by have := hok.tr; have := hok.may.2.1.1.1; omega
        clear hok hCe HEC
        have hd1 : decide ((0 : Int) = 0) = true := by simp
        by_cases hae : a < e
        · have dae : decide (a < e) = true := by simpa using hae
          have dea : decide (e ≤ a) = false := by simp; omega
          have HWV : Hid (whereV (whereN t (extL t l e ⟨e, id, ns⟩) a) = .tuple #[.int .i64 i0, .int .i64 q0, .bool b0]) := hid (by rw [where_ext_lt HOK.out hae]; exact HV0.out)
          clear hae
          obtain ⟨⟨y0, y1, y2⟩, HWy, -⟩ := HY.out wc (Below.refl _ _)
          rw [HWV.out] at HWy
          go_wp2_with first | (go_at_call 15; refine (num10_any _ _).mono ?_; rintro x wn ⟨rfl, hwn⟩; obtain rfl := hwn.symm) | (go_at_call 30; refine HWy.mono ?_; rintro x w7 ⟨rfl, hb7⟩; have HB7 := hid hb7; clear y0 y1 y2; obtain ⟨⟨y0, y1, y2⟩, -, HCy⟩ := HY.out w7 hb7; clear hb7) | (go_at_call 16; refine HCy.mono ?_; rintro x w8 ⟨rfl, hb8⟩; have HB8 := hid (HB7.out.trans (hb8.mono HB7.out.size)); clear y0 y1 y2; obtain ⟨⟨y0, y1, y2⟩, -, -⟩ := HY.out w8 HB8.out; obtain ⟨-, kn, -⟩ := HS.out w8 (HW3.out.2.2.trans (HB8.out.mono HW3.out.2.2.size)); clear hb8)
          go_meet
          exact ⟨rfl, HW3.out.2.2.trans (HB8.out.mono HW3.out.2.2.size)⟩
        · have dae : decide (a < e) = false := by simpa using hae
          have dea : decide (e ≤ a) = true := by simp; omega
          have hwr : IntKind.i64.wrap (a - e) = a - e := by rw [IntKind.wrap_i64]; omega
          by_cases hfar : a - e < 4096
          · have dfar : decide (a - e < 4096) = true := by simpa using hfar
            have HWV : Hid (whereV (whereN t (extL t l e ⟨e, id, ns⟩) a) = .tuple #[.int .i64 id, .int .i64 (a - e), .bool true]) := hid (by rw [where_ext_ge HOK.out (by omega) hfar]; rfl)
            clear hfar
            obtain ⟨⟨y0, y1, y2⟩, HWy, -⟩ := HY.out wc (Below.refl _ _)
            rw [HWV.out] at HWy
            go_wp2_with first | (go_at_call 15; refine (num10_any _ _).mono ?_; rintro x wn ⟨rfl, hwn⟩; obtain rfl := hwn.symm) | (go_at_call 30; refine HWy.mono ?_; rintro x w7 ⟨rfl, hb7⟩; have HB7 := hid hb7; clear y0 y1 y2; obtain ⟨⟨y0, y1, y2⟩, -, HCy⟩ := HY.out w7 hb7; clear hb7) | (go_at_call 16; refine HCy.mono ?_; rintro x w8 ⟨rfl, hb8⟩; have HB8 := hid (HB7.out.trans (hb8.mono HB7.out.size)); clear y0 y1 y2; obtain ⟨⟨y0, y1, y2⟩, -, -⟩ := HY.out w8 HB8.out; obtain ⟨-, kn, -⟩ := HS.out w8 (HW3.out.2.2.trans (HB8.out.mono HW3.out.2.2.size)); clear hb8)
            go_meet
            exact ⟨rfl, HW3.out.2.2.trans (HB8.out.mono HW3.out.2.2.size)⟩
          · have dfar : decide (a - e < 4096) = false := by simpa using hfar
            obtain ⟨i1, q1, b1, hv1⟩ := whereV_form (whereN t (extL t l e ⟨e, id, ns⟩) a)
            have HWV := hid hv1
            clear hfar hv1
            obtain ⟨⟨y0, y1, y2⟩, HWy, -⟩ := HY.out wc (Below.refl _ _)
            rw [HWV.out] at HWy
            go_wp2_with first | (go_at_call 15; refine (num10_any _ _).mono ?_; rintro x wn ⟨rfl, hwn⟩; obtain rfl := hwn.symm) | (go_at_call 30; refine HWy.mono ?_; rintro x w7 ⟨rfl, hb7⟩; have HB7 := hid hb7; clear y0 y1 y2; obtain ⟨⟨y0, y1, y2⟩, -, HCy⟩ := HY.out w7 hb7; clear hb7) | (go_at_call 16; refine HCy.mono ?_; rintro x w8 ⟨rfl, hb8⟩; have HB8 := hid (HB7.out.trans (hb8.mono HB7.out.size)); clear y0 y1 y2; obtain ⟨⟨y0, y1, y2⟩, -, -⟩ := HY.out w8 HB8.out; obtain ⟨-, kn, -⟩ := HS.out w8 (HW3.out.2.2.trans (HB8.out.mono HW3.out.2.2.size)); clear hb8)
            go_meet
            exact ⟨rfl, HW3.out.2.2.trans (HB8.out.mono HW3.out.2.2.size)⟩
      · have hEd : (E == 0) = false := by simpa using hE0
        clear hE0
        go_wp2_with (go_at_call 15; refine (num10_any _ _).mono ?_; rintro x wn ⟨rfl, hwn⟩; obtain rfl := hwn.symm)
        go_meet
        exact ⟨rfl, HW3.out.2.2⟩
    case rest =>
      obtain ⟨rfl, HWC⟩ := hcut
      obtain ⟨⟨k0, k1, k2⟩, kn, -⟩ := HS.out wc HWC.out
      have HCU := cut_any (HX4.out wc HWC.out).1 o t n e
      rw [HCZ.out.1, HCZ.out.2] at HCU
      simp only at HCU
      have HBW := hid (HBW4.out wc HWC.out)
      have HZF : Hid (∀ (w9 : World) (ad3 : Option Addr) (m3 c3 : Nat), CAns w9 wc.heap.size zl ad3 m3 c3 → (∀ X, Below (w9.alloc (.cells #[.int .i64 zo, .int .i64 zt, .slice ad3 m3 c3] 28)).heap.size (w9.alloc (.cells #[.int .i64 zo, .int .i64 zt, .slice ad3 m3 c3] 28)) X → (X.cell? ⟨w9.heap.size, 0, none⟩ = some (.int .i64 zo) ∧ X.cell? ⟨w9.heap.size, 1, none⟩ = some (.int .i64 zt) ∧ X.cell? ⟨w9.heap.size, 2, none⟩ = some (.slice ad3 m3 c3)) ∧ (Calls Try.prog 30 #[.agg #[.int .i64 zo, .int .i64 zt, .slice ad3 m3 c3], .int .i64 a] X fun x w' => x = .returned (whereV (whereN zt zl a)) ∧ Below X.heap.size X w') ∧ (Calls Try.prog 16 #[.agg #[.int .i64 zo, .int .i64 zt, .slice ad3 m3 c3], .int .i64 n] X fun x w' => x = .returned (.int .i64 (if mayC zo zt zl n then 0 else 1)) ∧ Below X.heap.size X w'))) := hid (fun w9 ad3 m3 c3 hz X hX => by
        obtain ⟨A3, hA3, -⟩ := hz.arg
        have hb : Blk (w9.alloc (.cells #[.int .i64 zo, .int .i64 zt, .slice ad3 m3 c3] 28)) w9.heap.size _ _ := heap_alloc_new w9 _
        have hA4 := (hA3.later ((Below.refl _ _).alloc (Nat.le_refl _) (.cells #[.int .i64 zo, .int .i64 zt, .slice ad3 m3 c3] 28))).later hX
        exact ⟨⟨(hb.later hX).cell 0, (hb.later hX).cell 1, (hb.later hX).cell 2⟩, where_any hA4 zo zt a ha', chk_any hA4 zo zt n⟩)
      clear HX4 HS HBW4 HW3 HEC
      by_cases hz0 : ce = 0
      · subst hz0
        have hck := cut_ok HCZ.out.1
        have hcz := HCZ.out.2.symm.trans (cutC_ok HCZ.out.1)
        simp only [Ch.mk.injEq] at hcz
        obtain ⟨rfl, rfl, hzl⟩ := hcz
        have HMY : Hid (mayC zo zt zl n) := hid (by rw [hzl]; exact may_cut hck)
        by_cases hae : a < zt
        · have dae : decide (a < zt) = true := by simpa using hae
          have HWV : Hid (whereV (whereN zt zl a) = .tuple #[.int .i64 0, .int .i64 0, .bool false]) := hid (by rw [where_cut_lt hae]; rfl)
          clear hae hck hzl HCZ
          go_wp2_with first | (go_at_call 15; refine (num10_any _ _).mono ?_; rintro x wn ⟨rfl, hwn⟩; obtain rfl := hwn.symm) | (go_at_call 26; (with_reducible_and_instances (refine HCU.mono ?_)); rintro x w9 ⟨ad3, m3, c3, rfl, hz, hb9⟩; have HZ := hid (HZF.out w9 ad3 m3 c3 hz.out); have HB9 : Hid (Below w.heap.size w (w9.alloc (.cells #[.int .i64 zo, .int .i64 zt, .slice ad3 m3 c3] 28))) := hid ((HBW.out.trans (hb9.mono HBW.out.size)).alloc (Nat.le_trans HBW.out.size hb9.size) _); obtain ⟨-, HWz, -⟩ := HZ.out _ (Below.refl _ _); rw [HWV.out] at HWz; clear hb9 hz HCU) | (go_at_call 30; refine HWz.mono ?_; rintro x w10 ⟨rfl, hb10⟩; have HB10 := hid hb10; obtain ⟨⟨g0, g1, g2⟩, -, HCz⟩ := HZ.out w10 hb10; rw [if_pos HMY.out] at HCz; clear hb10 HWz) | (go_at_call 16; refine HCz.mono ?_; rintro x w11 ⟨rfl, hb11⟩; have HB11 := hid (HB10.out.trans (hb11.mono HB10.out.size)); clear g0 g1 g2; obtain ⟨⟨g0, g1, g2⟩, -, -⟩ := HZ.out w11 HB11.out; clear hb11 HCz) | (go_at_call 20; refine (knows10 _).mono ?_; rintro x wk ⟨rfl, hbk⟩; have HBk := hid hbk; clear hbk)
          go_ret
          exact ⟨rfl, (HB9.out.trans (HB11.out.mono HB9.out.size)).trans (HBk.out.mono (Nat.le_trans HB9.out.size HB11.out.size))⟩
        · have dae : decide (a < zt) = false := by simpa using hae
          have HWV : Hid (whereV (whereN zt zl a) = .tuple #[.int .i64 i0, .int .i64 q0, .bool b0]) := hid (by rw [hzl, where_cut hck (by omega)]; exact HV0.out)
          have hbb : (b0 == b0) = true := by simp
          clear hae hck hzl HCZ
          go_wp2_with first | (go_at_call 15; refine (num10_any _ _).mono ?_; rintro x wn ⟨rfl, hwn⟩; obtain rfl := hwn.symm) | (go_at_call 26; (with_reducible_and_instances (refine HCU.mono ?_)); rintro x w9 ⟨ad3, m3, c3, rfl, hz, hb9⟩; have HZ := hid (HZF.out w9 ad3 m3 c3 hz.out); have HB9 : Hid (Below w.heap.size w (w9.alloc (.cells #[.int .i64 zo, .int .i64 zt, .slice ad3 m3 c3] 28))) := hid ((HBW.out.trans (hb9.mono HBW.out.size)).alloc (Nat.le_trans HBW.out.size hb9.size) _); obtain ⟨-, HWz, -⟩ := HZ.out _ (Below.refl _ _); rw [HWV.out] at HWz; clear hb9 hz HCU) | (go_at_call 30; refine HWz.mono ?_; rintro x w10 ⟨rfl, hb10⟩; have HB10 := hid hb10; obtain ⟨⟨g0, g1, g2⟩, -, HCz⟩ := HZ.out w10 hb10; rw [if_pos HMY.out] at HCz; clear hb10 HWz) | (go_at_call 16; refine HCz.mono ?_; rintro x w11 ⟨rfl, hb11⟩; have HB11 := hid (HB10.out.trans (hb11.mono HB10.out.size)); clear g0 g1 g2; obtain ⟨⟨g0, g1, g2⟩, -, -⟩ := HZ.out w11 HB11.out; clear hb11 HCz) | (go_at_call 20; refine (knows10 _).mono ?_; rintro x wk ⟨rfl, hbk⟩; have HBk := hid hbk; clear hbk)
          go_ret
          exact ⟨rfl, (HB9.out.trans (HB11.out.mono HB9.out.size)).trans (HBk.out.mono (Nat.le_trans HB9.out.size HB11.out.size))⟩
      · have hcd : (ce == 0) = false := by simpa using hz0
        have hcz := HCZ.out.2.symm.trans (cutC_no (by rw [HCZ.out.1]; exact hz0))
        simp only [Ch.mk.injEq] at hcz
        obtain ⟨rfl, rfl, rfl⟩ := hcz
        clear hz0 HCZ
        go_wp2_with first | (go_at_call 15; refine (num10_any _ _).mono ?_; rintro x wn ⟨rfl, hwn⟩; obtain rfl := hwn.symm) | (go_at_call 26; (with_reducible_and_instances (refine HCU.mono ?_)); rintro x w9 ⟨ad3, m3, c3, rfl, hz, hb9⟩; obtain ⟨A3, hA3, -⟩ := hz.out.arg; obtain rfl : m3 = 0 := hA3.len.symm; clear hA3; have HZ := hid (HZF.out w9 ad3 0 c3 hz.out); have HB9 : Hid (Below w.heap.size w (w9.alloc (.cells #[.int .i64 0, .int .i64 0, .slice ad3 0 c3] 28))) := hid ((HBW.out.trans (hb9.mono HBW.out.size)).alloc (Nat.le_trans HBW.out.size hb9.size) _); obtain ⟨-, HWz, -⟩ := HZ.out _ (Below.refl _ _); clear hb9 hz HCU) | (go_at_call 18; refine (same_none _ _ _ _ _).mono ?_; rintro x w10 ⟨rfl, hb10⟩; have HB10 := hid hb10; clear hb10) | (go_at_call 20; refine (knows10 _).mono ?_; rintro x wk ⟨rfl, hbk⟩; have HBk := hid hbk; clear hbk)
        go_ret
        exact ⟨rfl, (HB9.out.trans (HB10.out.mono HB9.out.size)).trans (HBk.out.mono (Nat.le_trans HB9.out.size HB10.out.size))⟩
end Go.Proofs.Ytgkabdmeggaphaa
