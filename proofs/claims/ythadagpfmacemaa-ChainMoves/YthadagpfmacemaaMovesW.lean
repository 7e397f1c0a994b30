/- The walk of ChainMoves (by genmoves.py). -/
import Derived.Test.YthadagpfmacemaaMovesM
import Derived.Test.YthadagpfmacemaaRExt
import Derived.Test.YthadagpfmacemaaLKnow
import Derived.Test.YthadagpfmacemaaRFind
import Derived.Test.YthadagpfmacemaaCEnd
import Derived.Deep.DeepCutAuto
namespace Go.Proofs.Ythadagpfmacemaa
open Go.RowKit
variable {w : World} {l : List Pt} {A : Nat → Sl} {ad : Option Addr} {m c : Nat} {ns : List Int} {s0 : Sl}

set_option maxRecDepth 100000 in
set_option maxHeartbeats 8000000 in
theorem moves_walk (h : CArg w l A ad m c) (o t n ow e id : Int) (hm40 : m * 40 ≤ 140737488351232) (hni : ∀ i, i < m → (A i).m * 8 ≤ 140737488355328) (hx : Ints w ns s0.ad s0.m s0.c) (hx0 : s0.ad = none → s0.m = 0 ∧ s0.c = 0) (hx8 : s0.m * 8 ≤ 140737488351232) (hid' : -9223372036854775808 ≤ id ∧ id ≤ 9223372036854775807) (he' : -9223372036854775808 ≤ e ∧ e ≤ 9223372036854775807) :
    Calls Try.prog 4 #[.agg #[.int .i64 o, .int .i64 t, .slice ad m c], .int .i64 n, .int .i64 ow, .int .i64 e, .agg #[.int .i64 id, .slice s0.ad s0.m s0.c]] w fun x w' => x = .returned (.bool true) ∧ Below w.heap.size w w' := by
  have hb2 : Below w.heap.size w ((w.alloc (.cells #[.int .i64 o, .int .i64 t, .slice ad m c] 24)).alloc (.cells #[.int .i64 id, .slice s0.ad s0.m s0.c] 49)) := ((Below.refl _ _).alloc (Nat.le_refl _) _).alloc (by simp) _
  have HB2 := hid hb2
  have HO := own_any (h.later hb2) o t hm40 hni
  have HN2 : Hid (∀ X, Below ((w.alloc (.cells #[.int .i64 o, .int .i64 t, .slice ad m c] 24)).alloc (.cells #[.int .i64 id, .slice s0.ad s0.m s0.c] 49)).heap.size ((w.alloc (.cells #[.int .i64 o, .int .i64 t, .slice ad m c] 24)).alloc (.cells #[.int .i64 id, .slice s0.ad s0.m s0.c] 49)) X → Ints X ns s0.ad s0.m s0.c ∧ Blk X (w.heap.size + 1) #[.int .i64 id, .slice s0.ad s0.m s0.c] 49 ∧ CArg X l A ad m c ∧ Blk X w.heap.size #[.int .i64 o, .int .i64 t, .slice ad m c] 24) := hid (fun X hX => ⟨(hx.later hb2).later hX, (heap_alloc_new' (w.alloc (.cells #[.int .i64 o, .int .i64 t, .slice ad m c] 24)) (w.heap.size + 1) _ (by simp)).later hX, (h.later hb2).later hX, ((show Blk (w.alloc (.cells #[.int .i64 o, .int .i64 t, .slice ad m c] 24)) w.heap.size #[.int .i64 o, .int .i64 t, .slice ad m c] 24 from heap_alloc_new w _).later ((Below.refl _ _).alloc (Nat.le_refl _) _)).later hX⟩)
  obtain ⟨i0, q0, b0, hv0⟩ := findV_form' (findN t l e)
  have HV0 := hid hv0
  have hbb : (b0 == b0) = true := by simp
  have Hx0 := hid hx0
  have HM := hid (⟨hm40, hni⟩ : m * 40 ≤ 140737488351232 ∧ ∀ i, i < m → (A i).m * 8 ≤ 140737488355328)
  obtain ⟨E, hE⟩ : ∃ E, extE o t l n ow e id ns = E := ⟨_, rfl⟩
  obtain ⟨C, hC⟩ : ∃ C, extC o t l n ow e id ns = C := ⟨_, rfl⟩
  have HEC : Hid (extE o t l n ow e id ns = E ∧ extC o t l n ow e id ns = C) := hid ⟨hE, hC⟩
  obtain ⟨ce, hce⟩ : ∃ ce, cutE o t l n e = ce := ⟨_, rfl⟩
  obtain ⟨Z, hZ⟩ : ∃ Z, cutC o t l n e = Z := ⟨_, rfl⟩
  have HCZ : Hid (cutE o t l n e = ce ∧ cutC o t l n e = Z) := hid ⟨hce, hZ⟩
  have HSC : Hid (SmallC C.parts ∧ SmallC Z.parts) := hid ⟨by rw [← hC]; exact ext_small _ _ _ _ _ _ _ _, by rw [← hZ]; exact cut_small _ _ _ _ _⟩
  clear h hb2 hx hx0 hv0 hE hC hce hZ hni
  go_enter Try.func4, Try.ntmps4
  go_upto_region 4 with (first
    | (go_at_call 7; refine HO.mono ?_; rintro x w2 ⟨adx, cx, rfl, a2, b2⟩; obtain ⟨A2, hA2, -⟩ := a2.out.arg; have b2x := (Below.refl _ w2).alloc (Nat.le_refl _) (.cells #[.int .i64 o, .int .i64 t, .slice adx m cx] 28); have HX2 : Hid (∀ X, Below (w2.alloc (.cells #[.int .i64 o, .int .i64 t, .slice adx m cx] 28)).heap.size (w2.alloc (.cells #[.int .i64 o, .int .i64 t, .slice adx m cx] 28)) X → CArg X l A2 adx m cx ∧ Blk X w2.heap.size #[.int .i64 o, .int .i64 t, .slice adx m cx] 28 ∧ Below ((w.alloc (.cells #[.int .i64 o, .int .i64 t, .slice ad m c] 24)).alloc (.cells #[.int .i64 id, .slice s0.ad s0.m s0.c] 49)).heap.size ((w.alloc (.cells #[.int .i64 o, .int .i64 t, .slice ad m c] 24)).alloc (.cells #[.int .i64 id, .slice s0.ad s0.m s0.c] 49)) X) := hid (fun X hX => ⟨(hA2.later b2x).later hX, (show Blk _ w2.heap.size _ _ from heap_alloc_new w2 _).later hX, (b2.trans (b2x.mono b2.size)).trans (hX.mono (Nat.le_trans b2.size b2x.size))⟩); have HW1 := find_any (HX2.out _ (Below.refl _ _)).1 o t e he'; rw [HV0.out] at HW1; clear b2 b2x hA2 a2)
    | (go_at_call 19; refine HW1.mono ?_; rintro x w3 ⟨rfl, b3⟩; have HB3 := hid b3; have hq3 := HN2.out w3 (HX2.out w3 b3).2.2; have j0 : w3.cell? ⟨w.heap.size, 0, none⟩ = some (.int .i64 o) := hq3.2.2.2.cell 0; have j1 : w3.cell? ⟨w.heap.size, 1, none⟩ = some (.int .i64 t) := hq3.2.2.2.cell 1; have j2 : w3.cell? ⟨w.heap.size, 2, none⟩ = some (.slice ad m c) := hq3.2.2.2.cell 2; have HW4 := refFind_any hq3.2.2.1 o t e he'; rw [HV0.out] at HW4; clear b3 HW1 hq3)
    | (go_at_call 20; refine HW4.mono ?_; rintro x w4 ⟨rfl, b4⟩; have HB4 := hid (HB3.out.trans (b4.mono HB3.out.size)); clear b4 HW4 j0 j1 j2))
  have HX4 : Hid (∀ X, Below w4.heap.size w4 X → CArg X l A2 adx m cx ∧ Blk X w2.heap.size #[.int .i64 o, .int .i64 t, .slice adx m cx] 28 ∧ Below ((w.alloc (.cells #[.int .i64 o, .int .i64 t, .slice ad m c] 24)).alloc (.cells #[.int .i64 id, .slice s0.ad s0.m s0.c] 49)).heap.size ((w.alloc (.cells #[.int .i64 o, .int .i64 t, .slice ad m c] 24)).alloc (.cells #[.int .i64 id, .slice s0.ad s0.m s0.c] 49)) X) := hid (fun X hX => HX2.out X (HB4.out.trans (hX.mono HB4.out.size)))
  clear HX2 HB4 HB3 HO
  generalize w2.heap.size = gx at *
  have HS : Hid (∀ W, Below w4.heap.size w4 W → (W.cell? ⟨gx, 0, none⟩ = some (.int .i64 o) ∧ W.cell? ⟨gx, 1, none⟩ = some (.int .i64 t) ∧ W.cell? ⟨gx, 2, none⟩ = some (.slice adx m cx)) ∧ W.cell? ⟨w.heap.size + 1, 0, none⟩ = some (.int .i64 id) ∧ W.cell? ⟨w.heap.size + 1, 1, none⟩ = some (.slice s0.ad s0.m s0.c)) := hid (fun W hW => ⟨⟨(HX4.out W hW).2.1.cell 0, (HX4.out W hW).2.1.cell 1, (HX4.out W hW).2.1.cell 2⟩, (HN2.out W (HX4.out W hW).2.2).2.1.cell 0, (HN2.out W (HX4.out W hW).2.2).2.1.cell 1⟩)
  have HSc : Hid (∀ W, Below w4.heap.size w4 W → (W.cell? ⟨w.heap.size, 0, none⟩ = some (.int .i64 o) ∧ W.cell? ⟨w.heap.size, 1, none⟩ = some (.int .i64 t) ∧ W.cell? ⟨w.heap.size, 2, none⟩ = some (.slice ad m c))) := hid (fun W hW => by have q := (HN2.out W (HX4.out W hW).2.2).2.2.2; exact ⟨q.cell 0, q.cell 1, q.cell 2⟩)
  have HCF := hid (fun W (hW : Below w4.heap.size w4 W) => config_any (HN2.out W (HX4.out W hW).2.2).1 Hx0.out (by omega) id)
  have HEX : Hid (∀ (X : World) (s : Sl), Below w4.heap.size w4 X → NewI X w4.heap.size ns s → Calls Try.prog 21 #[.agg #[.int .i64 o, .int .i64 t, .slice adx m cx], .int .i64 n, .int .i64 ow, .int .i64 e, .agg #[.int .i64 id, .slice s.ad s.m s.c]] X fun x w' => ∃ ad' m' c', x = .returned (.tuple #[.agg #[.int .i64 C.owner, .int .i64 C.trim, .slice ad' m' c'], .int .i64 E]) ∧ Hid (CAns w' X.heap.size C.parts ad' m' c') ∧ Below X.heap.size X w') := hid (fun X s hX hs => by
    have hlen : s.m = s0.m := by have h1 := hs.ints.len; have h2 := (HN2.out w4 (HX4.out w4 (Below.refl _ _)).2.2).1.len; omega
    have := extend_any (o := o) (t := t) (n := n) (e := e) (ow := ow) (id := id) (HX4.out X hX).1 hs.ints hs.nil (by omega) hid' he'
    rw [HEC.out.1, HEC.out.2] at this
    exact this)
  have HRX : Hid (∀ (X : World), Below w4.heap.size w4 X → Calls Try.prog 23 #[.agg #[.int .i64 o, .int .i64 t, .slice ad m c], .int .i64 n, .int .i64 ow, .int .i64 e, .agg #[.int .i64 id, .slice s0.ad s0.m s0.c]] X fun x w' => ∃ ad' m' c', x = .returned (.tuple #[.agg #[.int .i64 C.owner, .int .i64 C.trim, .slice ad' m' c'], .int .i64 E]) ∧ Hid (CAns w' X.heap.size C.parts ad' m' c') ∧ Below X.heap.size X w') := hid (fun X hX => by
    have q := HN2.out X (HX4.out X hX).2.2
    have := Rf.extend_any (o := o) (t := t) (n := n) (e := e) (ow := ow) (id := id) q.2.2.1 q.1 Hx0.out (by omega) hid' he'
    rw [HEC.out.1, HEC.out.2] at this
    exact this)
  have HCU : Hid (∀ (X : World), Below w4.heap.size w4 X → Calls Try.prog 24 #[.agg #[.int .i64 o, .int .i64 t, .slice adx m cx], .int .i64 n, .int .i64 e] X fun x w' => ∃ ad' m' c', x = .returned (.tuple #[.agg #[.int .i64 Z.owner, .int .i64 Z.trim, .slice ad' m' c'], .int .i64 ce]) ∧ Hid (CAns w' X.heap.size Z.parts ad' m' c') ∧ Below X.heap.size X w') := hid (fun X hX => by
    have := cut_any (HX4.out X hX).1 o t n e
    rw [HCZ.out.1, HCZ.out.2] at this
    exact this)
  have HRC : Hid (∀ (X : World), Below w4.heap.size w4 X → Calls Try.prog 25 #[.agg #[.int .i64 o, .int .i64 t, .slice ad m c], .int .i64 n, .int .i64 e] X fun x w' => ∃ ad' m' c', x = .returned (.tuple #[.agg #[.int .i64 Z.owner, .int .i64 Z.trim, .slice ad' m' c'], .int .i64 ce]) ∧ Hid (CAns w' X.heap.size Z.parts ad' m' c') ∧ Below X.heap.size X w') := hid (fun X hX => by
    have := Rf.cut_any (HN2.out X (HX4.out X hX).2.2).2.2.1 o t n e
    rw [HCZ.out.1, HCZ.out.2] at this
    exact this)
  have HBW4 : Hid (∀ X, Below w4.heap.size w4 X → Below w.heap.size w X) := hid (fun X hX => HB2.out.trans ((HX4.out X hX).2.2.mono HB2.out.size))
  have HE1 := hid (fun W (hW : Below w4.heap.size w4 W) => end_any (HX4.out W hW).1 o t e he')
  have HE2 := hid (fun W (hW : Below w4.heap.size w4 W) => refEnd_any (HN2.out W (HX4.out W hW).2.2).2.2.1 o t e he')
  have HOc : Hid (∀ X, Below w4.heap.size w4 X → Calls Try.prog 7 #[.agg #[.int .i64 o, .int .i64 t, .slice ad m c]] X fun x w' => ∃ ad' c', x = .returned (.agg #[.int .i64 o, .int .i64 t, .slice ad' m c']) ∧ Hid (CAns w' X.heap.size l ad' m c') ∧ Below X.heap.size X w') := hid (fun X hX => own_any (HN2.out X (HX4.out X hX).2.2).2.2.1 o t HM.out.1 HM.out.2)
  have HSMc : Hid (∀ (X : World) (adp : Option Addr) (cp : Nat) {N : Nat}, Below w4.heap.size w4 X → CAns X N l adp m cp → Calls Try.prog 16 #[.agg #[.int .i64 o, .int .i64 t, .slice adx m cx], .agg #[.int .i64 o, .int .i64 t, .slice adp m cp]] X fun x w' => x = .returned (.bool true) ∧ Below X.heap.size X w') := hid (fun X adp cp N hX hp => by obtain ⟨A9, hA9, -⟩ := hp.arg; exact same_any (HX4.out X hX).1 hA9 o t)
  clear HN2 HB2 HEC HCZ HM
  go_cut [18, 19] (fun x17 x18 wx => ∃ (G : Nat) (ad2 : Option Addr) (m2 c2 : Nat), x17 = .pointer (some ⟨G, 0, none⟩) ∧ x18 = .int .i64 E ∧ Hid (Blk wx G #[.int .i64 C.owner, .int .i64 C.trim, .slice ad2 m2 c2] 28 ∧ CAns wx w4.heap.size C.parts ad2 m2 c2 ∧ Below w4.heap.size w4 wx))
  case first =>
    refine wp_region_held_drew (S := fun W => (W.cell? ⟨gx, 0, none⟩ = some (.int .i64 o) ∧ W.cell? ⟨gx, 1, none⟩ = some (.int .i64 t) ∧ W.cell? ⟨gx, 2, none⟩ = some (.slice adx m cx)) ∧ W.cell? ⟨w.heap.size + 1, 0, none⟩ = some (.int .i64 id) ∧ W.cell? ⟨w.heap.size + 1, 1, none⟩ = some (.slice s0.ad s0.m s0.c)) (by kernel_rfl) (HS.out _ (Below.refl _ _).drew) (fun hHeld => ?_)
    refine wpAnyH_take (i := 0) (oi := { dst := some 45, op := Op.load 28 (Operand.tmp 11), type := 28, pos := "law.go:80", after := #[], guard := none }) (v := ?_) rfl (by kernel_rfl) (by kernel_rfl) (by kernel_rfl) (fun _ _ _ h => h) (Or.inl ⟨by rfl, ?_⟩) hHeld ?_
    rotate_left
    · intro w hSw; (try dsimp only at hSw); go_simp; try with_reducible rfl
    try simp only [Act.put, List.setIfInBounds_toArray, List.set_cons_zero, List.set_cons_succ]
    refine wpAnyH_take (i := 1) (oi := { dst := some 46, op := Op.move (Operand.tmp 1), type := 3, pos := "law.go:80", after := #[], guard := none }) (v := ?_) rfl (by kernel_rfl) (by kernel_rfl) (by kernel_rfl) (fun _ _ _ h => h) (Or.inl ⟨by rfl, ?_⟩) hHeld ?_
    rotate_left
    · intro w hSw; (try dsimp only at hSw); go_simp; try with_reducible rfl
    try simp only [Act.put, List.setIfInBounds_toArray, List.set_cons_zero, List.set_cons_succ]
    refine wpAnyH_take (i := 2) (oi := { dst := some 47, op := Op.move (Operand.tmp 2), type := 3, pos := "law.go:80", after := #[], guard := none }) (v := ?_) rfl (by kernel_rfl) (by kernel_rfl) (by kernel_rfl) (fun _ _ _ h => h) (Or.inl ⟨by rfl, ?_⟩) hHeld ?_
    rotate_left
    · intro w hSw; (try dsimp only at hSw); go_simp; try with_reducible rfl
    try simp only [Act.put, List.setIfInBounds_toArray, List.set_cons_zero, List.set_cons_succ]
    refine wpAnyH_take (i := 3) (oi := { dst := some 48, op := Op.move (Operand.tmp 3), type := 3, pos := "law.go:80", after := #[], guard := none }) (v := ?_) rfl (by kernel_rfl) (by kernel_rfl) (by kernel_rfl) (fun _ _ _ h => h) (Or.inl ⟨by rfl, ?_⟩) hHeld ?_
    rotate_left
    · intro w hSw; (try dsimp only at hSw); go_simp; try with_reducible rfl
    try simp only [Act.put, List.setIfInBounds_toArray, List.set_cons_zero, List.set_cons_succ]
    refine wpAnyH_take (i := 4) (oi := { dst := some 49, op := Op.load 49 (Operand.tmp 9), type := 49, pos := "law.go:80", after := #[], guard := none }) (v := ?_) rfl (by kernel_rfl) (by kernel_rfl) (by kernel_rfl) (fun _ _ _ h => h) (Or.inl ⟨by rfl, ?_⟩) hHeld ?_
    rotate_left
    · intro w hSw; (try dsimp only at hSw); go_simp; try with_reducible rfl
    try simp only [Act.put, List.setIfInBounds_toArray, List.set_cons_zero, List.set_cons_succ]
    refine wpAnyH_ready (rs := [5, 10]) (by kernel_rfl) (by simp) ?_
    refine AllReadyH.cons rfl (fun K hK => ?_) (AllReadyH.cons rfl (fun K hK => ?_) (AllReadyH.nil))
    · skip
      go_simp
      go_wp2_with (go_at_call 22; refine (HCF.out _ (Below.refl w4.heap.size w4).drew).mono ?_; rintro x w5 ⟨s, rfl, hnew, hb5⟩; have HB5 := hid (((Below.refl w4.heap.size w4).drew).trans (hb5.mono ((Below.refl w4.heap.size w4).drew).size)); have HN5 := hid hnew.out.1; clear hb5 hnew)
      refine hK.out _ _ (HS.out _ HB5.out) (fun hHeld => ?_)
      clear hK K
      try simp only [Act.put, List.setIfInBounds_toArray, List.set_cons_zero, List.set_cons_succ]
      refine wpAnyH_ready (rs := [6, 10]) (by kernel_rfl) (by simp) ?_
      refine AllReadyH.cons rfl (fun K hK => ?_) (AllReadyH.cons rfl (fun K hK => ?_) (AllReadyH.nil))
      · skip
        go_simp
        go_wp2_with (go_at_call 21; refine (HEX.out _ s HB5.out HN5.out).mono ?_; rintro x w6 ⟨ad2, m2, c2, rfl, hans, hb6⟩; have HB6 := hid ((HB5.out).trans (hb6.mono (HB5.out).size)); have HA6 := hid hans.out; clear hb6 hans)
        refine hK.out _ _ (HS.out _ HB6.out) (fun hHeld => ?_)
        clear hK K
        try simp only [Act.put, List.setIfInBounds_toArray, List.set_cons_zero, List.set_cons_succ]
        refine wpAnyH_take (i := 7) (oi := { dst := some 44, op := Op.move (Operand.tmp 51), type := 36, pos := "law.go:80", after := #[{ on := 6, ground := Ground.data }], guard := none }) (v := ?_) rfl (by kernel_rfl) (by kernel_rfl) (by kernel_rfl) (fun _ _ _ h => h) (Or.inl ⟨by rfl, ?_⟩) hHeld ?_
        rotate_left
        · intro w hSw; (try dsimp only at hSw); go_simp; try with_reducible rfl
        try simp only [Act.put, List.setIfInBounds_toArray, List.set_cons_zero, List.set_cons_succ]
        refine wpAnyH_take (i := 8) (oi := { dst := some 52, op := Op.extract (Operand.tmp 44) 0, type := 28, pos := "law.go:80", after := #[{ on := 7, ground := Ground.data }], guard := none }) (v := ?_) rfl (by kernel_rfl) (by kernel_rfl) (by kernel_rfl) (fun _ _ _ h => h) (Or.inl ⟨by rfl, ?_⟩) hHeld ?_
        rotate_left
        · intro w hSw; (try dsimp only at hSw); go_simp; try with_reducible rfl
        try simp only [Act.put, List.setIfInBounds_toArray, List.set_cons_zero, List.set_cons_succ]
        refine wpAnyH_take (i := 9) (oi := { dst := some 53, op := Op.extract (Operand.tmp 44) 1, type := 31, pos := "law.go:80", after := #[{ on := 7, ground := Ground.data }, { on := 11, ground := Ground.gcOnly Departure.lateStores }], guard := none }) (v := ?_) rfl (by kernel_rfl) (by kernel_rfl) (by kernel_rfl) (fun _ _ _ h => h) (Or.inl ⟨by rfl, ?_⟩) hHeld ?_
        rotate_left
        · intro w hSw; (try dsimp only at hSw); go_simp; try with_reducible rfl
        try simp only [Act.put, List.setIfInBounds_toArray, List.set_cons_zero, List.set_cons_succ]
        refine wpAnyH_ready (rs := [10]) (by kernel_rfl) (by simp) ?_
        refine AllReadyH.cons rfl (fun K hK => ?_) (AllReadyH.nil)
        go_simp
        refine hK.out _ _ (HS.out _ (HB6.out.alloc HB6.out.size _)) (fun hHeld => ?_)
        clear hK K
        try simp only [Act.put, List.setIfInBounds_toArray, List.set_cons_zero, List.set_cons_succ]
        refine wpAnyH_ready (rs := [11]) (by kernel_rfl) (by simp) ?_
        refine AllReadyH.cons rfl (fun K hK => ?_) (AllReadyH.nil)
        go_simp
        refine hK.out _ _ (HS.out _ (HB6.out.alloc HB6.out.size _)) (fun hHeld => ?_)
        clear hK K
        refine wpAnyH_take (i := 12) (oi := { dst := some 19, op := Op.assign (Operand.tmp 53), type := 31, pos := "law.go:80", after := #[{ on := 9, ground := Ground.data }, { on := 11, ground := Ground.chain }, { on := 0, ground := Ground.phase }, { on := 1, ground := Ground.phase }, { on := 2, ground := Ground.phase }, { on := 3, ground := Ground.phase }, { on := 4, ground := Ground.phase }, { on := 5, ground := Ground.phase }, { on := 6, ground := Ground.phase }, { on := 7, ground := Ground.phase }, { on := 8, ground := Ground.phase }, { on := 9, ground := Ground.phase }, { on := 10, ground := Ground.phase }, { on := 11, ground := Ground.phase }], guard := none }) (v := ?_) rfl (by kernel_rfl) (by kernel_rfl) (by kernel_rfl) (fun _ _ _ h => h) (Or.inl ⟨by rfl, ?_⟩) hHeld ?_
        rotate_left
        · intro w hSw; (try dsimp only at hSw); go_simp; try with_reducible rfl
        refine wpAnyH_done (by kernel_rfl) ?_ _
        go_wp2_with fail
        go_meet
        exact ⟨w6.heap.size, ad2, m2, c2, rfl, rfl, hid ⟨heap_alloc_new w6 _, (HA6.out.later ((Below.refl _ _).alloc (Nat.le_refl _) _)).down HB5.out.size, HB6.out.alloc HB6.out.size _⟩⟩
      · skip
        have HB7 : Hid (Below w4.heap.size w4 (w5.alloc (.cells #[.int .i64 0, .int .i64 0, .slice none 0 0] 28))) := hid (HB5.out.alloc HB5.out.size _)
        go_simp
        refine hK.out _ _ (HS.out _ HB7.out) (fun hHeld => ?_)
        clear hK K
        try simp only [Act.put, List.setIfInBounds_toArray, List.set_cons_zero, List.set_cons_succ]
        refine wpAnyH_ready (rs := [6]) (by kernel_rfl) (by simp) ?_
        refine AllReadyH.cons rfl (fun K hK => ?_) (AllReadyH.nil)
        go_simp
        go_wp2_with (go_at_call 21; refine (HEX.out _ s HB7.out (HN5.out.later ((Below.refl _ w5).alloc (Nat.le_refl _) _))).mono ?_; rintro x w6 ⟨ad2, m2, c2, rfl, hans, hb6⟩; have HB6 := hid ((HB7.out).trans (hb6.mono (HB7.out).size)); have HA6 := hid hans.out; have K6 := hid ((show Blk (w5.alloc (.cells #[.int .i64 0, .int .i64 0, .slice none 0 0] 28)) w5.heap.size #[.int .i64 0, .int .i64 0, .slice none 0 0] 28 from heap_alloc_new w5 _).later hb6); have y0 : w6.cell? ⟨w5.heap.size, 0, none⟩ = some (.int .i64 0) := K6.out.cell 0; have y1 : w6.cell? ⟨w5.heap.size, 1, none⟩ = some (.int .i64 0) := K6.out.cell 1; have y2 : w6.cell? ⟨w5.heap.size, 2, none⟩ = some (.slice none 0 0) := K6.out.cell 2; have v0 := K6.out.free 0; have v1 := K6.out.free 1; have v2 := K6.out.free 2; clear hb6 hans)
        refine hK.out _ _ (HS.out _ HB6.out) (fun hHeld => ?_)
        clear hK K
        try simp only [Act.put, List.setIfInBounds_toArray, List.set_cons_zero, List.set_cons_succ]
        refine wpAnyH_take (i := 7) (oi := { dst := some 44, op := Op.move (Operand.tmp 51), type := 36, pos := "law.go:80", after := #[{ on := 6, ground := Ground.data }], guard := none }) (v := ?_) rfl (by kernel_rfl) (by kernel_rfl) (by kernel_rfl) (fun _ _ _ h => h) (Or.inl ⟨by rfl, ?_⟩) hHeld ?_
        rotate_left
        · intro w hSw; (try dsimp only at hSw); go_simp; try with_reducible rfl
        try simp only [Act.put, List.setIfInBounds_toArray, List.set_cons_zero, List.set_cons_succ]
        refine wpAnyH_take (i := 8) (oi := { dst := some 52, op := Op.extract (Operand.tmp 44) 0, type := 28, pos := "law.go:80", after := #[{ on := 7, ground := Ground.data }], guard := none }) (v := ?_) rfl (by kernel_rfl) (by kernel_rfl) (by kernel_rfl) (fun _ _ _ h => h) (Or.inl ⟨by rfl, ?_⟩) hHeld ?_
        rotate_left
        · intro w hSw; (try dsimp only at hSw); go_simp; try with_reducible rfl
        try simp only [Act.put, List.setIfInBounds_toArray, List.set_cons_zero, List.set_cons_succ]
        refine wpAnyH_take (i := 9) (oi := { dst := some 53, op := Op.extract (Operand.tmp 44) 1, type := 31, pos := "law.go:80", after := #[{ on := 7, ground := Ground.data }, { on := 11, ground := Ground.gcOnly Departure.lateStores }], guard := none }) (v := ?_) rfl (by kernel_rfl) (by kernel_rfl) (by kernel_rfl) (fun _ _ _ h => h) (Or.inl ⟨by rfl, ?_⟩) hHeld ?_
        rotate_left
        · intro w hSw; (try dsimp only at hSw); go_simp; try with_reducible rfl
        try simp only [Act.put, List.setIfInBounds_toArray, List.set_cons_zero, List.set_cons_succ]
        refine wpAnyH_ready (rs := [11]) (by kernel_rfl) (by simp) ?_
        refine AllReadyH.cons rfl (fun K hK => ?_) (AllReadyH.nil)
        have Q8 : Hid (Below w4.heap.size w4 (((w6.setCell ⟨w5.heap.size, 0, none⟩ (.int .i64 C.owner)).setCell ⟨w5.heap.size, 1, none⟩ (.int .i64 C.trim)).setCell ⟨w5.heap.size, 2, none⟩ (.slice ad2 m2 c2))) := hid (((HB6.out.setCell (p := ⟨w5.heap.size, 0, none⟩) (HB5.out.size) _).setCell (p := ⟨w5.heap.size, 1, none⟩) (HB5.out.size) _).setCell (p := ⟨w5.heap.size, 2, none⟩) (HB5.out.size) _)
        go_simp
        refine hK.out _ _ (HS.out _ Q8.out) (fun hHeld => ?_)
        clear hK K
        refine wpAnyH_take (i := 12) (oi := { dst := some 19, op := Op.assign (Operand.tmp 53), type := 31, pos := "law.go:80", after := #[{ on := 9, ground := Ground.data }, { on := 11, ground := Ground.chain }, { on := 0, ground := Ground.phase }, { on := 1, ground := Ground.phase }, { on := 2, ground := Ground.phase }, { on := 3, ground := Ground.phase }, { on := 4, ground := Ground.phase }, { on := 5, ground := Ground.phase }, { on := 6, ground := Ground.phase }, { on := 7, ground := Ground.phase }, { on := 8, ground := Ground.phase }, { on := 9, ground := Ground.phase }, { on := 10, ground := Ground.phase }, { on := 11, ground := Ground.phase }], guard := none }) (v := ?_) rfl (by kernel_rfl) (by kernel_rfl) (by kernel_rfl) (fun _ _ _ h => h) (Or.inl ⟨by rfl, ?_⟩) hHeld ?_
        rotate_left
        · intro w hSw; (try dsimp only at hSw); go_simp; try with_reducible rfl
        refine wpAnyH_done (by kernel_rfl) ?_ _
        go_wp2_with fail
        go_meet
        have hcg : Chg [w5.heap.size] w6 (((w6.setCell ⟨w5.heap.size, 0, none⟩ (.int .i64 C.owner)).setCell ⟨w5.heap.size, 1, none⟩ (.int .i64 C.trim)).setCell ⟨w5.heap.size, 2, none⟩ (.slice ad2 m2 c2)) := (((Chg.refl _ w6).set (Or.inl (by simp)) _ _).set (Or.inl (by simp)) _ _).set (Or.inl (by simp)) _ _
        exact ⟨w5.heap.size, ad2, m2, c2, rfl, rfl, hid ⟨((K6.out.set 0 _).set 1 _).set 2 _, (HA6.out.chg hcg (fun g hg => by simp at hg; show g < (w5.alloc (.cells #[.int .i64 0, .int .i64 0, .slice none 0 0] 28)).heap.size; rw [World.size_alloc]; omega)).down HB7.out.size, Q8.out⟩⟩
    · skip
      have HB7 : Hid (Below w4.heap.size w4 (w4.alloc (.cells #[.int .i64 0, .int .i64 0, .slice none 0 0] 28)).drew) := hid ((Below.refl _ w4).alloc (Nat.le_refl _) _).drew
      go_simp
      refine hK.out _ _ (HS.out _ HB7.out) (fun hHeld => ?_)
      clear hK K
      try simp only [Act.put, List.setIfInBounds_toArray, List.set_cons_zero, List.set_cons_succ]
      refine wpAnyH_ready (rs := [5]) (by kernel_rfl) (by simp) ?_
      refine AllReadyH.cons rfl (fun K hK => ?_) (AllReadyH.nil)
      go_simp
      go_wp2_with (go_at_call 22; refine (HCF.out _ HB7.out).mono ?_; rintro x w5 ⟨s, rfl, hnew, hb5⟩; have HB5 := hid ((HB7.out).trans (hb5.mono (HB7.out).size)); have HN5 := hid hnew.out.1; have HK5 : Hid (Blk w5 w4.heap.size #[.int .i64 0, .int .i64 0, .slice none 0 0] 28) := hid ((show Blk (w4.alloc (.cells #[.int .i64 0, .int .i64 0, .slice none 0 0] 28)).drew w4.heap.size #[.int .i64 0, .int .i64 0, .slice none 0 0] 28 from heap_alloc_new w4 (.cells #[.int .i64 0, .int .i64 0, .slice none 0 0] 28)).later hb5); have HS5 : Hid (w4.heap.size + 1 ≤ w5.heap.size) := hid (by have := hb5.size; simpa using this); clear hb5 hnew)
      refine hK.out _ _ (HS.out _ HB5.out) (fun hHeld => ?_)
      clear hK K
      try simp only [Act.put, List.setIfInBounds_toArray, List.set_cons_zero, List.set_cons_succ]
      refine wpAnyH_ready (rs := [6]) (by kernel_rfl) (by simp) ?_
      refine AllReadyH.cons rfl (fun K hK => ?_) (AllReadyH.nil)
      go_simp
      go_wp2_with (go_at_call 21; refine (HEX.out _ s HB5.out (HN5.out.down HB7.out.size)).mono ?_; rintro x w6 ⟨ad2, m2, c2, rfl, hans, hb6⟩; have HB6 := hid ((HB5.out).trans (hb6.mono (HB5.out).size)); have HA6 := hid hans.out; have K6 := hid ((HK5.out).later hb6); have y0 : w6.cell? ⟨w4.heap.size, 0, none⟩ = some (.int .i64 0) := K6.out.cell 0; have y1 : w6.cell? ⟨w4.heap.size, 1, none⟩ = some (.int .i64 0) := K6.out.cell 1; have y2 : w6.cell? ⟨w4.heap.size, 2, none⟩ = some (.slice none 0 0) := K6.out.cell 2; have v0 := K6.out.free 0; have v1 := K6.out.free 1; have v2 := K6.out.free 2; clear hb6 hans)
      refine hK.out _ _ (HS.out _ HB6.out) (fun hHeld => ?_)
      clear hK K
      try simp only [Act.put, List.setIfInBounds_toArray, List.set_cons_zero, List.set_cons_succ]
      refine wpAnyH_take (i := 7) (oi := { dst := some 44, op := Op.move (Operand.tmp 51), type := 36, pos := "law.go:80", after := #[{ on := 6, ground := Ground.data }], guard := none }) (v := ?_) rfl (by kernel_rfl) (by kernel_rfl) (by kernel_rfl) (fun _ _ _ h => h) (Or.inl ⟨by rfl, ?_⟩) hHeld ?_
      rotate_left
      · intro w hSw; (try dsimp only at hSw); go_simp; try with_reducible rfl
      try simp only [Act.put, List.setIfInBounds_toArray, List.set_cons_zero, List.set_cons_succ]
      refine wpAnyH_take (i := 8) (oi := { dst := some 52, op := Op.extract (Operand.tmp 44) 0, type := 28, pos := "law.go:80", after := #[{ on := 7, ground := Ground.data }], guard := none }) (v := ?_) rfl (by kernel_rfl) (by kernel_rfl) (by kernel_rfl) (fun _ _ _ h => h) (Or.inl ⟨by rfl, ?_⟩) hHeld ?_
      rotate_left
      · intro w hSw; (try dsimp only at hSw); go_simp; try with_reducible rfl
      try simp only [Act.put, List.setIfInBounds_toArray, List.set_cons_zero, List.set_cons_succ]
      refine wpAnyH_take (i := 9) (oi := { dst := some 53, op := Op.extract (Operand.tmp 44) 1, type := 31, pos := "law.go:80", after := #[{ on := 7, ground := Ground.data }, { on := 11, ground := Ground.gcOnly Departure.lateStores }], guard := none }) (v := ?_) rfl (by kernel_rfl) (by kernel_rfl) (by kernel_rfl) (fun _ _ _ h => h) (Or.inl ⟨by rfl, ?_⟩) hHeld ?_
      rotate_left
      · intro w hSw; (try dsimp only at hSw); go_simp; try with_reducible rfl
      try simp only [Act.put, List.setIfInBounds_toArray, List.set_cons_zero, List.set_cons_succ]
      refine wpAnyH_ready (rs := [11]) (by kernel_rfl) (by simp) ?_
      refine AllReadyH.cons rfl (fun K hK => ?_) (AllReadyH.nil)
      have Q8 : Hid (Below w4.heap.size w4 (((w6.setCell ⟨w4.heap.size, 0, none⟩ (.int .i64 C.owner)).setCell ⟨w4.heap.size, 1, none⟩ (.int .i64 C.trim)).setCell ⟨w4.heap.size, 2, none⟩ (.slice ad2 m2 c2))) := hid (((HB6.out.setCell (p := ⟨w4.heap.size, 0, none⟩) (Nat.le_refl _) _).setCell (p := ⟨w4.heap.size, 1, none⟩) (Nat.le_refl _) _).setCell (p := ⟨w4.heap.size, 2, none⟩) (Nat.le_refl _) _)
      go_simp
      refine hK.out _ _ (HS.out _ Q8.out) (fun hHeld => ?_)
      clear hK K
      refine wpAnyH_take (i := 12) (oi := { dst := some 19, op := Op.assign (Operand.tmp 53), type := 31, pos := "law.go:80", after := #[{ on := 9, ground := Ground.data }, { on := 11, ground := Ground.chain }, { on := 0, ground := Ground.phase }, { on := 1, ground := Ground.phase }, { on := 2, ground := Ground.phase }, { on := 3, ground := Ground.phase }, { on := 4, ground := Ground.phase }, { on := 5, ground := Ground.phase }, { on := 6, ground := Ground.phase }, { on := 7, ground := Ground.phase }, { on := 8, ground := Ground.phase }, { on := 9, ground := Ground.phase }, { on := 10, ground := Ground.phase }, { on := 11, ground := Ground.phase }], guard := none }) (v := ?_) rfl (by kernel_rfl) (by kernel_rfl) (by kernel_rfl) (fun _ _ _ h => h) (Or.inl ⟨by rfl, ?_⟩) hHeld ?_
      rotate_left
      · intro w hSw; (try dsimp only at hSw); go_simp; try with_reducible rfl
      refine wpAnyH_done (by kernel_rfl) ?_ _
      go_wp2_with fail
      go_meet
      have hcg : Chg [w4.heap.size] w6 (((w6.setCell ⟨w4.heap.size, 0, none⟩ (.int .i64 C.owner)).setCell ⟨w4.heap.size, 1, none⟩ (.int .i64 C.trim)).setCell ⟨w4.heap.size, 2, none⟩ (.slice ad2 m2 c2)) := (((Chg.refl _ w6).set (Or.inl (by simp)) _ _).set (Or.inl (by simp)) _ _).set (Or.inl (by simp)) _ _
      exact ⟨w4.heap.size, ad2, m2, c2, rfl, rfl, hid ⟨((K6.out.set 0 _).set 1 _).set 2 _, (HA6.out.chg hcg (fun g hg => by simp at hg; have := HB5.out.size; have := HS5.out; omega)).down HB5.out.size, Q8.out⟩⟩

  case rest =>
    obtain ⟨G, ad2, m2, c2, rfl, rfl, HW3⟩ := hcut
    clear HCF HEX
    obtain ⟨kx, kn⟩ := HS.out wc HW3.out.2.2
    have kc := HSc.out wc HW3.out.2.2
    obtain ⟨kc0, kc1, kc2⟩ := kc
    obtain ⟨kn0, kn1⟩ := kn
    go_upto_region 8 with (first
      | (go_at_call 23; refine (HRX.out _ HW3.out.2.2).mono ?_; rintro x w5 ⟨ad3, m3, c3, rfl, hh, hb⟩; have HA3 := hid hh.out; have HB5 := hid hb; have HL5 := hid (HW3.out.2.2.trans (hb.mono HW3.out.2.2.size)); clear hb hh kx kn0 kn1 kc0 kc1 kc2; obtain ⟨kx0, kx1, kx2⟩ := (HS.out _ (HL5.out.alloc HL5.out.size (.cells #[.int .i64 C.owner, .int .i64 C.trim, .slice ad3 m3 c3] 24))).1)
      | (go_at_call 24; refine (HCU.out _ (HL5.out.alloc HL5.out.size (.cells #[.int .i64 C.owner, .int .i64 C.trim, .slice ad3 m3 c3] 24))).mono ?_; rintro x w6 ⟨ad4, m4, c4, rfl, hh, hb⟩; have HA4 := hid hh.out; have HB6 := hid hb; have HL6 := hid ((HL5.out.alloc HL5.out.size (.cells #[.int .i64 C.owner, .int .i64 C.trim, .slice ad3 m3 c3] 24)).trans (hb.mono (HL5.out.alloc HL5.out.size (.cells #[.int .i64 C.owner, .int .i64 C.trim, .slice ad3 m3 c3] 24)).size)); clear hb hh kx0 kx1 kx2; obtain ⟨kc0, kc1, kc2⟩ := HSc.out _ (HL6.out.alloc HL6.out.size (.cells #[.int .i64 Z.owner, .int .i64 Z.trim, .slice ad4 m4 c4] 28)))
      | (go_at_call 25; refine (HRC.out _ (HL6.out.alloc HL6.out.size (.cells #[.int .i64 Z.owner, .int .i64 Z.trim, .slice ad4 m4 c4] 28))).mono ?_; rintro x w7 ⟨ad5, m5, c5, rfl, hh, hb⟩; have HA5 := hid hh.out; have HB7 := hid hb; have HL7 := hid ((HL6.out.alloc HL6.out.size (.cells #[.int .i64 Z.owner, .int .i64 Z.trim, .slice ad4 m4 c4] 28)).trans (hb.mono (HL6.out.alloc HL6.out.size (.cells #[.int .i64 Z.owner, .int .i64 Z.trim, .slice ad4 m4 c4] 28)).size)); clear hb hh kc0 kc1 kc2))
    obtain ⟨w8, hw8⟩ : ∃ w8, w7.alloc (.cells #[.int .i64 Z.owner, .int .i64 Z.trim, .slice ad5 m5 c5] 24) = w8 := ⟨_, rfl⟩
    rw [hw8]
    have n5 : Below w5.heap.size w5 (w5.alloc (.cells #[.int .i64 C.owner, .int .i64 C.trim, .slice ad3 m3 c3] 24)) := (Below.refl _ _).alloc (Nat.le_refl _) _
    have n6 : Below w6.heap.size w6 (w6.alloc (.cells #[.int .i64 Z.owner, .int .i64 Z.trim, .slice ad4 m4 c4] 28)) := (Below.refl _ _).alloc (Nat.le_refl _) _
    have n7 : Below w7.heap.size w7 w8 := by rw [← hw8]; exact (Below.refl _ _).alloc (Nat.le_refl _) _
    have t6 : Below (w6.alloc (.cells #[.int .i64 Z.owner, .int .i64 Z.trim, .slice ad4 m4 c4] 28)).heap.size (w6.alloc (.cells #[.int .i64 Z.owner, .int .i64 Z.trim, .slice ad4 m4 c4] 28)) w8 := HB7.out.trans (n7.mono HB7.out.size)
    have t5 : Below (w5.alloc (.cells #[.int .i64 C.owner, .int .i64 C.trim, .slice ad3 m3 c3] 24)).heap.size (w5.alloc (.cells #[.int .i64 C.owner, .int .i64 C.trim, .slice ad3 m3 c3] 24)) w8 := HB6.out.trans ((n6.mono (Nat.le_refl _)).trans (t6.mono n6.size) |>.mono HB6.out.size)
    have tc : Below wc.heap.size wc w8 := HB5.out.trans ((n5.trans (t5.mono n5.size)).mono HB5.out.size)
    have HL8 : Hid (Below w4.heap.size w4 w8) := hid (HL7.out.trans (n7.mono HL7.out.size))
    have HA2 := hid (HW3.out.2.1.later tc)
    have HAA3 := hid ((HA3.out.later n5).later t5)
    have HAA4 := hid ((HA4.out.later n6).later t6)
    have HAA5 := hid (HA5.out.later n7)
    have HK2 := hid (HW3.out.1.later tc)
    have HK3 : Hid (Blk w8 w5.heap.size #[.int .i64 C.owner, .int .i64 C.trim, .slice ad3 m3 c3] 24) := hid ((show Blk (w5.alloc (.cells #[.int .i64 C.owner, .int .i64 C.trim, .slice ad3 m3 c3] 24)) w5.heap.size _ _ from heap_alloc_new w5 _).later t5)
    have HK4 : Hid (Blk w8 w6.heap.size #[.int .i64 Z.owner, .int .i64 Z.trim, .slice ad4 m4 c4] 28) := hid ((show Blk (w6.alloc (.cells #[.int .i64 Z.owner, .int .i64 Z.trim, .slice ad4 m4 c4] 28)) w6.heap.size _ _ from heap_alloc_new w6 _).later t6)
    have HK5 : Hid (Blk w8 w7.heap.size #[.int .i64 Z.owner, .int .i64 Z.trim, .slice ad5 m5 c5] 24) := hid (by rw [← hw8]; exact heap_alloc_new w7 _)
    clear n5 n6 n7 t5 t6 tc hw8 HA3 HA4 HA5 HB5 HB6 HB7 HL5 HL6 HL7 HW3 HRX HCU HRC
    generalize w5.heap.size = g3 at *
    generalize w6.heap.size = g4 at *
    generalize w7.heap.size = g5 at *
    have HLL : Hid (∀ W, Below w8.heap.size w8 W → Below w4.heap.size w4 W) := hid (fun W hW => HL8.out.trans (hW.mono HL8.out.size))
    have HS8 : Hid (∀ W, Below w8.heap.size w8 W → (W.cell? ⟨gx, 0, none⟩ = some (.int .i64 o) ∧ W.cell? ⟨gx, 1, none⟩ = some (.int .i64 t) ∧ W.cell? ⟨gx, 2, none⟩ = some (.slice adx m cx)) ∧ (W.cell? ⟨w.heap.size, 0, none⟩ = some (.int .i64 o) ∧ W.cell? ⟨w.heap.size, 1, none⟩ = some (.int .i64 t) ∧ W.cell? ⟨w.heap.size, 2, none⟩ = some (.slice ad m c)) ∧ (W.cell? ⟨G, 0, none⟩ = some (.int .i64 C.owner) ∧ W.cell? ⟨G, 1, none⟩ = some (.int .i64 C.trim) ∧ W.cell? ⟨G, 2, none⟩ = some (.slice ad2 m2 c2)) ∧ (W.cell? ⟨g3, 0, none⟩ = some (.int .i64 C.owner) ∧ W.cell? ⟨g3, 1, none⟩ = some (.int .i64 C.trim) ∧ W.cell? ⟨g3, 2, none⟩ = some (.slice ad3 m3 c3)) ∧ (W.cell? ⟨g4, 0, none⟩ = some (.int .i64 Z.owner) ∧ W.cell? ⟨g4, 1, none⟩ = some (.int .i64 Z.trim) ∧ W.cell? ⟨g4, 2, none⟩ = some (.slice ad4 m4 c4)) ∧ (W.cell? ⟨g5, 0, none⟩ = some (.int .i64 Z.owner) ∧ W.cell? ⟨g5, 1, none⟩ = some (.int .i64 Z.trim) ∧ W.cell? ⟨g5, 2, none⟩ = some (.slice ad5 m5 c5))) := hid (fun W hW => by
      have k2 := HK2.out.later hW
      have k3 := HK3.out.later hW
      have k4 := HK4.out.later hW
      have k5 := HK5.out.later hW
      exact ⟨(HS.out W (HLL.out W hW)).1, HSc.out W (HLL.out W hW), ⟨k2.cell 0, k2.cell 1, k2.cell 2⟩, ⟨k3.cell 0, k3.cell 1, k3.cell 2⟩, ⟨k4.cell 0, k4.cell 1, k4.cell 2⟩, ⟨k5.cell 0, k5.cell 1, k5.cell 2⟩⟩)
    have HO3 : Hid (∀ X, Below w8.heap.size w8 X → Calls Try.prog 7 #[.agg #[.int .i64 C.owner, .int .i64 C.trim, .slice ad3 m3 c3]] X fun x w' => ∃ ad' c', x = .returned (.agg #[.int .i64 C.owner, .int .i64 C.trim, .slice ad' m3 c']) ∧ Hid (CAns w' X.heap.size C.parts ad' m3 c') ∧ Below X.heap.size X w') := hid (fun X hX => own_small (HAA3.out.later hX) HSC.out.1 _ _)
    have HO5 : Hid (∀ X, Below w8.heap.size w8 X → Calls Try.prog 7 #[.agg #[.int .i64 Z.owner, .int .i64 Z.trim, .slice ad5 m5 c5]] X fun x w' => ∃ ad' c', x = .returned (.agg #[.int .i64 Z.owner, .int .i64 Z.trim, .slice ad' m5 c']) ∧ Hid (CAns w' X.heap.size Z.parts ad' m5 c') ∧ Below X.heap.size X w') := hid (fun X hX => own_small (HAA5.out.later hX) HSC.out.2 _ _)
    have HSM3 : Hid (∀ (X : World) (adp : Option Addr) (cp : Nat) {N : Nat}, Below w8.heap.size w8 X → CAns X N C.parts adp m3 cp → Calls Try.prog 16 #[.agg #[.int .i64 C.owner, .int .i64 C.trim, .slice ad2 m2 c2], .agg #[.int .i64 C.owner, .int .i64 C.trim, .slice adp m3 cp]] X fun x w' => x = .returned (.bool true) ∧ Below X.heap.size X w') := hid (fun X adp cp N hX hp => same_ans (HA2.out.later hX) hp _ _)
    have HSM5 : Hid (∀ (X : World) (adp : Option Addr) (cp : Nat) {N : Nat}, Below w8.heap.size w8 X → CAns X N Z.parts adp m5 cp → Calls Try.prog 16 #[.agg #[.int .i64 Z.owner, .int .i64 Z.trim, .slice ad4 m4 c4], .agg #[.int .i64 Z.owner, .int .i64 Z.trim, .slice adp m5 cp]] X fun x w' => x = .returned (.bool true) ∧ Below X.heap.size X w') := hid (fun X adp cp N hX hp => same_ans (HAA4.out.later hX) hp _ _)
    go_cut [124] (fun x wx => x = .bool false ∧ Hid (Below w8.heap.size w8 wx))
    case first =>
      refine wp_region_held_drew (S := fun W => (W.cell? ⟨gx, 0, none⟩ = some (.int .i64 o) ∧ W.cell? ⟨gx, 1, none⟩ = some (.int .i64 t) ∧ W.cell? ⟨gx, 2, none⟩ = some (.slice adx m cx)) ∧ (W.cell? ⟨w.heap.size, 0, none⟩ = some (.int .i64 o) ∧ W.cell? ⟨w.heap.size, 1, none⟩ = some (.int .i64 t) ∧ W.cell? ⟨w.heap.size, 2, none⟩ = some (.slice ad m c)) ∧ (W.cell? ⟨G, 0, none⟩ = some (.int .i64 C.owner) ∧ W.cell? ⟨G, 1, none⟩ = some (.int .i64 C.trim) ∧ W.cell? ⟨G, 2, none⟩ = some (.slice ad2 m2 c2)) ∧ (W.cell? ⟨g3, 0, none⟩ = some (.int .i64 C.owner) ∧ W.cell? ⟨g3, 1, none⟩ = some (.int .i64 C.trim) ∧ W.cell? ⟨g3, 2, none⟩ = some (.slice ad3 m3 c3)) ∧ (W.cell? ⟨g4, 0, none⟩ = some (.int .i64 Z.owner) ∧ W.cell? ⟨g4, 1, none⟩ = some (.int .i64 Z.trim) ∧ W.cell? ⟨g4, 2, none⟩ = some (.slice ad4 m4 c4)) ∧ (W.cell? ⟨g5, 0, none⟩ = some (.int .i64 Z.owner) ∧ W.cell? ⟨g5, 1, none⟩ = some (.int .i64 Z.trim) ∧ W.cell? ⟨g5, 2, none⟩ = some (.slice ad5 m5 c5))) (by kernel_rfl) (HS8.out _ (Below.refl _ _).drew) (fun hHeld => ?_)
      refine wpAnyH_take (i := 0) (oi := { dst := some 77, op := Op.move (Operand.tmp 12), type := 3, pos := "law.go:84", after := #[], guard := none }) (v := ?_) rfl (by kernel_rfl) (by kernel_rfl) (by kernel_rfl) (fun _ _ _ h => h) (Or.inl ⟨by rfl, ?_⟩) hHeld ?_
      rotate_left
      · intro w hSw; (try dsimp only at hSw); go_simp; try with_reducible rfl
      try simp only [Act.put, List.setIfInBounds_toArray, List.set_cons_zero, List.set_cons_succ]
      refine wpAnyH_take (i := 1) (oi := { dst := some 78, op := Op.move (Operand.tmp 15), type := 3, pos := "law.go:84", after := #[], guard := none }) (v := ?_) rfl (by kernel_rfl) (by kernel_rfl) (by kernel_rfl) (fun _ _ _ h => h) (Or.inl ⟨by rfl, ?_⟩) hHeld ?_
      rotate_left
      · intro w hSw; (try dsimp only at hSw); go_simp; try with_reducible rfl
      try simp only [Act.put, List.setIfInBounds_toArray, List.set_cons_zero, List.set_cons_succ]
      refine wpAnyH_take (i := 2) (oi := { dst := some 79, op := Op.binOp BinOp.neq 3 (Operand.tmp 77) (Operand.tmp 78) 3, type := 4, pos := "law.go:84", after := #[{ on := 0, ground := Ground.data }, { on := 1, ground := Ground.data }], guard := none }) (v := ?_) rfl (by kernel_rfl) (by kernel_rfl) (by kernel_rfl) (fun _ _ _ h => h) (Or.inl ⟨by rfl, ?_⟩) hHeld ?_
      rotate_left
      · intro w hSw; (try dsimp only at hSw); go_simp; try with_reducible rfl
      try simp only [Act.put, List.setIfInBounds_toArray, List.set_cons_zero, List.set_cons_succ]
      refine wpAnyH_take (i := 3) (oi := { dst := some 80, op := Op.move (Operand.tmp 79), type := 4, pos := "law.go:84", after := #[{ on := 2, ground := Ground.data }], guard := none }) (v := ?_) rfl (by kernel_rfl) (by kernel_rfl) (by kernel_rfl) (fun _ _ _ h => h) (Or.inl ⟨by rfl, ?_⟩) hHeld ?_
      rotate_left
      · intro w hSw; (try dsimp only at hSw); go_simp; try with_reducible rfl
      try simp only [Act.put, List.setIfInBounds_toArray, List.set_cons_zero, List.set_cons_succ]
      refine wpAnyH_take (i := 4) (oi := { dst := some 81, op := Op.move (Operand.tmp 13), type := 3, pos := "law.go:84", after := #[{ on := 3, ground := Ground.guard }], guard := some (3, false) }) (v := ?_) rfl (by kernel_rfl) (by kernel_rfl) (by kernel_rfl) (fun _ _ _ h => h) (Or.inl ⟨by rfl, ?_⟩) hHeld ?_
      rotate_left
      · intro w hSw; (try dsimp only at hSw); go_simp; try with_reducible rfl
      try simp only [Act.put, List.setIfInBounds_toArray, List.set_cons_zero, List.set_cons_succ]
      refine wpAnyH_take (i := 5) (oi := { dst := some 82, op := Op.move (Operand.tmp 16), type := 3, pos := "law.go:84", after := #[{ on := 3, ground := Ground.guard }], guard := some (3, false) }) (v := ?_) rfl (by kernel_rfl) (by kernel_rfl) (by kernel_rfl) (fun _ _ _ h => h) (Or.inl ⟨by rfl, ?_⟩) hHeld ?_
      rotate_left
      · intro w hSw; (try dsimp only at hSw); go_simp; try with_reducible rfl
      try simp only [Act.put, List.setIfInBounds_toArray, List.set_cons_zero, List.set_cons_succ]
      refine wpAnyH_take (i := 6) (oi := { dst := some 83, op := Op.binOp BinOp.neq 3 (Operand.tmp 81) (Operand.tmp 82) 3, type := 4, pos := "law.go:84", after := #[{ on := 4, ground := Ground.data }, { on := 5, ground := Ground.data }, { on := 3, ground := Ground.guard }], guard := some (3, false) }) (v := ?_) rfl (by kernel_rfl) (by kernel_rfl) (by kernel_rfl) (fun _ _ _ h => h) (Or.inl ⟨by rfl, ?_⟩) hHeld ?_
      rotate_left
      · intro w hSw; (try dsimp only at hSw); go_simp; try with_reducible rfl
      try simp only [Act.put, List.setIfInBounds_toArray, List.set_cons_zero, List.set_cons_succ]
      refine wpAnyH_take (i := 7) (oi := { dst := some 84, op := Op.pick (Operand.tmp 80) (Operand.const (Value.bool true)) (Operand.tmp 83), type := 4, pos := "law.go:84", after := #[{ on := 3, ground := Ground.data }, { on := 6, ground := Ground.data }], guard := none }) (v := ?_) rfl (by kernel_rfl) (by kernel_rfl) (by kernel_rfl) (fun _ _ _ h => h) (Or.inl ⟨by rfl, ?_⟩) hHeld ?_
      rotate_left
      · intro w hSw; (try dsimp only at hSw); go_simp; try with_reducible rfl
      try simp only [Act.put, List.setIfInBounds_toArray, List.set_cons_zero, List.set_cons_succ]
      refine wpAnyH_take (i := 8) (oi := { dst := some 85, op := Op.move (Operand.tmp 84), type := 4, pos := "law.go:84", after := #[{ on := 7, ground := Ground.data }, { on := 3, ground := Ground.chain }], guard := none }) (v := ?_) rfl (by kernel_rfl) (by kernel_rfl) (by kernel_rfl) (fun _ _ _ h => h) (Or.inl ⟨by rfl, ?_⟩) hHeld ?_
      rotate_left
      · intro w hSw; (try dsimp only at hSw); go_simp; try with_reducible rfl
      try simp only [Act.put, List.setIfInBounds_toArray, List.set_cons_zero, List.set_cons_succ]
      refine wpAnyH_take (i := 9) (oi := { dst := some 86, op := Op.move (Operand.tmp 14), type := 4, pos := "law.go:84", after := #[{ on := 8, ground := Ground.guard }], guard := some (8, false) }) (v := ?_) rfl (by kernel_rfl) (by kernel_rfl) (by kernel_rfl) (fun _ _ _ h => h) (Or.inl ⟨by rfl, ?_⟩) hHeld ?_
      rotate_left
      · intro w hSw; (try dsimp only at hSw); go_simp; try with_reducible rfl
      try simp only [Act.put, List.setIfInBounds_toArray, List.set_cons_zero, List.set_cons_succ]
      refine wpAnyH_take (i := 10) (oi := { dst := some 87, op := Op.move (Operand.tmp 17), type := 4, pos := "law.go:84", after := #[{ on := 8, ground := Ground.guard }], guard := some (8, false) }) (v := ?_) rfl (by kernel_rfl) (by kernel_rfl) (by kernel_rfl) (fun _ _ _ h => h) (Or.inl ⟨by rfl, ?_⟩) hHeld ?_
      rotate_left
      · intro w hSw; (try dsimp only at hSw); go_simp; try with_reducible rfl
      try simp only [Act.put, List.setIfInBounds_toArray, List.set_cons_zero, List.set_cons_succ]
      refine wpAnyH_take (i := 11) (oi := { dst := some 88, op := Op.binOp BinOp.neq 4 (Operand.tmp 86) (Operand.tmp 87) 4, type := 4, pos := "law.go:84", after := #[{ on := 9, ground := Ground.data }, { on := 10, ground := Ground.data }, { on := 8, ground := Ground.guard }], guard := some (8, false) }) (v := ?_) rfl (by kernel_rfl) (by kernel_rfl) (by kernel_rfl) (fun _ _ _ h => h) (Or.inl ⟨by rfl, ?_⟩) hHeld ?_
      rotate_left
      · intro w hSw; (try dsimp only at hSw); go_simp; try with_reducible rfl
      try simp only [Act.put, List.setIfInBounds_toArray, List.set_cons_zero, List.set_cons_succ]
      refine wpAnyH_take (i := 12) (oi := { dst := some 89, op := Op.pick (Operand.tmp 85) (Operand.const (Value.bool true)) (Operand.tmp 88), type := 4, pos := "law.go:84", after := #[{ on := 8, ground := Ground.data }, { on := 11, ground := Ground.data }], guard := none }) (v := ?_) rfl (by kernel_rfl) (by kernel_rfl) (by kernel_rfl) (fun _ _ _ h => h) (Or.inl ⟨by rfl, ?_⟩) hHeld ?_
      rotate_left
      · intro w hSw; (try dsimp only at hSw); go_simp; try with_reducible rfl
      try simp only [Act.put, List.setIfInBounds_toArray, List.set_cons_zero, List.set_cons_succ]
      refine wpAnyH_take (i := 13) (oi := { dst := some 90, op := Op.move (Operand.tmp 89), type := 4, pos := "law.go:84", after := #[{ on := 12, ground := Ground.data }, { on := 8, ground := Ground.chain }], guard := none }) (v := ?_) rfl (by kernel_rfl) (by kernel_rfl) (by kernel_rfl) (fun _ _ _ h => h) (Or.inl ⟨by rfl, ?_⟩) hHeld ?_
      rotate_left
      · intro w hSw; (try dsimp only at hSw); go_simp; try with_reducible rfl
      try simp only [Act.put, List.setIfInBounds_toArray, List.set_cons_zero, List.set_cons_succ]
      refine wpAnyH_take (i := 14) (oi := { dst := some 91, op := Op.load 28 (Operand.tmp 18), type := 28, pos := "law.go:84", after := #[{ on := 13, ground := Ground.guard }], guard := some (13, false) }) (v := ?_) rfl (by kernel_rfl) (by kernel_rfl) (by kernel_rfl) (fun _ _ _ h => h) (Or.inl ⟨by rfl, ?_⟩) hHeld ?_
      rotate_left
      · intro w hSw; (try dsimp only at hSw); go_simp; try with_reducible rfl
      try simp only [Act.put, List.setIfInBounds_toArray, List.set_cons_zero, List.set_cons_succ]
      refine wpAnyH_take (i := 15) (oi := { dst := some 92, op := Op.load 24 (Operand.tmp 20), type := 24, pos := "law.go:84", after := #[{ on := 13, ground := Ground.guard }], guard := some (13, false) }) (v := ?_) rfl (by kernel_rfl) (by kernel_rfl) (by kernel_rfl) (fun _ _ _ h => h) (Or.inl ⟨by rfl, ?_⟩) hHeld ?_
      rotate_left
      · intro w hSw; (try dsimp only at hSw); go_simp; try with_reducible rfl
      try simp only [Act.put, List.setIfInBounds_toArray, List.set_cons_zero, List.set_cons_succ]
      refine wpAnyH_ready (rs := [16]) (by kernel_rfl) (by simp) ?_
      refine AllReadyH.cons rfl (fun K hK => ?_) (AllReadyH.nil)
      go_simp
      go_wp2_with (go_at_call 7; refine (HO3.out _ (Below.refl w8.heap.size w8).drew).mono ?_; rintro x x1 ⟨adp, cp, rfl, hp, hb⟩; have Hx1 := hid (((Below.refl w8.heap.size w8).drew).trans (hb.mono ((Below.refl w8.heap.size w8).drew).size)); clear hb)
      refine hK.out _ _ (HS8.out _ Hx1.out) (fun hHeld => ?_)
      clear hK K
      try simp only [Act.put, List.setIfInBounds_toArray, List.set_cons_zero, List.set_cons_succ]
      refine wpAnyH_ready (rs := [17]) (by kernel_rfl) (by simp) ?_
      refine AllReadyH.cons rfl (fun K hK => ?_) (AllReadyH.nil)
      go_simp
      go_wp2_with (go_at_call 16; refine (HSM3.out _ _ _ Hx1.out hp.out).mono ?_; rintro x x2 ⟨rfl, hb⟩; have Hx2 := hid (Hx1.out.trans (hb.mono Hx1.out.size)); clear hb hp)
      refine hK.out _ _ (HS8.out _ Hx2.out) (fun hHeld => ?_)
      clear hK K
      try simp only [Act.put, List.setIfInBounds_toArray, List.set_cons_zero, List.set_cons_succ]
      refine wpAnyH_take (i := 18) (oi := { dst := some 95, op := Op.unOp UnOp.not 4 (Operand.tmp 94), type := 4, pos := "law.go:84", after := #[{ on := 17, ground := Ground.data }, { on := 13, ground := Ground.guard }], guard := some (13, false) }) (v := ?_) rfl (by kernel_rfl) (by kernel_rfl) (by kernel_rfl) (fun _ _ _ h => h) (Or.inl ⟨by rfl, ?_⟩) hHeld ?_
      rotate_left
      · intro w hSw; (try dsimp only at hSw); go_simp; try with_reducible rfl
      try simp only [Act.put, List.setIfInBounds_toArray, List.set_cons_zero, List.set_cons_succ]
      refine wpAnyH_take (i := 19) (oi := { dst := some 96, op := Op.pick (Operand.tmp 90) (Operand.const (Value.bool true)) (Operand.tmp 95), type := 4, pos := "law.go:84", after := #[{ on := 13, ground := Ground.data }, { on := 18, ground := Ground.data }], guard := none }) (v := ?_) rfl (by kernel_rfl) (by kernel_rfl) (by kernel_rfl) (fun _ _ _ h => h) (Or.inl ⟨by rfl, ?_⟩) hHeld ?_
      rotate_left
      · intro w hSw; (try dsimp only at hSw); go_simp; try with_reducible rfl
      try simp only [Act.put, List.setIfInBounds_toArray, List.set_cons_zero, List.set_cons_succ]
      refine wpAnyH_take (i := 20) (oi := { dst := some 97, op := Op.move (Operand.tmp 96), type := 4, pos := "law.go:84", after := #[{ on := 19, ground := Ground.data }, { on := 17, ground := Ground.chain }], guard := none }) (v := ?_) rfl (by kernel_rfl) (by kernel_rfl) (by kernel_rfl) (fun _ _ _ h => h) (Or.inl ⟨by rfl, ?_⟩) hHeld ?_
      rotate_left
      · intro w hSw; (try dsimp only at hSw); go_simp; try with_reducible rfl
      try simp only [Act.put, List.setIfInBounds_toArray, List.set_cons_zero, List.set_cons_succ]
      refine wpAnyH_take (i := 21) (oi := { dst := some 98, op := Op.move (Operand.tmp 19), type := 31, pos := "law.go:84", after := #[{ on := 20, ground := Ground.guard }], guard := some (20, false) }) (v := ?_) rfl (by kernel_rfl) (by kernel_rfl) (by kernel_rfl) (fun _ _ _ h => h) (Or.inl ⟨by rfl, ?_⟩) hHeld ?_
      rotate_left
      · intro w hSw; (try dsimp only at hSw); go_simp; try with_reducible rfl
      try simp only [Act.put, List.setIfInBounds_toArray, List.set_cons_zero, List.set_cons_succ]
      refine wpAnyH_take (i := 23) (oi := { dst := some 100, op := Op.move (Operand.tmp 21), type := 3, pos := "law.go:84", after := #[{ on := 20, ground := Ground.guard }], guard := some (20, false) }) (v := ?_) rfl (by kernel_rfl) (by kernel_rfl) (by kernel_rfl) (fun _ _ _ h => h) (Or.inl ⟨by rfl, ?_⟩) hHeld ?_
      rotate_left
      · intro w hSw; (try dsimp only at hSw); go_simp; try with_reducible rfl
      try simp only [Act.put, List.setIfInBounds_toArray, List.set_cons_zero, List.set_cons_succ]
      refine wpAnyH_ready (rs := [22]) (by kernel_rfl) (by simp) ?_
      refine AllReadyH.cons rfl (fun K hK => ?_) (AllReadyH.nil)
      go_simp
      go_wp2_with (go_at_call 13; refine (num10_any _ _).mono ?_; rintro x wn ⟨rfl, hwn⟩; obtain rfl := hwn.symm)
      refine hK.out _ _ (HS8.out _ Hx2.out) (fun hHeld => ?_)
      clear hK K
      try simp only [Act.put, List.setIfInBounds_toArray, List.set_cons_zero, List.set_cons_succ]
      refine wpAnyH_take (i := 24) (oi := { dst := some 101, op := Op.binOp BinOp.neq 3 (Operand.tmp 99) (Operand.tmp 100) 3, type := 4, pos := "law.go:84", after := #[{ on := 22, ground := Ground.data }, { on := 23, ground := Ground.data }, { on := 20, ground := Ground.guard }], guard := some (20, false) }) (v := ?_) rfl (by kernel_rfl) (by kernel_rfl) (by kernel_rfl) (fun _ _ _ h => h) (Or.inl ⟨by rfl, ?_⟩) hHeld ?_
      rotate_left
      · intro w hSw; (try dsimp only at hSw); go_simp; try with_reducible rfl
      try simp only [Act.put, List.setIfInBounds_toArray, List.set_cons_zero, List.set_cons_succ]
      refine wpAnyH_take (i := 25) (oi := { dst := some 102, op := Op.pick (Operand.tmp 97) (Operand.const (Value.bool true)) (Operand.tmp 101), type := 4, pos := "law.go:84", after := #[{ on := 20, ground := Ground.data }, { on := 24, ground := Ground.data }], guard := none }) (v := ?_) rfl (by kernel_rfl) (by kernel_rfl) (by kernel_rfl) (fun _ _ _ h => h) (Or.inl ⟨by rfl, ?_⟩) hHeld ?_
      rotate_left
      · intro w hSw; (try dsimp only at hSw); go_simp; try with_reducible rfl
      try simp only [Act.put, List.setIfInBounds_toArray, List.set_cons_zero, List.set_cons_succ]
      refine wpAnyH_take (i := 26) (oi := { dst := some 103, op := Op.move (Operand.tmp 102), type := 4, pos := "law.go:84", after := #[{ on := 25, ground := Ground.data }, { on := 22, ground := Ground.chain }], guard := none }) (v := ?_) rfl (by kernel_rfl) (by kernel_rfl) (by kernel_rfl) (fun _ _ _ h => h) (Or.inl ⟨by rfl, ?_⟩) hHeld ?_
      rotate_left
      · intro w hSw; (try dsimp only at hSw); go_simp; try with_reducible rfl
      try simp only [Act.put, List.setIfInBounds_toArray, List.set_cons_zero, List.set_cons_succ]
      refine wpAnyH_take (i := 27) (oi := { dst := some 104, op := Op.load 28 (Operand.tmp 22), type := 28, pos := "law.go:84", after := #[{ on := 26, ground := Ground.guard }], guard := some (26, false) }) (v := ?_) rfl (by kernel_rfl) (by kernel_rfl) (by kernel_rfl) (fun _ _ _ h => h) (Or.inl ⟨by rfl, ?_⟩) hHeld ?_
      rotate_left
      · intro w hSw; (try dsimp only at hSw); go_simp; try with_reducible rfl
      try simp only [Act.put, List.setIfInBounds_toArray, List.set_cons_zero, List.set_cons_succ]
      refine wpAnyH_take (i := 28) (oi := { dst := some 105, op := Op.load 24 (Operand.tmp 24), type := 24, pos := "law.go:84", after := #[{ on := 26, ground := Ground.guard }], guard := some (26, false) }) (v := ?_) rfl (by kernel_rfl) (by kernel_rfl) (by kernel_rfl) (fun _ _ _ h => h) (Or.inl ⟨by rfl, ?_⟩) hHeld ?_
      rotate_left
      · intro w hSw; (try dsimp only at hSw); go_simp; try with_reducible rfl
      try simp only [Act.put, List.setIfInBounds_toArray, List.set_cons_zero, List.set_cons_succ]
      refine wpAnyH_ready (rs := [29]) (by kernel_rfl) (by simp) ?_
      refine AllReadyH.cons rfl (fun K hK => ?_) (AllReadyH.nil)
      go_simp
      go_wp2_with (go_at_call 7; refine (HO5.out _ Hx2.out).mono ?_; rintro x x3 ⟨adp, cp, rfl, hp, hb⟩; have Hx3 := hid ((Hx2.out).trans (hb.mono (Hx2.out).size)); clear hb)
      refine hK.out _ _ (HS8.out _ Hx3.out) (fun hHeld => ?_)
      clear hK K
      try simp only [Act.put, List.setIfInBounds_toArray, List.set_cons_zero, List.set_cons_succ]
      refine wpAnyH_ready (rs := [30]) (by kernel_rfl) (by simp) ?_
      refine AllReadyH.cons rfl (fun K hK => ?_) (AllReadyH.nil)
      go_simp
      go_wp2_with (go_at_call 16; refine (HSM5.out _ _ _ Hx3.out hp.out).mono ?_; rintro x x4 ⟨rfl, hb⟩; have Hx4 := hid (Hx3.out.trans (hb.mono Hx3.out.size)); clear hb hp)
      refine hK.out _ _ (HS8.out _ Hx4.out) (fun hHeld => ?_)
      clear hK K
      try simp only [Act.put, List.setIfInBounds_toArray, List.set_cons_zero, List.set_cons_succ]
      refine wpAnyH_take (i := 31) (oi := { dst := some 108, op := Op.unOp UnOp.not 4 (Operand.tmp 107), type := 4, pos := "law.go:84", after := #[{ on := 30, ground := Ground.data }, { on := 26, ground := Ground.guard }], guard := some (26, false) }) (v := ?_) rfl (by kernel_rfl) (by kernel_rfl) (by kernel_rfl) (fun _ _ _ h => h) (Or.inl ⟨by rfl, ?_⟩) hHeld ?_
      rotate_left
      · intro w hSw; (try dsimp only at hSw); go_simp; try with_reducible rfl
      try simp only [Act.put, List.setIfInBounds_toArray, List.set_cons_zero, List.set_cons_succ]
      refine wpAnyH_take (i := 32) (oi := { dst := some 109, op := Op.pick (Operand.tmp 103) (Operand.const (Value.bool true)) (Operand.tmp 108), type := 4, pos := "law.go:84", after := #[{ on := 26, ground := Ground.data }, { on := 31, ground := Ground.data }], guard := none }) (v := ?_) rfl (by kernel_rfl) (by kernel_rfl) (by kernel_rfl) (fun _ _ _ h => h) (Or.inl ⟨by rfl, ?_⟩) hHeld ?_
      rotate_left
      · intro w hSw; (try dsimp only at hSw); go_simp; try with_reducible rfl
      try simp only [Act.put, List.setIfInBounds_toArray, List.set_cons_zero, List.set_cons_succ]
      refine wpAnyH_take (i := 33) (oi := { dst := some 110, op := Op.move (Operand.tmp 109), type := 4, pos := "law.go:84", after := #[{ on := 32, ground := Ground.data }, { on := 30, ground := Ground.chain }], guard := none }) (v := ?_) rfl (by kernel_rfl) (by kernel_rfl) (by kernel_rfl) (fun _ _ _ h => h) (Or.inl ⟨by rfl, ?_⟩) hHeld ?_
      rotate_left
      · intro w hSw; (try dsimp only at hSw); go_simp; try with_reducible rfl
      try simp only [Act.put, List.setIfInBounds_toArray, List.set_cons_zero, List.set_cons_succ]
      refine wpAnyH_take (i := 34) (oi := { dst := some 111, op := Op.move (Operand.tmp 23), type := 31, pos := "law.go:84", after := #[{ on := 33, ground := Ground.guard }], guard := some (33, false) }) (v := ?_) rfl (by kernel_rfl) (by kernel_rfl) (by kernel_rfl) (fun _ _ _ h => h) (Or.inl ⟨by rfl, ?_⟩) hHeld ?_
      rotate_left
      · intro w hSw; (try dsimp only at hSw); go_simp; try with_reducible rfl
      try simp only [Act.put, List.setIfInBounds_toArray, List.set_cons_zero, List.set_cons_succ]
      refine wpAnyH_take (i := 36) (oi := { dst := some 113, op := Op.move (Operand.tmp 25), type := 3, pos := "law.go:84", after := #[{ on := 33, ground := Ground.guard }], guard := some (33, false) }) (v := ?_) rfl (by kernel_rfl) (by kernel_rfl) (by kernel_rfl) (fun _ _ _ h => h) (Or.inl ⟨by rfl, ?_⟩) hHeld ?_
      rotate_left
      · intro w hSw; (try dsimp only at hSw); go_simp; try with_reducible rfl
      try simp only [Act.put, List.setIfInBounds_toArray, List.set_cons_zero, List.set_cons_succ]
      refine wpAnyH_ready (rs := [35]) (by kernel_rfl) (by simp) ?_
      refine AllReadyH.cons rfl (fun K hK => ?_) (AllReadyH.nil)
      go_simp
      go_wp2_with (go_at_call 13; refine (num10_any _ _).mono ?_; rintro x wn ⟨rfl, hwn⟩; obtain rfl := hwn.symm)
      refine hK.out _ _ (HS8.out _ Hx4.out) (fun hHeld => ?_)
      clear hK K
      try simp only [Act.put, List.setIfInBounds_toArray, List.set_cons_zero, List.set_cons_succ]
      refine wpAnyH_take (i := 37) (oi := { dst := some 114, op := Op.binOp BinOp.neq 3 (Operand.tmp 112) (Operand.tmp 113) 3, type := 4, pos := "law.go:84", after := #[{ on := 35, ground := Ground.data }, { on := 36, ground := Ground.data }, { on := 33, ground := Ground.guard }], guard := some (33, false) }) (v := ?_) rfl (by kernel_rfl) (by kernel_rfl) (by kernel_rfl) (fun _ _ _ h => h) (Or.inl ⟨by rfl, ?_⟩) hHeld ?_
      rotate_left
      · intro w hSw; (try dsimp only at hSw); go_simp; try with_reducible rfl
      try simp only [Act.put, List.setIfInBounds_toArray, List.set_cons_zero, List.set_cons_succ]
      refine wpAnyH_take (i := 38) (oi := { dst := some 115, op := Op.pick (Operand.tmp 110) (Operand.const (Value.bool true)) (Operand.tmp 114), type := 4, pos := "law.go:84", after := #[{ on := 33, ground := Ground.data }, { on := 37, ground := Ground.data }], guard := none }) (v := ?_) rfl (by kernel_rfl) (by kernel_rfl) (by kernel_rfl) (fun _ _ _ h => h) (Or.inl ⟨by rfl, ?_⟩) hHeld ?_
      rotate_left
      · intro w hSw; (try dsimp only at hSw); go_simp; try with_reducible rfl
      try simp only [Act.put, List.setIfInBounds_toArray, List.set_cons_zero, List.set_cons_succ]
      refine wpAnyH_take (i := 39) (oi := { dst := some 116, op := Op.move (Operand.tmp 115), type := 4, pos := "law.go:84", after := #[{ on := 38, ground := Ground.data }, { on := 35, ground := Ground.chain }], guard := none }) (v := ?_) rfl (by kernel_rfl) (by kernel_rfl) (by kernel_rfl) (fun _ _ _ h => h) (Or.inl ⟨by rfl, ?_⟩) hHeld ?_
      rotate_left
      · intro w hSw; (try dsimp only at hSw); go_simp; try with_reducible rfl
      try simp only [Act.put, List.setIfInBounds_toArray, List.set_cons_zero, List.set_cons_succ]
      refine wpAnyH_take (i := 40) (oi := { dst := some 117, op := Op.load 28 (Operand.tmp 11), type := 28, pos := "law.go:84", after := #[{ on := 39, ground := Ground.guard }], guard := some (39, false) }) (v := ?_) rfl (by kernel_rfl) (by kernel_rfl) (by kernel_rfl) (fun _ _ _ h => h) (Or.inl ⟨by rfl, ?_⟩) hHeld ?_
      rotate_left
      · intro w hSw; (try dsimp only at hSw); go_simp; try with_reducible rfl
      try simp only [Act.put, List.setIfInBounds_toArray, List.set_cons_zero, List.set_cons_succ]
      refine wpAnyH_take (i := 41) (oi := { dst := some 118, op := Op.move (Operand.tmp 3), type := 3, pos := "law.go:84", after := #[{ on := 39, ground := Ground.guard }], guard := some (39, false) }) (v := ?_) rfl (by kernel_rfl) (by kernel_rfl) (by kernel_rfl) (fun _ _ _ h => h) (Or.inl ⟨by rfl, ?_⟩) hHeld ?_
      rotate_left
      · intro w hSw; (try dsimp only at hSw); go_simp; try with_reducible rfl
      try simp only [Act.put, List.setIfInBounds_toArray, List.set_cons_zero, List.set_cons_succ]
      refine wpAnyH_take (i := 43) (oi := { dst := some 120, op := Op.load 24 (Operand.tmp 5), type := 24, pos := "law.go:84", after := #[{ on := 39, ground := Ground.guard }], guard := some (39, false) }) (v := ?_) rfl (by kernel_rfl) (by kernel_rfl) (by kernel_rfl) (fun _ _ _ h => h) (Or.inl ⟨by rfl, ?_⟩) hHeld ?_
      rotate_left
      · intro w hSw; (try dsimp only at hSw); go_simp; try with_reducible rfl
      try simp only [Act.put, List.setIfInBounds_toArray, List.set_cons_zero, List.set_cons_succ]
      refine wpAnyH_take (i := 44) (oi := { dst := some 121, op := Op.move (Operand.tmp 3), type := 3, pos := "law.go:84", after := #[{ on := 39, ground := Ground.guard }], guard := some (39, false) }) (v := ?_) rfl (by kernel_rfl) (by kernel_rfl) (by kernel_rfl) (fun _ _ _ h => h) (Or.inl ⟨by rfl, ?_⟩) hHeld ?_
      rotate_left
      · intro w hSw; (try dsimp only at hSw); go_simp; try with_reducible rfl
      try simp only [Act.put, List.setIfInBounds_toArray, List.set_cons_zero, List.set_cons_succ]
      refine wpAnyH_ready (rs := [42]) (by kernel_rfl) (by simp) ?_
      refine AllReadyH.cons rfl (fun K hK => ?_) (AllReadyH.nil)
      go_simp
      go_wp2_with (go_at_call 26; refine (HE1.out _ (HLL.out _ Hx4.out)).mono ?_; rintro x x5 ⟨rfl, hb⟩; have Hx5 := hid ((Hx4.out).trans (hb.mono (Hx4.out).size)); clear hb)
      refine hK.out _ _ (HS8.out _ Hx5.out) (fun hHeld => ?_)
      clear hK K
      try simp only [Act.put, List.setIfInBounds_toArray, List.set_cons_zero, List.set_cons_succ]
      refine wpAnyH_ready (rs := [45]) (by kernel_rfl) (by simp) ?_
      refine AllReadyH.cons rfl (fun K hK => ?_) (AllReadyH.nil)
      go_simp
      go_wp2_with (go_at_call 27; refine (HE2.out _ (HLL.out _ Hx5.out)).mono ?_; rintro x x6 ⟨rfl, hb⟩; have Hx6 := hid ((Hx5.out).trans (hb.mono (Hx5.out).size)); clear hb)
      refine hK.out _ _ (HS8.out _ Hx6.out) (fun hHeld => ?_)
      clear hK K
      try simp only [Act.put, List.setIfInBounds_toArray, List.set_cons_zero, List.set_cons_succ]
      refine wpAnyH_take (i := 46) (oi := { dst := some 123, op := Op.binOp BinOp.neq 3 (Operand.tmp 119) (Operand.tmp 122) 3, type := 4, pos := "law.go:84", after := #[{ on := 42, ground := Ground.data }, { on := 45, ground := Ground.data }, { on := 39, ground := Ground.guard }], guard := some (39, false) }) (v := ?_) rfl (by kernel_rfl) (by kernel_rfl) (by kernel_rfl) (fun _ _ _ h => h) (Or.inl ⟨by rfl, ?_⟩) hHeld ?_
      rotate_left
      · intro w hSw; (try dsimp only at hSw); go_simp; try with_reducible rfl
      try simp only [Act.put, List.setIfInBounds_toArray, List.set_cons_zero, List.set_cons_succ]
      refine wpAnyH_take (i := 47) (oi := { dst := some 124, op := Op.pick (Operand.tmp 116) (Operand.const (Value.bool true)) (Operand.tmp 123), type := 4, pos := "law.go:84", after := #[{ on := 39, ground := Ground.data }, { on := 46, ground := Ground.data }], guard := none }) (v := ?_) rfl (by kernel_rfl) (by kernel_rfl) (by kernel_rfl) (fun _ _ _ h => h) (Or.inl ⟨by rfl, ?_⟩) hHeld ?_
      rotate_left
      · intro w hSw; (try dsimp only at hSw); go_simp; try with_reducible rfl
      try simp only [Act.put, List.setIfInBounds_toArray, List.set_cons_zero, List.set_cons_succ]
      refine wpAnyH_done (by kernel_rfl) ?_ _
      go_wp2_with fail
      go_meet
      exact ⟨rfl, Hx6⟩

    case rest =>
      obtain ⟨rfl, HWC⟩ := hcut
      have HK2c := hid (HK2.out.later HWC.out)
      have HA2c := hid (HA2.out.later HWC.out)
      have HLc := hid (HLL.out _ HWC.out)
      obtain ⟨A3, hA3, hB3, hT3⟩ := HA2c.out.arg
      have HF := hid (⟨hA3, hB3, hT3⟩ : CArg wc C.parts A3 ad2 m2 c2 ∧ CBlk (fun b => w4.heap.size ≤ b) A3 ad2 m2 ∧ Typ wc A3 m2)
      have hm2 : m2 ≤ 9223372036854775807 := by have := hA3.cap; have := hA3.room; unfold maxLen at this; omega
      have HG : Hid (∀ X, NegI w4.heap.size wc X → X.cell? ⟨G, 2, none⟩ = some (.slice ad2 m2 c2)) := hid (fun X hX => hX.cell _ _ (HK2c.out.cell 2) (fun x hx => by cases hx))
      clear hA3 hB3 hT3 HO3 HO5 HSM3 HSM5 HE1 HE2 HS8 HK2 HK3 HK4 HK5 HAA3 HAA4 HAA5 HA2 HK2c HA2c HWC HLL HL8
      have HS17 : Hid (∀ W, Below w4.heap.size w4 W → (W.cell? ⟨gx, 0, none⟩ = some (.int .i64 o) ∧ W.cell? ⟨gx, 1, none⟩ = some (.int .i64 t) ∧ W.cell? ⟨gx, 2, none⟩ = some (.slice adx m cx)) ∧ (W.cell? ⟨w.heap.size, 0, none⟩ = some (.int .i64 o) ∧ W.cell? ⟨w.heap.size, 1, none⟩ = some (.int .i64 t) ∧ W.cell? ⟨w.heap.size, 2, none⟩ = some (.slice ad m c))) := hid (fun W hW => ⟨(HS.out W hW).1, HSc.out W hW⟩)
      clear HS HSc
      go_wp2_with fail
      go_loopw [26] (fun i wr => ∃ j : Nat, j ≤ m2 ∧ i = .int .i64 j ∧ Hid (NegI w4.heap.size wc wr)) (fun i _ => m2 - (intOf i).toNat)
      case atStart => exact ⟨0, by omega, rfl, hid (NegI.refl _ _)⟩
      case round =>
        obtain ⟨j, hj, rfl, HN⟩ := hrel
        have g2 := HG.out wr HN.out
        by_cases hlt : j < m2
        · have hlti : decide ((j : Int) < (m2 : Int)) = true := by simp; omega
          have HLK := hid (fun (X : World) (hX : NegI w4.heap.size wc X) => hX.look HF.out.1 HF.out.2.1 HF.out.2.2 j hlt)
          have hz := (HLK.out wr HN.out).2.1
          obtain ⟨⟨b, off, rfl, -⟩, -, -⟩ := HLK.out wr HN.out
          generalize A3 j = s3 at *
          obtain ⟨ad3', m3', c3'⟩ := s3
          simp only at hz
          go_wp2_with fail
          go_loopw [27] (fun i wr => ∃ k : Nat, k ≤ m3' ∧ i = .int .i64 k ∧ Hid (NegI w4.heap.size wc wr)) (fun i _ => m3' - (intOf i).toNat)
          case atStart => exact ⟨0, by omega, rfl, HN⟩
          case round =>
            obtain ⟨k, hk, rfl, HN2⟩ := hrel
            have g2' := HG.out wr HN2.out
            obtain ⟨⟨b', off', e', hc'⟩, -, hst⟩ := HLK.out wr HN2.out
            cases e'
            by_cases hl2 : k < m3'
            · have hl2i : decide ((k : Int) < (m3' : Int)) = true := by simp; omega
              obtain ⟨b2, off2, e2, ⟨y, hy⟩, hf, hneg⟩ := hst k hl2
              have HNG := hid hneg
              clear hneg hst
              subst e2
              go_wp2_with fail
              exact ⟨⟨k + 1, by omega, by go_num, HNG⟩, by simp [intOf]; omega⟩
            · obtain rfl : k = m3' := by omega
              have hl2i : decide ((k : Int) < (k : Int)) = false := by simp
              clear hst
              go_wp2_with fail
              exact ⟨⟨j + 1, by omega, by go_num, HN2⟩, by simp [intOf]; omega⟩
        · obtain rfl : j = m2 := by omega
          have hlti : decide ((j : Int) < (j : Int)) = false := by simp
          have HWR : Hid (Below w4.heap.size w4 wr) := hid (HLc.out.trans HN.out.below)
          go_wp2_with fail
          refine wp_region_held_drew (S := fun W => (W.cell? ⟨gx, 0, none⟩ = some (.int .i64 o) ∧ W.cell? ⟨gx, 1, none⟩ = some (.int .i64 t) ∧ W.cell? ⟨gx, 2, none⟩ = some (.slice adx m cx)) ∧ (W.cell? ⟨w.heap.size, 0, none⟩ = some (.int .i64 o) ∧ W.cell? ⟨w.heap.size, 1, none⟩ = some (.int .i64 t) ∧ W.cell? ⟨w.heap.size, 2, none⟩ = some (.slice ad m c))) (by kernel_rfl) (HS17.out _ (HWR.out.drew)) (fun hHeld => ?_)
          refine wpAnyH_take (i := 0) (oi := { dst := some 153, op := Op.load 28 (Operand.tmp 11), type := 28, pos := "law.go:92", after := #[], guard := none }) (v := ?_) rfl (by kernel_rfl) (by kernel_rfl) (by kernel_rfl) (fun _ _ _ h => h) (Or.inl ⟨by rfl, ?_⟩) hHeld ?_
          rotate_left
          · intro w hSw; (try dsimp only at hSw); go_simp; try with_reducible rfl
          try simp only [Act.put, List.setIfInBounds_toArray, List.set_cons_zero, List.set_cons_succ]
          refine wpAnyH_take (i := 1) (oi := { dst := some 154, op := Op.load 24 (Operand.tmp 5), type := 24, pos := "law.go:92", after := #[], guard := none }) (v := ?_) rfl (by kernel_rfl) (by kernel_rfl) (by kernel_rfl) (fun _ _ _ h => h) (Or.inl ⟨by rfl, ?_⟩) hHeld ?_
          rotate_left
          · intro w hSw; (try dsimp only at hSw); go_simp; try with_reducible rfl
          try simp only [Act.put, List.setIfInBounds_toArray, List.set_cons_zero, List.set_cons_succ]
          refine wpAnyH_ready (rs := [2]) (by kernel_rfl) (by simp) ?_
          refine AllReadyH.cons rfl (fun K hK => ?_) (AllReadyH.nil)
          go_simp
          go_wp2_with (go_at_call 7; refine (HOc.out _ HWR.out.drew).mono ?_; rintro x x7 ⟨adp, cp, rfl, hp, hb⟩; have Hx7 := hid (HWR.out.drew.trans (hb.mono HWR.out.drew.size)); clear hb)
          refine hK.out _ _ (HS17.out _ Hx7.out) (fun hHeld => ?_)
          clear hK K
          try simp only [Act.put, List.setIfInBounds_toArray, List.set_cons_zero, List.set_cons_succ]
          refine wpAnyH_ready (rs := [3]) (by kernel_rfl) (by simp) ?_
          refine AllReadyH.cons rfl (fun K hK => ?_) (AllReadyH.nil)
          go_simp
          go_wp2_with (go_at_call 16; refine (HSMc.out _ _ _ Hx7.out hp.out).mono ?_; rintro x x8 ⟨rfl, hb⟩; have Hx8 := hid (Hx7.out.trans (hb.mono Hx7.out.size)); clear hb hp)
          refine hK.out _ _ (HS17.out _ Hx8.out) (fun hHeld => ?_)
          clear hK K
          try simp only [Act.put, List.setIfInBounds_toArray, List.set_cons_zero, List.set_cons_succ]
          refine wpAnyH_take (i := 4) (oi := { dst := some 157, op := Op.move (Operand.tmp 156), type := 4, pos := "law.go:92", after := #[{ on := 3, ground := Ground.data }, { on := 3, ground := Ground.chain }], guard := none }) (v := ?_) rfl (by kernel_rfl) (by kernel_rfl) (by kernel_rfl) (fun _ _ _ h => h) (Or.inl ⟨by rfl, ?_⟩) hHeld ?_
          rotate_left
          · intro w hSw; (try dsimp only at hSw); go_simp; try with_reducible rfl
          try simp only [Act.put, List.setIfInBounds_toArray, List.set_cons_zero, List.set_cons_succ]
          refine wpAnyH_ready (rs := [5]) (by kernel_rfl) (by simp) ?_
          refine AllReadyH.cons rfl (fun K hK => ?_) (AllReadyH.nil)
          go_simp
          go_wp2_with (go_at_call 18; refine (knows10 _).mono ?_; rintro x x9 ⟨rfl, hb⟩; have Hx9 := hid (Hx8.out.trans (hb.mono Hx8.out.size)); clear hb)
          refine hK.out _ _ (HS17.out _ Hx9.out) (fun hHeld => ?_)
          clear hK K
          try simp only [Act.put, List.setIfInBounds_toArray, List.set_cons_zero, List.set_cons_succ]
          refine wpAnyH_take (i := 6) (oi := { dst := some 159, op := Op.pick (Operand.tmp 157) (Operand.tmp 158) (Operand.const (Value.bool false)), type := 4, pos := "law.go:92", after := #[{ on := 4, ground := Ground.data }, { on := 5, ground := Ground.data }], guard := none }) (v := ?_) rfl (by kernel_rfl) (by kernel_rfl) (by kernel_rfl) (fun _ _ _ h => h) (Or.inl ⟨by rfl, ?_⟩) hHeld ?_
          rotate_left
          · intro w hSw; (try dsimp only at hSw); go_simp; try with_reducible rfl
          try simp only [Act.put, List.setIfInBounds_toArray, List.set_cons_zero, List.set_cons_succ]
          refine wpAnyH_take (i := 7) (oi := { dst := some 10, op := Op.assign (Operand.tmp 159), type := 4, pos := "law.go:92", after := #[{ on := 6, ground := Ground.data }, { on := 5, ground := Ground.chain }, { on := 0, ground := Ground.phase }, { on := 1, ground := Ground.phase }, { on := 2, ground := Ground.phase }, { on := 3, ground := Ground.phase }, { on := 4, ground := Ground.phase }, { on := 5, ground := Ground.phase }, { on := 6, ground := Ground.phase }], guard := none }) (v := ?_) rfl (by kernel_rfl) (by kernel_rfl) (by kernel_rfl) (fun _ _ _ h => h) (Or.inl ⟨by rfl, ?_⟩) hHeld ?_
          rotate_left
          · intro w hSw; (try dsimp only at hSw); go_simp; try with_reducible rfl
          try simp only [Act.put, List.setIfInBounds_toArray, List.set_cons_zero, List.set_cons_succ]
          refine wpAnyH_done (by kernel_rfl) ?_ _
          go_wp2_with fail
          go_ret
          exact ⟨rfl, HBW4.out _ Hx9.out⟩
end Go.Proofs.Ythadagpfmacemaa
