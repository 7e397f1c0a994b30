/- write of the document's package (by genrwrite.py). -/
import Derived.Test.YthadagpfmacemaaCTell
import Derived.Test.YthadagpfmacemaaRefBytes
import Derived.Deep.DeepCutAuto
namespace Go.Proofs.Ythadagpfmacemaa.Rf
open Go.RowKit
variable {w w' W X : World} {l : List Pt} {A : Nat → Sl} {ad : Option Addr} {m c : Nat} {o t : Int} {B : List Nat} {v : Value}

theorem run_app_bytes {w : World} {base n : Nat} {v : Value} {L : List Nat} (hown : w.ownsRow base 5 1 v n (L.map bv)) (ty : TypeId) (ad : Option Addr) (m c : Nat) (l : List Nat) (hl : l.length = m) (hnone : ad = none → m = 0 ∧ c = 0) (hrow : Row w ad l) (hbytes : n + m ≤ 140737488355328) (hbase : base ≤ w.heap.size) :
    ∃ v' w', (Builtin.append_ #[25, 25] ty #[v, .slice ad m c]).run Try.prog w = .ok v' w' ∧ w'.ownsRow base 5 1 v' (n + m) ((L ++ l).map bv) ∧ w.grownBy w' v.ownBlock := by
  obtain ⟨i0, hi, hz0, hz1, hz2⟩ := info_parts Try.info5
  cases ad with
  | none =>
    obtain ⟨rfl, rfl⟩ := hnone rfl
    obtain rfl : l = [] := List.eq_nil_of_length_eq_zero hl
    exact ⟨v, w, run_append_owned_none (P := Try.prog) (w := w) base 25 ty 5 i0 1 Try.underlying25 hi v n _ hown, by simpa using hown, World.grownBy.refl _ _⟩
  | some ad =>
    obtain ⟨v', w', hr, h2, h3, -⟩ := run_append_own (P := Try.prog) w base 25 ty 5 i0 (.int .u8 0) 1 1 Try.underlying25 hi hz0 hz1 hz2 rfl (by decide) v n _ hown ad m c (l.map bv) (by simp [hl]) (row_cells hrow ad rfl) (fun u hu => by obtain ⟨z, _, rfl⟩ := List.mem_map.1 hu; rfl) (by unfold maxLen; omega) (by omega) hbase
    exact ⟨v', w', hr, by rw [List.map_append]; exact h2, h3⟩
theorem step_app_bytes {w : World} {ops : Array Oper} {o : Oper} {a : Act} {K : Act → World → Prop} {Q : Exit → Act → World → Prop} {E : Prop} (hgd : o.guard = none) (s x : Operand) (ho : o.op = .call { callee := .builtin .append, args := #[s, x], argTypes := #[25, 25] })
    (base : Nat) (v : Value) (n : Nat) (L : List Nat) (hs : a.eval s = v) (hown : w.ownsRow base 5 1 v n (L.map bv)) (ad : Option Addr) (m c : Nat) (l : List Nat) (hx : a.eval x = .slice ad m c) (hl : l.length = m) (hnone : ad = none → m = 0 ∧ c = 0) (hrow : Row w ad l)
    (hbytes : n + m ≤ 140737488355328) (hbase : base ≤ w.heap.size)
    (h : ∀ v' w', w'.ownsRow base 5 1 v' (n + m) ((L ++ l).map bv) → w.grownBy w' v.ownBlock → K (a.put o.dst v') w') : if Region.wanted o (yielded ops a.tmps) = true then Oper.wp Try.prog o a w K Q else E := by
  obtain ⟨v', w', hrun, h1, h2⟩ := run_app_bytes hown o.type ad m c l hl hnone hrow hbytes hbase
  rw [if_pos (by simp [Region.wanted, hgd])]
  unfold Oper.wp
  simp [execOp, ho, resolve, invoke, builtin, hs, hx, hrun, Result.andThen]
  exact h v' w' h1 h2
theorem lit_own' (w : World) (x : Int) (h0 : 0 ≤ x) (h1 : x < 256) {base : Nat} (hb : base ≤ w.heap.size) : (w.alloc (.cells #[.int .u8 x] 5)).ownsRow base 5 1 (.slice (some ⟨w.heap.size, 0, none⟩) 1 1) 1 (([x.toNat] : List Nat).map bv) := by
  have := World.ownsRow_lit (e := 5) (size := 1) (base := base) w #[.int .u8 x] 1 hb (by unfold maxLen; omega) rfl
  have e : ([x.toNat] : List Nat).map bv = [.int .u8 x] := by simp [bv]; omega
  rw [e]
  exact this
theorem lit_ownG (w : World) (g : Nat) (x : Int) (h0 : 0 ≤ x) (h1 : x < 256) {base : Nat} (hb : base ≤ w.heap.size) (hg : w.heap.size = g) : (w.alloc (.cells #[.int .u8 x] 5)).ownsRow base 5 1 (.slice (some ⟨g, 0, none⟩) 1 1) 1 (([x.toNat] : List Nat).map bv) := by subst hg; exact lit_own' w x h0 h1 hb
/-- write in its midst. -/
structure WriteW (w : World) (o t : Int) (ad : Option Addr) (m c : Nat) (B : List Nat) (v : Value) (W : World) : Prop where
  own : OwnB W (w.heap.size + 1) v B
  box : Blk W w.heap.size #[.int .i64 o, .int .i64 t, .slice ad m c] 24
  below : Below w.heap.size w W
theorem WriteW.later (h : WriteW w o t ad m c B v W) (hb : Below W.heap.size W X) : WriteW w o t ad m c B v X := ⟨own_kept h.own hb, h.box.later hb, h.below.trans (hb.mono h.below.size)⟩
theorem WriteW.size (h : WriteW w o t ad m c B v W) : w.heap.size + 1 ≤ W.heap.size := h.box.lt
theorem WriteW.app {v' : Value} {b : List Nat} {k : Nat} (h : WriteW w o t ad m c B v X) (hk : b.length = k) (r1 : W.ownsRow (w.heap.size + 1) 5 1 v' (B.length + k) ((B ++ b).map bv)) (r2 : X.grownBy W v.ownBlock) : WriteW w o t ad m c (B ++ b) v' W ∧ KeepU (w.heap.size + 1) X W := by
  have kp := KeepU.grown h.own r2 h.size
  exact ⟨⟨by unfold OwnB; rw [List.length_append, hk]; exact r1, h.box.keepU kp (by decide), h.below.trans (kp.below.mono (by omega))⟩, kp⟩
theorem row_lit (w : World) (x : Nat) (hx : x < 256) : Row (w.alloc (.cells #[.int .u8 ((x : Nat) : Int)] 5)) (some ⟨w.heap.size, 0, none⟩) [x] := by
  have hb : Blk (w.alloc (.cells #[.int .u8 ((x : Nat) : Int)] 5)) w.heap.size #[.int .u8 ((x : Nat) : Int)] 5 := heap_alloc_new w _
  refine ⟨fun y hy => by simp at hy; subst hy; exact hx, Or.inr ⟨w.heap.size, 0, rfl, hb.lt, fun i hi => ?_⟩⟩
  obtain rfl : i = 0 := by simp at hi; omega
  exact hb.cell 0
theorem puts1 (x : Nat) (hx : x < 256) : putsN 1 [(x : Int)] = [x] := by
  unfold putsN
  rw [List.flatMap_cons, List.flatMap_nil, List.append_nil, Int.toNat_natCast]
  exact spell_one x (by omega)
set_option maxRecDepth 100000 in
set_option maxHeartbeats 8000000 in
theorem write_any (h : CArg w l A ad m c) (ho : 0 ≤ o ∧ o < 256) (ht : 0 ≤ t ∧ t < 281474976710656) (hm : m ≤ 64) (hf : ∀ i, i < m → FitP (ptAt l i)) :
    Calls Try.prog 33 #[.agg #[.int .i64 o, .int .i64 t, .slice ad m c]] w fun e w' => ∃ v, e = .returned v ∧ Hid (OwnB w' (w.heap.size + 1) v (tellN o t l) ∧ Below w.heap.size w w') := by
  have hl := h.len
  have HF := hid hf
  have HC : Hid (∀ W, Below w.heap.size w W → CArg W l A ad m c) := hid (fun W hW => h.later hW)
  have HBX : Hid (∀ W, Below (w.alloc (.cells #[.int .i64 o, .int .i64 t, .slice ad m c] 24)).heap.size (w.alloc (.cells #[.int .i64 o, .int .i64 t, .slice ad m c] 24)) W → Blk W w.heap.size #[.int .i64 o, .int .i64 t, .slice ad m c] 24 ∧ Below w.heap.size w W) := hid (fun W hW => ⟨(show Blk (w.alloc (.cells #[.int .i64 o, .int .i64 t, .slice ad m c] 24)) w.heap.size _ _ from heap_alloc_new w _).later hW, ((Below.refl _ w).alloc (Nat.le_refl _) _).trans (hW.mono (by simp))⟩)
  have HS1 : Hid (∀ W, Below (w.alloc (.cells #[.int .i64 o, .int .i64 t, .slice ad m c] 24)).heap.size (w.alloc (.cells #[.int .i64 o, .int .i64 t, .slice ad m c] 24)) W → W.cell? ⟨w.heap.size, 0, none⟩ = some (.int .i64 o) ∧ W.cell? ⟨w.heap.size, 1, none⟩ = some (.int .i64 t)) := hid (fun W hW => ⟨(HBX.out W hW).1.cell 0, (HBX.out W hW).1.cell 1⟩)
  have HBY : Hid (∀ X, Below (w.alloc (.cells #[.int .i64 o, .int .i64 t, .slice ad m c] 24)).heap.size (w.alloc (.cells #[.int .i64 o, .int .i64 t, .slice ad m c] 24)) X → Calls Try.prog 57 #[.int .i64 t, .int .i64 6] X fun e w' => ∃ ad' c', e = .returned (.slice ad' 6 c') ∧ Hid (Part.ok w' ⟨ad', 6, c', spellN t.toNat 6⟩ ∧ Below X.heap.size X w')) := hid (fun X hX => by
    have := bytes_any t.toNat 6 X (by omega)
    rw [Int.toNat_of_nonneg ht.1] at this
    refine this.mono (fun e w' hh => ?_)
    obtain ⟨vv, rfl, hw, hb⟩ := hh
    obtain ⟨ad', c', rfl, hk, -⟩ := hw.slice 6 (spellN_length _ _)
    exact ⟨ad', c', rfl, hid ⟨hk, hb⟩⟩)
  have HN1 : Hid (∀ (X w4 : World) (v v4 : Value), Below (w.alloc (.cells #[.int .i64 o, .int .i64 t, .slice ad m c] 24)).heap.size (w.alloc (.cells #[.int .i64 o, .int .i64 t, .slice ad m c] 24)) X → X.ownsRow (w.heap.size + 1) 5 1 v 1 (([o.toNat] : List Nat).map bv) → w4.ownsRow (w.heap.size + 1) 5 1 v4 (1 + 6) (([o.toNat] ++ spellN t.toNat 6).map bv) → X.grownBy w4 v.ownBlock → (w4.cell? ⟨w.heap.size, 0, none⟩ = some (.int .i64 o) ∧ w4.cell? ⟨w.heap.size, 1, none⟩ = some (.int .i64 t)) ∧ ∃ adv nv cv, v4 = .slice adv nv cv ∧ Hid (WriteW w o t ad m c (putsN 1 [o] ++ putsN 6 [t]) v4 w4)) := hid (fun X w4 v v4 hX h1 r1 r2 => by
    obtain ⟨hb, hbl⟩ := HBX.out X hX
    have hw : WriteW w o t ad m c [o.toNat] v X := ⟨h1, hb, hbl⟩
    obtain ⟨h4, -⟩ := hw.app (spellN_length t.toNat 6) r1 r2
    obtain ⟨adv, nv, cv, hv⟩ := owns_slice' r1
    refine ⟨⟨h4.box.cell 0, h4.box.cell 1⟩, adv, nv, cv, hv, hid ?_⟩
    have e : putsN 1 [o] ++ putsN 6 [t] = [o.toNat] ++ spellN t.toNat 6 := by
      unfold putsN
      simp only [List.flatMap_cons, List.flatMap_nil, List.append_nil]
      rw [spell_one o.toNat (by omega)]
    rw [e]
    exact h4)
  have hw8 : IntKind.u8.wrap o = o := by rw [IntKind.wrap_u8]; omega
  clear h hf
  go_enter Try.func33, Try.ntmps33
  go_upto_region 1 with fail
  go_cut [3] (fun x3 wx => ∃ v, x3 = v ∧ Hid (WriteW w o t ad m c (putsN 1 [o] ++ putsN 6 [t]) v wx))
  case first =>
    refine wp_region_held_drew (S := fun W => W.cell? ⟨w.heap.size, 0, none⟩ = some (.int .i64 o) ∧ W.cell? ⟨w.heap.size, 1, none⟩ = some (.int .i64 t)) (by kernel_rfl) (HS1.out _ (Below.refl _ _).drew) (fun hHeld => ?_)
    refine wpAnyH_take (i := 0) (oi := { dst := some 7, op := Op.fieldAddr 24 (Operand.tmp 1) 0, type := 0, pos := "ref.go:65", after := #[], guard := none }) (v := ?_) rfl (by kernel_rfl) (by kernel_rfl) (by kernel_rfl) (fun _ _ _ h => h) (Or.inl ⟨by rfl, ?_⟩) hHeld ?_
    rotate_left
    · intro w hSw; (try dsimp only at hSw); go_simp; try with_reducible rfl
    try simp only [Act.put, List.setIfInBounds_toArray, List.set_cons_zero, List.set_cons_succ]
    refine wpAnyH_take (i := 1) (oi := { dst := some 8, op := Op.load 3 (Operand.tmp 7), type := 3, pos := "ref.go:65", after := #[{ on := 0, ground := Ground.data }], guard := none }) (v := ?_) rfl (by kernel_rfl) (by kernel_rfl) (by kernel_rfl) (fun _ _ _ h => h) (Or.inl ⟨by rfl, ?_⟩) hHeld ?_
    rotate_left
    · intro w hSw; (try dsimp only at hSw); go_simp; try with_reducible rfl
    try simp only [Act.put, List.setIfInBounds_toArray, List.set_cons_zero, List.set_cons_succ]
    refine wpAnyH_take (i := 2) (oi := { dst := some 9, op := Op.convert 3 5 (Operand.tmp 8), type := 5, pos := "ref.go:65", after := #[{ on := 1, ground := Ground.data }], guard := none }) (v := ?_) rfl (by kernel_rfl) (by kernel_rfl) (by kernel_rfl) (fun _ _ _ h => h) (Or.inl ⟨by rfl, ?_⟩) hHeld ?_
    rotate_left
    · intro w hSw; (try dsimp only at hSw); go_simp; try with_reducible rfl
    try simp only [Act.put, List.setIfInBounds_toArray, List.set_cons_zero, List.set_cons_succ]
    refine wpAnyH_take (i := 4) (oi := { dst := some 11, op := Op.fieldAddr 24 (Operand.tmp 1) 1, type := 0, pos := "ref.go:65", after := #[], guard := none }) (v := ?_) rfl (by kernel_rfl) (by kernel_rfl) (by kernel_rfl) (fun _ _ _ h => h) (Or.inl ⟨by rfl, ?_⟩) hHeld ?_
    rotate_left
    · intro w hSw; (try dsimp only at hSw); go_simp; try with_reducible rfl
    try simp only [Act.put, List.setIfInBounds_toArray, List.set_cons_zero, List.set_cons_succ]
    refine wpAnyH_take (i := 5) (oi := { dst := some 12, op := Op.load 3 (Operand.tmp 11), type := 3, pos := "ref.go:65", after := #[{ on := 4, ground := Ground.data }], guard := none }) (v := ?_) rfl (by kernel_rfl) (by kernel_rfl) (by kernel_rfl) (fun _ _ _ h => h) (Or.inl ⟨by rfl, ?_⟩) hHeld ?_
    rotate_left
    · intro w hSw; (try dsimp only at hSw); go_simp; try with_reducible rfl
    try simp only [Act.put, List.setIfInBounds_toArray, List.set_cons_zero, List.set_cons_succ]
    refine wpAnyH_ready (rs := [3, 6]) (by kernel_rfl) (by simp) ?_
    refine AllReadyH.cons rfl (fun K hK => ?_) (AllReadyH.cons rfl (fun K hK => ?_) (AllReadyH.nil))
    · skip
      have HB2 : Hid (Below (w.alloc (.cells #[.int .i64 o, .int .i64 t, .slice ad m c] 24)).heap.size (w.alloc (.cells #[.int .i64 o, .int .i64 t, .slice ad m c] 24)) ((w.alloc (.cells #[.int .i64 o, .int .i64 t, .slice ad m c] 24)).drew.alloc (.cells #[.int .u8 o] 5))) := hid (((Below.refl _ _).drew).alloc (by simp) _)
      go_simp
      refine hK.out _ _ (HS1.out _ HB2.out) (fun hHeld => ?_)
      clear hK K
      try simp only [Act.put, List.setIfInBounds_toArray, List.set_cons_zero, List.set_cons_succ]
      refine wpAnyH_ready (rs := [6]) (by kernel_rfl) (by simp) ?_
      refine AllReadyH.cons rfl (fun K hK => ?_) (AllReadyH.nil)
      go_simp
      go_wp2_with (go_at_call 57; refine (HBY.out _ HB2.out).mono ?_; rintro x w3 ⟨ad3, c3, rfl, hh⟩; have H3 := hid hh.out; have HB3 := hid (HB2.out.trans (hh.out.2.mono HB2.out.size)); clear hh)
      refine hK.out _ _ (HS1.out _ HB3.out) (fun hHeld => ?_)
      clear hK K
      try simp only [Act.put, List.setIfInBounds_toArray, List.set_cons_zero, List.set_cons_succ]
      refine wpAnyH_ready (rs := [7]) (by kernel_rfl) (by simp) ?_
      refine AllReadyH.cons rfl (fun K hK => ?_) (AllReadyH.nil)
      refine step_app_bytes rfl _ _ rfl (w.heap.size + 1) (.slice (some ⟨w.heap.size + 1, 0, none⟩) 1 1) 1 [o.toNat] rfl (own_kept (lit_ownG (base := w.heap.size + 1) (w.alloc (.cells #[.int .i64 o, .int .i64 t, .slice ad m c] 24)).drew (w.heap.size + 1) o ho.1 ho.2 (by simp) (by simp)) H3.out.2) ad3 6 c3 (spellN t.toNat 6) rfl (spellN_length _ _) H3.out.1.2.1 (H3.out.1.2.2) (by omega) (by have := HB3.out.size; simp at this; omega) ?_
      intro v4 w4 r1 r2
      have H4 := hid (HN1.out _ w4 _ v4 HB3.out (own_kept (lit_ownG (base := w.heap.size + 1) (w.alloc (.cells #[.int .i64 o, .int .i64 t, .slice ad m c] 24)).drew (w.heap.size + 1) o ho.1 ho.2 (by simp) (by simp)) H3.out.2) r1 r2)
      obtain ⟨⟨z0, z1⟩, adv, nv, cv, rfl, HW4⟩ := H4.out
      clear r1 r2
      refine hK.out _ _ (⟨z0, z1⟩) (fun hHeld => ?_)
      clear hK K
      refine wpAnyH_take (i := 8) (oi := { dst := some 3, op := Op.assign (Operand.tmp 14), type := 25, pos := "ref.go:65", after := #[{ on := 7, ground := Ground.data }, { on := 7, ground := Ground.chain }, { on := 0, ground := Ground.phase }, { on := 1, ground := Ground.phase }, { on := 2, ground := Ground.phase }, { on := 3, ground := Ground.phase }, { on := 4, ground := Ground.phase }, { on := 5, ground := Ground.phase }, { on := 6, ground := Ground.phase }, { on := 7, ground := Ground.phase }], guard := none }) (v := ?_) rfl (by kernel_rfl) (by kernel_rfl) (by kernel_rfl) (fun _ _ _ h => h) (Or.inl ⟨by rfl, ?_⟩) hHeld ?_
      rotate_left
      · intro w hSw; (try dsimp only at hSw); go_simp; try with_reducible rfl
      refine wpAnyH_done (by kernel_rfl) ?_ _
      go_wp2_with fail
      go_meet
      exact ⟨_, rfl, hid HW4.out⟩
    · skip
      go_simp
      go_wp2_with (go_at_call 57; refine (HBY.out _ (Below.refl (w.alloc (.cells #[.int .i64 o, .int .i64 t, .slice ad m c] 24)).heap.size (w.alloc (.cells #[.int .i64 o, .int .i64 t, .slice ad m c] 24))).drew).mono ?_; rintro x w3 ⟨ad3, c3, rfl, hh⟩; have H3 := hid hh.out; have HB3 := hid (((Below.refl (w.alloc (.cells #[.int .i64 o, .int .i64 t, .slice ad m c] 24)).heap.size (w.alloc (.cells #[.int .i64 o, .int .i64 t, .slice ad m c] 24))).drew).trans (hh.out.2.mono ((Below.refl (w.alloc (.cells #[.int .i64 o, .int .i64 t, .slice ad m c] 24)).heap.size (w.alloc (.cells #[.int .i64 o, .int .i64 t, .slice ad m c] 24))).drew).size)); clear hh)
      refine hK.out _ _ (HS1.out _ HB3.out) (fun hHeld => ?_)
      clear hK K
      try simp only [Act.put, List.setIfInBounds_toArray, List.set_cons_zero, List.set_cons_succ]
      refine wpAnyH_ready (rs := [3]) (by kernel_rfl) (by simp) ?_
      refine AllReadyH.cons rfl (fun K hK => ?_) (AllReadyH.nil)
      have HB4 : Hid (Below (w.alloc (.cells #[.int .i64 o, .int .i64 t, .slice ad m c] 24)).heap.size (w.alloc (.cells #[.int .i64 o, .int .i64 t, .slice ad m c] 24)) (w3.alloc (.cells #[.int .u8 o] 5))) := hid (HB3.out.alloc HB3.out.size _)
      go_simp
      refine hK.out _ _ (HS1.out _ HB4.out) (fun hHeld => ?_)
      clear hK K
      try simp only [Act.put, List.setIfInBounds_toArray, List.set_cons_zero, List.set_cons_succ]
      refine wpAnyH_ready (rs := [7]) (by kernel_rfl) (by simp) ?_
      refine AllReadyH.cons rfl (fun K hK => ?_) (AllReadyH.nil)
      refine step_app_bytes rfl _ _ rfl (w.heap.size + 1) (.slice (some ⟨w3.heap.size, 0, none⟩) 1 1) 1 [o.toNat] rfl (lit_own' (base := w.heap.size + 1) w3 o ho.1 ho.2 (by have := HB3.out.size; simp at this; omega)) ad3 6 c3 (spellN t.toNat 6) rfl (spellN_length _ _) H3.out.1.2.1 (H3.out.1.2.2.later ((Below.refl _ _).alloc (Nat.le_refl _) _)) (by omega) (by have := HB4.out.size; simp at this; simp; omega) ?_
      intro v4 w4 r1 r2
      have H4 := hid (HN1.out _ w4 _ v4 HB4.out (lit_own' (base := w.heap.size + 1) w3 o ho.1 ho.2 (by have := HB3.out.size; simp at this; omega)) r1 r2)
      obtain ⟨⟨z0, z1⟩, adv, nv, cv, rfl, HW4⟩ := H4.out
      clear r1 r2
      refine hK.out _ _ (⟨z0, z1⟩) (fun hHeld => ?_)
      clear hK K
      refine wpAnyH_take (i := 8) (oi := { dst := some 3, op := Op.assign (Operand.tmp 14), type := 25, pos := "ref.go:65", after := #[{ on := 7, ground := Ground.data }, { on := 7, ground := Ground.chain }, { on := 0, ground := Ground.phase }, { on := 1, ground := Ground.phase }, { on := 2, ground := Ground.phase }, { on := 3, ground := Ground.phase }, { on := 4, ground := Ground.phase }, { on := 5, ground := Ground.phase }, { on := 6, ground := Ground.phase }, { on := 7, ground := Ground.phase }], guard := none }) (v := ?_) rfl (by kernel_rfl) (by kernel_rfl) (by kernel_rfl) (fun _ _ _ h => h) (Or.inl ⟨by rfl, ?_⟩) hHeld ?_
      rotate_left
      · intro w hSw; (try dsimp only at hSw); go_simp; try with_reducible rfl
      refine wpAnyH_done (by kernel_rfl) ?_ _
      go_wp2_with fail
      go_meet
      exact ⟨_, rfl, hid HW4.out⟩
  case rest =>
    obtain ⟨v, hv, HW2⟩ := hcut
    obtain ⟨adu0, nu0, cu0, hvs⟩ := owns_slice' HW2.out.own
    subst hvs
    subst hv
    have k2 : wc.cell? ⟨w.heap.size, 2, none⟩ = some (.slice ad m c) := HW2.out.box.cell 2
    have hm8 : IntKind.u8.wrap (m : Int) = (m : Int) := by rw [IntKind.wrap_u8]; omega
    have HL2 := hid (HW2.out.later ((Below.refl _ _).alloc (Nat.le_refl _) (.cells #[.int .u8 ((m : Nat) : Int)] 5)))
    have HRL := hid (row_lit wc m (by omega))
    go_wp2_with (at_builtin; refine app_any rfl _ _ rfl (w.heap.size + 1) (.slice adu0 nu0 cu0) _ (putsN 1 [o] ++ putsN 6 [t]) rfl HL2.out.own (some ⟨wc.heap.size, 0, none⟩) 1 1 [m] rfl rfl (fun e => by cases e) HRL.out (by rw [List.length_append, putsN_length, putsN_length]; simp only [List.length_cons, List.length_nil]; omega) HL2.out.size ?_; intro v5 w5 r1 r2; have HW5 := hid (HL2.out.app rfl r1 r2).1; clear r1 r2)
    have HW5' : Hid (WriteW w o t ad m c (headN o t m) v5 w5) := hid (by
      have := HW5.out
      rw [← puts1 m (by omega)] at this
      exact this)
    have HLP : Hid (∀ j, j ≤ m → ((l.take j).flatMap partN).length ≤ 1408) := hid (fun j hj => by
      have h1 := parts_length (l.take j) (fun p hp => by
        obtain ⟨i, hi, rfl⟩ := List.getElem_of_mem hp
        rw [List.length_take] at hi
        rw [List.getElem_take]
        have := (HF.out i (by omega)).2.2.1
        unfold ptAt at this
        rw [List.getD_eq_getElem?_getD, List.getElem?_eq_getElem (by omega)] at this
        exact this)
      rw [List.length_take] at h1
      have : min j l.length * 22 ≤ 64 * 22 := Nat.mul_le_mul_right 22 (by omega)
      omega)
    have HBYS : Hid (∀ (y : Int), 0 ≤ y ∧ y < 281474976710656 → ∀ X, Calls Try.prog 57 #[.int .i64 y, .int .i64 6] X fun e w' => ∃ ad' c', e = .returned (.slice ad' 6 c') ∧ Hid (Part.ok w' ⟨ad', 6, c', spellN y.toNat 6⟩ ∧ Below X.heap.size X w')) := hid (fun y hy X => by
      have := bytes_any y.toNat 6 X (by omega)
      rw [Int.toNat_of_nonneg hy.1] at this
      refine this.mono (fun e w' hh => ?_)
      obtain ⟨vv, rfl, hw, hb⟩ := hh
      obtain ⟨ad', c', rfl, hk, -⟩ := hw.slice 6 (spellN_length _ _)
      exact ⟨ad', c', rfl, hid ⟨hk, hb⟩⟩)
    clear HW2 HW5 HL2 HRL k2 HN1 HBY HS1 HBX hw8
    go_loopw [3, 4] (fun v' i wr => ∃ j : Nat, j ≤ m ∧ i = .int .i64 j ∧ Hid (WriteW w o t ad m c (headN o t m ++ (l.take j).flatMap partN) v' wr)) (fun _ i _ => m - (intOf i).toNat)
    case atStart => exact ⟨0, by omega, rfl, hid (by rw [List.take_zero, List.flatMap_nil, List.append_nil]; exact HW5'.out)⟩
    case round =>
      obtain ⟨j, hj, rfl, HW⟩ := hrel
      clear HW5'
      have kb2 : wr.cell? ⟨w.heap.size, 2, none⟩ = some (.slice ad m c) := HW.out.box.cell 2
      by_cases hlt : j < m
      · have hlti : decide ((j : Int) < (m : Int)) = true := by simp; omega
        obtain ⟨adu, nu, cu, rfl⟩ := owns_slice' HW.out.own
        have hcw := HC.out wr HW.out.below
        obtain ⟨b, off, rfl, hs, hc⟩ := hcw.cells (by omega)
        obtain ⟨r0, r1, r2⟩ := hc j hlt
        have hfit := HF.out j hlt
        have hnl := (hcw.ints j hlt).1.len
        have hbl := HLP.out j hj
        have h9 := hfit.2.2.1
        have HFN := hid hfit.2.2.2
        have HY1 := hid (HBYS.out _ hfit.1)
        have HY2 := hid (HBYS.out _ hfit.2.1)
        have HBP0 : Hid (Blk (wr.alloc (.cells #[.int .i64 (ptAt l j).first, .int .i64 (ptAt l j).id, .slice (A j).ad (A j).m (A j).c] 65)) wr.heap.size #[.int .i64 (ptAt l j).first, .int .i64 (ptAt l j).id, .slice (A j).ad (A j).m (A j).c] 65) := hid (heap_alloc_new wr _)
        have HWX0 := hid (HW.out.later ((Below.refl _ _).alloc (Nat.le_refl _) (.cells #[.int .i64 (ptAt l j).first, .int .i64 (ptAt l j).id, .slice (A j).ad (A j).m (A j).c] 65)))
        have hA8 : IntKind.u8.wrap ((A j).m : Int) = ((A j).m : Int) := by rw [IntKind.wrap_u8]; omega
        clear hcw hc hs hfit
        go_upto_region 7 with fail
        obtain ⟨X1, hX1⟩ : ∃ X1, wr.alloc (.cells #[.int .i64 (ptAt l j).first, .int .i64 (ptAt l j).id, .slice (A j).ad (A j).m (A j).c] 65) = X1 := ⟨_, rfl⟩
        rw [hX1] at HBP0 HWX0 ⊢
        clear hX1
        obtain ⟨b5, hb5⟩ : ∃ b5, wr.heap.size = b5 := ⟨_, rfl⟩
        rw [hb5] at HBP0 ⊢
        have HBP := HBP0
        have HWX := HWX0
        have HS7 : Hid (∀ W, Blk W b5 #[.int .i64 (ptAt l j).first, .int .i64 (ptAt l j).id, .slice (A j).ad (A j).m (A j).c] 65 → W.cell? ⟨b5, 0, none⟩ = some (.int .i64 (ptAt l j).first) ∧ W.cell? ⟨b5, 1, none⟩ = some (.int .i64 (ptAt l j).id)) := hid (fun W hW => ⟨hW.cell 0, hW.cell 1⟩)
        go_cut [3] (fun x3 wx => ∃ v, x3 = v ∧ Hid (WriteW w o t (some ⟨b, off, none⟩) m c (((headN o t m ++ (l.take j).flatMap partN) ++ spellN (ptAt l j).first.toNat 6) ++ spellN (ptAt l j).id.toNat 6) v wx ∧ Blk wx b5 #[.int .i64 (ptAt l j).first, .int .i64 (ptAt l j).id, .slice (A j).ad (A j).m (A j).c] 65))
        case first =>
          refine wp_region_held_drew (S := fun W => W.cell? ⟨b5, 0, none⟩ = some (.int .i64 (ptAt l j).first) ∧ W.cell? ⟨b5, 1, none⟩ = some (.int .i64 (ptAt l j).id)) (by kernel_rfl) (HS7.out _ (HBP.out.later ((Below.refl _ _).drew))) (fun hHeld => ?_)
          refine wpAnyH_take (i := 0) (oi := { dst := some 34, op := Op.move (Operand.tmp 3), type := 25, pos := "ref.go:69", after := #[], guard := none }) (v := ?_) rfl (by kernel_rfl) (by kernel_rfl) (by kernel_rfl) (fun _ _ _ h => h) (Or.inl ⟨by rfl, ?_⟩) hHeld ?_
          rotate_left
          · intro w hSw; (try dsimp only at hSw); go_simp; try with_reducible rfl
          try simp only [Act.put, List.setIfInBounds_toArray, List.set_cons_zero, List.set_cons_succ]
          refine wpAnyH_take (i := 1) (oi := { dst := some 35, op := Op.fieldAddr 65 (Operand.tmp 5) 0, type := 0, pos := "ref.go:69", after := #[], guard := none }) (v := ?_) rfl (by kernel_rfl) (by kernel_rfl) (by kernel_rfl) (fun _ _ _ h => h) (Or.inl ⟨by rfl, ?_⟩) hHeld ?_
          rotate_left
          · intro w hSw; (try dsimp only at hSw); go_simp; try with_reducible rfl
          try simp only [Act.put, List.setIfInBounds_toArray, List.set_cons_zero, List.set_cons_succ]
          refine wpAnyH_take (i := 2) (oi := { dst := some 36, op := Op.load 3 (Operand.tmp 35), type := 3, pos := "ref.go:69", after := #[{ on := 1, ground := Ground.data }], guard := none }) (v := ?_) rfl (by kernel_rfl) (by kernel_rfl) (by kernel_rfl) (fun _ _ _ h => h) (Or.inl ⟨by rfl, ?_⟩) hHeld ?_
          rotate_left
          · intro w hSw; (try dsimp only at hSw); go_simp; try with_reducible rfl
          try simp only [Act.put, List.setIfInBounds_toArray, List.set_cons_zero, List.set_cons_succ]
          refine wpAnyH_take (i := 5) (oi := { dst := some 39, op := Op.fieldAddr 65 (Operand.tmp 5) 1, type := 0, pos := "ref.go:69", after := #[], guard := none }) (v := ?_) rfl (by kernel_rfl) (by kernel_rfl) (by kernel_rfl) (fun _ _ _ h => h) (Or.inl ⟨by rfl, ?_⟩) hHeld ?_
          rotate_left
          · intro w hSw; (try dsimp only at hSw); go_simp; try with_reducible rfl
          try simp only [Act.put, List.setIfInBounds_toArray, List.set_cons_zero, List.set_cons_succ]
          refine wpAnyH_take (i := 6) (oi := { dst := some 40, op := Op.fieldAddr 49 (Operand.tmp 39) 0, type := 0, pos := "ref.go:69", after := #[{ on := 5, ground := Ground.data }], guard := none }) (v := ?_) rfl (by kernel_rfl) (by kernel_rfl) (by kernel_rfl) (fun _ _ _ h => h) (Or.inl ⟨by rfl, ?_⟩) hHeld ?_
          rotate_left
          · intro w hSw; (try dsimp only at hSw); go_simp; try with_reducible rfl
          try simp only [Act.put, List.setIfInBounds_toArray, List.set_cons_zero, List.set_cons_succ]
          refine wpAnyH_take (i := 7) (oi := { dst := some 41, op := Op.load 3 (Operand.tmp 40), type := 3, pos := "ref.go:69", after := #[{ on := 6, ground := Ground.data }], guard := none }) (v := ?_) rfl (by kernel_rfl) (by kernel_rfl) (by kernel_rfl) (fun _ _ _ h => h) (Or.inl ⟨by rfl, ?_⟩) hHeld ?_
          rotate_left
          · intro w hSw; (try dsimp only at hSw); go_simp; try with_reducible rfl
          try simp only [Act.put, List.setIfInBounds_toArray, List.set_cons_zero, List.set_cons_succ]
          refine wpAnyH_ready (rs := [3]) (by kernel_rfl) (by simp) ?_
          refine AllReadyH.cons rfl (fun K hK => ?_) (AllReadyH.nil)
          go_simp
          go_wp2_with (go_at_call 57; refine (HY1.out _).mono ?_; rintro x w3 ⟨ad3, c3, rfl, hh⟩; have H3 := hid hh.out; have HB3 := hid (((Below.refl X1.heap.size X1).drew).trans (hh.out.2.mono ((Below.refl X1.heap.size X1).drew).size)); clear hh)
          refine hK.out _ _ (HS7.out _ (HBP.out.later HB3.out)) (fun hHeld => ?_)
          clear hK K
          try simp only [Act.put, List.setIfInBounds_toArray, List.set_cons_zero, List.set_cons_succ]
          refine wpAnyH_ready (rs := [4]) (by kernel_rfl) (by simp) ?_
          refine AllReadyH.cons rfl (fun K hK => ?_) (AllReadyH.nil)
          have HA3 := hid (HWX.out.later HB3.out)
          refine step_app_bytes rfl _ _ rfl (w.heap.size + 1) (.slice adu nu cu) _ (headN o t m ++ (l.take j).flatMap partN) rfl HA3.out.own ad3 6 c3 (spellN (ptAt l j).first.toNat 6) rfl (spellN_length _ _) H3.out.1.2.1 H3.out.1.2.2 (by rw [List.length_append, headN_length]; omega) HA3.out.size ?_
          intro v4 w4 r1 r2
          obtain ⟨adv, nv, cv, rfl⟩ := owns_slice' r1
          have H4 := hid (HA3.out.app (spellN_length _ 6) r1 r2)
          have HP4 := hid ((HBP.out.later HB3.out).keepU H4.out.2 (by decide))
          clear r1 r2
          refine hK.out _ _ (HS7.out _ HP4.out) (fun hHeld => ?_)
          clear hK K
          refine wpAnyH_ready (rs := [8]) (by kernel_rfl) (by simp) ?_
          refine AllReadyH.cons rfl (fun K hK => ?_) (AllReadyH.nil)
          go_simp
          go_wp2_with (go_at_call 57; refine (HY2.out _).mono ?_; rintro x w5 ⟨ad5, c5, rfl, hh⟩; have H5 := hid hh.out; have HB5 := hid hh.out.2; clear hh)
          refine hK.out _ _ (HS7.out _ (HP4.out.later HB5.out)) (fun hHeld => ?_)
          clear hK K
          refine wpAnyH_ready (rs := [9]) (by kernel_rfl) (by simp) ?_
          refine AllReadyH.cons rfl (fun K hK => ?_) (AllReadyH.nil)
          have HA5 := hid (H4.out.1.later HB5.out)
          refine step_app_bytes rfl _ _ rfl (w.heap.size + 1) (.slice adv nv cv) _ ((headN o t m ++ (l.take j).flatMap partN) ++ spellN (ptAt l j).first.toNat 6) rfl HA5.out.own ad5 6 c5 (spellN (ptAt l j).id.toNat 6) rfl (spellN_length _ _) H5.out.1.2.1 H5.out.1.2.2 (by rw [List.length_append, List.length_append, headN_length, spellN_length]; omega) HA5.out.size ?_
          intro v6 w6 r1 r2
          obtain ⟨ad6, n6, c6, rfl⟩ := owns_slice' r1
          have H6 := hid (HA5.out.app (spellN_length _ 6) r1 r2)
          have HP6 := hid ((HP4.out.later HB5.out).keepU H6.out.2 (by decide))
          clear r1 r2
          refine hK.out _ _ (HS7.out _ HP6.out) (fun hHeld => ?_)
          clear hK K
          refine wpAnyH_take (i := 10) (oi := { dst := some 3, op := Op.assign (Operand.tmp 43), type := 25, pos := "ref.go:69", after := #[{ on := 9, ground := Ground.data }, { on := 9, ground := Ground.chain }, { on := 0, ground := Ground.phase }, { on := 1, ground := Ground.phase }, { on := 2, ground := Ground.phase }, { on := 3, ground := Ground.phase }, { on := 4, ground := Ground.phase }, { on := 5, ground := Ground.phase }, { on := 6, ground := Ground.phase }, { on := 7, ground := Ground.phase }, { on := 8, ground := Ground.phase }, { on := 9, ground := Ground.phase }], guard := none }) (v := ?_) rfl (by kernel_rfl) (by kernel_rfl) (by kernel_rfl) (fun _ _ _ h => h) (Or.inl ⟨by rfl, ?_⟩) hHeld ?_
          rotate_left
          · intro w hSw; (try dsimp only at hSw); go_simp; try with_reducible rfl
          refine wpAnyH_done (by kernel_rfl) ?_ _
          go_wp2_with fail
          go_meet
          exact ⟨_, rfl, hid ⟨H6.out.1, HP6.out⟩⟩
        case rest =>
          obtain ⟨v, hv, HW7⟩ := hcut
          obtain ⟨ad7, n7, c7, hvs⟩ := owns_slice' HW7.out.1.own
          subst hvs
          subst hv
          have kp2 : wc.cell? ⟨b5, 2, none⟩ = some (.slice (A j).ad (A j).m (A j).c) := HW7.out.2.cell 2
          have HB7 := hid (((headN o t m ++ (l.take j).flatMap partN) ++ spellN (ptAt l j).first.toNat 6) ++ spellN (ptAt l j).id.toNat 6).length.le_refl
          obtain ⟨B7, hB7⟩ : ∃ B7, ((headN o t m ++ (l.take j).flatMap partN) ++ spellN (ptAt l j).first.toNat 6) ++ spellN (ptAt l j).id.toNat 6 = B7 := ⟨_, rfl⟩
          have hB7l : B7.length ≤ 1500 := by rw [← hB7, List.length_append, List.length_append, List.length_append, headN_length, spellN_length, spellN_length]; omega
          rw [hB7] at HW7
          have HL7 := hid (HW7.out.1.later ((Below.refl _ _).alloc (Nat.le_refl _) (.cells #[.int .u8 (((A j).m : Nat) : Int)] 5)))
          have HR7 := hid (row_lit wc (A j).m (by omega))
          clear HB7 HW HWX HWX0 HBP HBP0 HS7 HY1 HY2 kb2
          go_wp2_with (at_builtin; refine app_any rfl _ _ rfl (w.heap.size + 1) (.slice ad7 n7 c7) _ B7 rfl HL7.out.own (some ⟨wc.heap.size, 0, none⟩) 1 1 [(A j).m] rfl rfl (fun e => by cases e) HR7.out (by omega) HL7.out.size ?_; intro v8 w8 q1 q2; have HA8 := hid (HL7.out.app rfl q1 q2); have HP8 := hid ((HW7.out.2.later ((Below.refl _ _).alloc (Nat.le_refl _) (.cells #[.int .u8 (((A j).m : Nat) : Int)] 5))).keepU HA8.out.2 (by decide)); clear q1 q2)
          go_loopw [3, 6] (fun v' i wr => ∃ k : Nat, k ≤ (A j).m ∧ i = .int .i64 k ∧ Hid (WriteW w o t (some ⟨b, off, none⟩) m c ((B7 ++ [(A j).m]) ++ putsN 1 ((ptAt l j).nodes.take k)) v' wr ∧ Blk wr b5 #[.int .i64 (ptAt l j).first, .int .i64 (ptAt l j).id, .slice (A j).ad (A j).m (A j).c] 65)) (fun _ i _ => (A j).m - (intOf i).toNat)
          case atStart => exact ⟨0, by omega, rfl, hid ⟨by rw [List.take_zero]; show WriteW w o t _ m c ((B7 ++ [(A j).m]) ++ []) v8 w8; rw [List.append_nil]; exact HA8.out.1, HP8.out⟩⟩
          case round =>
            obtain ⟨k, hk, rfl, HV⟩ := hrel
            clear HA8 HP8
            have kq2 : wr.cell? ⟨b5, 2, none⟩ = some (.slice (A j).ad (A j).m (A j).c) := HV.out.2.cell 2
            by_cases hkl : k < (A j).m
            · have hlt2 : decide ((k : Int) < ((A j).m : Int)) = true := by simp; omega
              obtain ⟨adk, nk, ck, rfl⟩ := owns_slice' HV.out.1.own
              have hin := ((HC.out wr HV.out.1.below).ints j hlt).1
              obtain ⟨bn, offn, ean, -, hcn⟩ := hin.row.resolve_left (by omega)
              have kn := hcn k hkl
              have hkn : k < (ptAt l j).nodes.length := by omega
              have hmem : (ptAt l j).nodes.getD k 0 ∈ (ptAt l j).nodes := by rw [List.getD_eq_getElem?_getD, List.getElem?_eq_getElem hkn]; exact List.getElem_mem hkn
              have hyr := HFN.out _ hmem
              obtain ⟨y, hy⟩ : ∃ y : Nat, (ptAt l j).nodes.getD k 0 = (y : Int) := ⟨_, (Int.toNat_of_nonneg hyr.1).symm⟩
              rw [hy] at kn hyr
              have hy8 : IntKind.u8.wrap (y : Int) = (y : Int) := by rw [IntKind.wrap_u8]; omega
              have HL9 := hid (HV.out.1.later ((Below.refl _ _).alloc (Nat.le_refl _) (.cells #[.int .u8 ((y : Nat) : Int)] 5)))
              have HR9 := hid (row_lit wr y (by omega))
              have hlk : ((B7 ++ [(A j).m]) ++ putsN 1 ((ptAt l j).nodes.take k)).length ≤ 1600 := by rw [List.length_append, List.length_append, putsN_length, List.length_take]; simp only [List.length_cons, List.length_nil]; omega
              have HEQ : Hid (((B7 ++ [(A j).m]) ++ putsN 1 ((ptAt l j).nodes.take k)) ++ [y] = (B7 ++ [(A j).m]) ++ putsN 1 ((ptAt l j).nodes.take (k + 1))) := hid (by
                rw [take_succI _ k hkn, putsN_snoc, hy, Int.toNat_natCast, spell_one y (by omega), List.append_assoc])
              clear hin hcn hmem hy
              generalize (A j).ad = adn at *
              subst ean
              go_wp2_with (at_builtin; refine app_any rfl _ _ rfl (w.heap.size + 1) (.slice adk nk ck) _ ((B7 ++ [(A j).m]) ++ putsN 1 ((ptAt l j).nodes.take k)) rfl HL9.out.own (some ⟨wr.heap.size, 0, none⟩) 1 1 [y] rfl rfl (fun e => by cases e) HR9.out (by omega) HL9.out.size ?_; intro v9 w9 q1 q2; have HA9 := hid (HL9.out.app rfl q1 q2); have HP9 := hid ((HV.out.2.later ((Below.refl _ _).alloc (Nat.le_refl _) (.cells #[.int .u8 ((y : Nat) : Int)] 5))).keepU HA9.out.2 (by decide)); clear q1 q2)
              exact ⟨⟨k + 1, by omega, by go_num, hid ⟨by rw [← HEQ.out]; exact HA9.out.1, HP9.out⟩⟩, by simp [intOf]; omega⟩
            · obtain hkx : k = (A j).m := by omega
              have hlt2 : decide ((k : Int) < ((A j).m : Int)) = false := by simp; omega
              go_wp2_with fail
              refine ⟨⟨j + 1, by omega, by go_num, hid ?_⟩, by simp [intOf]; omega⟩
              have hT := HV.out.1
              rw [List.take_of_length_le (by omega), ← hB7] at hT
              have e : headN o t m ++ (l.take (j + 1)).flatMap partN = ((((headN o t m ++ (l.take j).flatMap partN) ++ spellN (ptAt l j).first.toNat 6) ++ spellN (ptAt l j).id.toNat 6) ++ [(A j).m]) ++ putsN 1 (ptAt l j).nodes := by
                rw [take_snocP' l j (by omega), List.flatMap_append, List.flatMap_cons, List.flatMap_nil, List.append_nil]
                unfold partN
                rw [hnl, puts1 (A j).m (by omega)]
                unfold putsN
                simp only [List.flatMap_cons, List.flatMap_nil, List.append_nil, List.append_assoc]
              rw [e]
              exact hT
      · obtain rfl : j = m := by omega
        have hlti : decide ((j : Int) < (j : Int)) = false := by simp
        go_wp2_with fail
        go_ret
        refine ⟨_, rfl, hid ⟨?_, HW.out.below⟩⟩
        have := HW.out.own
        rw [List.take_of_length_le (by omega)] at this
        unfold tellN
        rw [hl]
        exact this
end Go.Proofs.Ythadagpfmacemaa.Rf
