/- The walk of ChainBack (by genback10.py). -/
import Derived.Test.YthadagpfmacemaaBackM10
import Derived.Test.YthadagpfmacemaaCDecF
import Derived.Test.YthadagpfmacemaaLSmallC
import Derived.Test.YthadagpfmacemaaLKnow
import Derived.Deep.DeepCutAuto
namespace Go.Proofs.Ythadagpfmacemaa
open Go.RowKit
variable {w : World} {l : List Pt} {A : Nat → Sl} {ad ad1 : Option Addr} {m c len1 cap1 : Nat} {l1 : List Nat}

theorem mem_fit {o t n : Int} (h : mayC o t l n) (h2 : n ≤ 256) : ∀ q ∈ l, FitP q := by
  intro q hq
  obtain ⟨i, hi, rfl⟩ := List.getElem_of_mem hq
  have := may_fit h h2 i hi
  unfold ptAt at this
  rw [List.getD_eq_getElem?_getD, List.getElem?_eq_getElem hi] at this
  exact this
theorem tell_len {o t n : Int} (h : mayC o t l n) (h2 : n ≤ 256) : (tellN o t l).length ≤ 2000 := by
  unfold tellN
  rw [List.length_append, headN_length]
  have h1 := parts_length l (fun p hp => (mem_fit h h2 p hp).2.2.1)
  have : l.length * 22 ≤ 64 * 22 := Nat.mul_le_mul_right 22 h.2.1.2
  omega
theorem dec_tell {o t n : Int} (h : mayC o t l n) (h2 : n ≤ 256) : decE (tellN o t l) n = 0 ∧ decC (tellN o t l) n = ⟨o, t, l⟩ := by
  have h64 := h.2.1.2
  obtain ⟨e1, e2⟩ := read_tell o t l (by have := h.1; omega) (by have := h.2.1.1; unfold isN at this; exact this) h64 (mem_fit h h2)
  have hE : decE (tellN o t l) n = 0 := decE_0 h2 ⟨e2, by rw [e1]; exact h⟩
  exact ⟨hE, by rw [decC_ok hE, e1]⟩
theorem dec_ok {l : List Nat} {n : Int} (h : decE l n = 0) : n ≤ 256 ∧ posAt l (cntAt l) = l.length ∧ mayC (readC l).owner (readC l).trim (readC l).parts n := by
  unfold decE at h
  split at h
  · split at h
    · rename_i h1 h2; exact ⟨h1, h2⟩
    · cases h
  · cases h
theorem len_of {N : Nat} (h : CAns w N [] ad m c) : m = 0 := by obtain ⟨A9, h9, -⟩ := h.arg; exact h9.len.symm
set_option maxRecDepth 100000 in
set_option maxHeartbeats 8000000 in
theorem back_walk10 (h : CArg w l A ad m c) (o t n : Int) (hm40 : m * 40 ≤ 140737488351232) (hni : ∀ i, i < m → (A i).m * 8 ≤ 140737488355328) (hp : Part.ok w ⟨ad1, len1, cap1, l1⟩) (hlc : len1 ≤ cap1) (hm : len1 ≤ 140737488351232) :
    Calls Try.prog 5 #[.agg #[.int .i64 o, .int .i64 t, .slice ad m c], .slice ad1 len1 cap1, .int .i64 n] w fun x w' => x = .returned (.bool true) ∧ Below w.heap.size w w' := by
  have HB1 : Hid (Below w.heap.size w (w.alloc (.cells #[.int .i64 o, .int .i64 t, .slice ad m c] 24))) := hid ((Below.refl _ _).alloc (Nat.le_refl _) _)
  have HX : Hid (∀ X, Below (w.alloc (.cells #[.int .i64 o, .int .i64 t, .slice ad m c] 24)).heap.size (w.alloc (.cells #[.int .i64 o, .int .i64 t, .slice ad m c] 24)) X → CArg X l A ad m c ∧ Blk X w.heap.size #[.int .i64 o, .int .i64 t, .slice ad m c] 24 ∧ Below w.heap.size w X) := hid (fun X hX => ⟨(h.later HB1.out).later hX, (show Blk (w.alloc (.cells #[.int .i64 o, .int .i64 t, .slice ad m c] 24)) w.heap.size #[.int .i64 o, .int .i64 t, .slice ad m c] 24 from heap_alloc_new w _).later hX, HB1.out.trans (hX.mono HB1.out.size)⟩)
  have HO : Hid (∀ X, Below (w.alloc (.cells #[.int .i64 o, .int .i64 t, .slice ad m c] 24)).heap.size (w.alloc (.cells #[.int .i64 o, .int .i64 t, .slice ad m c] 24)) X → Calls Try.prog 7 #[.agg #[.int .i64 o, .int .i64 t, .slice ad m c]] X fun x w' => ∃ ad' c', x = .returned (.agg #[.int .i64 o, .int .i64 t, .slice ad' m c']) ∧ Hid (CAns w' X.heap.size l ad' m c') ∧ Below X.heap.size X w') := hid (fun X hX => own_any (HX.out X hX).1 o t hm40 hni)
  have HO1 := hid (HO.out _ (Below.refl _ _))
  obtain ⟨E, hE⟩ : ∃ E, encE o t l n = E := ⟨_, rfl⟩
  have HEE := hid hE
  have HEN : Hid (∀ (X : World) (adx : Option Addr) (cx N : Nat), CAns X N l adx m cx → Calls Try.prog 9 #[.agg #[.int .i64 o, .int .i64 t, .slice adx m cx], .int .i64 n] X fun x w' => ∃ ad' m' c', x = .returned (.tuple #[.slice ad' m' c', .int .i64 E]) ∧ Hid (Own w' X.heap.size (.slice ad' m' c') (encB o t l n)) ∧ Below X.heap.size X w') := hid (fun X adx cx N hA => by
    obtain ⟨A9, hA9, -⟩ := hA.arg
    have := encode_any hA9 o t n
    rw [hE] at this
    exact this)
  obtain ⟨G, hG⟩ : ∃ G, decE l1 n = G := ⟨_, rfl⟩
  obtain ⟨D, hD⟩ : ∃ D, decC l1 n = D := ⟨_, rfl⟩
  have HGD : Hid (decE l1 n = G ∧ decC l1 n = D) := hid ⟨hG, hD⟩
  have HP := hid hp
  have HDB : Hid (∀ X, Below w.heap.size w X → Calls Try.prog 11 #[.slice ad1 len1 cap1, .int .i64 n] X fun x w' => ∃ ad' m' c', x = .returned (.tuple #[.agg #[.int .i64 D.owner, .int .i64 D.trim, .slice ad' m' c'], .int .i64 G]) ∧ Hid (CAns w' X.heap.size D.parts ad' m' c') ∧ Below X.heap.size X w') := hid (fun X hX => by
    have := decode_any (hp.later hX) hlc (by omega) n
    rw [hG, hD] at this
    exact this)
  clear h hp hE hG hD hni
  go_enter Try.func5, Try.ntmps5
  go_upto_if 24 with (first
    | (go_at_call 7; refine HO1.out.mono ?_; rintro x w2 ⟨adx, cx, rfl, hh, hb⟩; have HEN2 := hid (HEN.out w2 adx cx _ hh.out); have HB2 := hid hb; clear hb hh)
    | (go_at_call 9; refine HEN2.out.mono ?_; rintro x w3 ⟨ad3, m3, c3, rfl, hh, hb⟩; have HY3 := hid hh.out; have HB3 := hid (HB2.out.trans (hb.mono HB2.out.size)); clear hb hh)
    | (go_at_call 13; refine (num10_any _ _).mono ?_; rintro x wn ⟨rfl, hwn⟩; obtain rfl := hwn.symm))
  go_cut [6] (fun x6 wx => x6 = .bool false ∧ Hid (Below (w.alloc (.cells #[.int .i64 o, .int .i64 t, .slice ad m c] 24)).heap.size (w.alloc (.cells #[.int .i64 o, .int .i64 t, .slice ad m c] 24)) wx))
  case first =>
    by_cases hE0 : E = 0
    · subst hE0
      obtain ⟨hmay, h256⟩ := encE_ok HEE.out
      have HDE : Hid (Calls Try.prog 11 #[.slice ad3 m3 c3, .int .i64 n] w3 fun x w' => ∃ ad' m' c', x = .returned (.tuple #[.agg #[.int .i64 o, .int .i64 t, .slice ad' m' c'], .int .i64 0]) ∧ Hid (CAns w' w3.heap.size l ad' m' c') ∧ Below w3.heap.size w3 w') := hid (by
        have hown := HY3.out
        unfold encB at hown
        rw [if_pos HEE.out] at hown
        obtain ⟨ad9, c9, hv, hok, hc9, -⟩ := hown.slice _ rfl
        have hlen := tell_len hmay h256
        have := decode_any hok hc9 (by omega) n
        rw [(dec_tell hmay h256).1, (dec_tell hmay h256).2] at this
        rw [hv]
        exact this)
      clear hmay h256 HEE HGD HDB HP
      go_upto_region 4 with (go_at_call 11; refine HDE.out.mono ?_; rintro x w4 ⟨ad4, m4, c4, rfl, hh, hb⟩; have HA4 := hid hh.out; have HL4 := hid (HB3.out.trans (hb.mono HB3.out.size)); clear hb hh)
      have n4 : Below w4.heap.size w4 (w4.alloc (.cells #[.int .i64 o, .int .i64 t, .slice ad4 m4 c4] 28)) := (Below.refl _ _).alloc (Nat.le_refl _) _
      have HB4 : Hid (Below (w.alloc (.cells #[.int .i64 o, .int .i64 t, .slice ad m c] 24)).heap.size (w.alloc (.cells #[.int .i64 o, .int .i64 t, .slice ad m c] 24)) (w4.alloc (.cells #[.int .i64 o, .int .i64 t, .slice ad4 m4 c4] 28))) := hid (HL4.out.trans (n4.mono HL4.out.size))
      have HLL : Hid (∀ W, Below (w4.alloc (.cells #[.int .i64 o, .int .i64 t, .slice ad4 m4 c4] 28)).heap.size (w4.alloc (.cells #[.int .i64 o, .int .i64 t, .slice ad4 m4 c4] 28)) W → Below (w.alloc (.cells #[.int .i64 o, .int .i64 t, .slice ad m c] 24)).heap.size (w.alloc (.cells #[.int .i64 o, .int .i64 t, .slice ad m c] 24)) W) := hid (fun W hW => HB4.out.trans (hW.mono HB4.out.size))
      have HAA := hid (HA4.out.later n4)
      have HS4 : Hid (∀ W, Below (w4.alloc (.cells #[.int .i64 o, .int .i64 t, .slice ad4 m4 c4] 28)).heap.size (w4.alloc (.cells #[.int .i64 o, .int .i64 t, .slice ad4 m4 c4] 28)) W → (W.cell? ⟨w4.heap.size, 0, none⟩ = some (.int .i64 o) ∧ W.cell? ⟨w4.heap.size, 1, none⟩ = some (.int .i64 t) ∧ W.cell? ⟨w4.heap.size, 2, none⟩ = some (.slice ad4 m4 c4)) ∧ (W.cell? ⟨w.heap.size, 0, none⟩ = some (.int .i64 o) ∧ W.cell? ⟨w.heap.size, 1, none⟩ = some (.int .i64 t) ∧ W.cell? ⟨w.heap.size, 2, none⟩ = some (.slice ad m c))) := hid (fun W hW => by
        have q4 := (show Blk (w4.alloc (.cells #[.int .i64 o, .int .i64 t, .slice ad4 m4 c4] 28)) w4.heap.size _ _ from heap_alloc_new w4 _).later hW
        have q1 := (HX.out W (HLL.out W hW)).2.1
        exact ⟨⟨q4.cell 0, q4.cell 1, q4.cell 2⟩, ⟨q1.cell 0, q1.cell 1, q1.cell 2⟩⟩)
      have HO4 : Hid (∀ X, Below (w4.alloc (.cells #[.int .i64 o, .int .i64 t, .slice ad4 m4 c4] 28)).heap.size (w4.alloc (.cells #[.int .i64 o, .int .i64 t, .slice ad4 m4 c4] 28)) X → Calls Try.prog 7 #[.agg #[.int .i64 o, .int .i64 t, .slice ad m c]] X fun x w' => ∃ ad' c', x = .returned (.agg #[.int .i64 o, .int .i64 t, .slice ad' m c']) ∧ Hid (CAns w' X.heap.size l ad' m c') ∧ Below X.heap.size X w') := hid (fun X hX => HO.out X (HLL.out X hX))
      have HSM : Hid (∀ (X : World) (adp : Option Addr) (cp : Nat) {N : Nat}, Below (w4.alloc (.cells #[.int .i64 o, .int .i64 t, .slice ad4 m4 c4] 28)).heap.size (w4.alloc (.cells #[.int .i64 o, .int .i64 t, .slice ad4 m4 c4] 28)) X → CAns X N l adp m cp → Calls Try.prog 16 #[.agg #[.int .i64 o, .int .i64 t, .slice ad4 m4 c4], .agg #[.int .i64 o, .int .i64 t, .slice adp m cp]] X fun x w' => x = .returned (.bool true) ∧ Below X.heap.size X w') := hid (fun X adp cp N hX hp => same_ans (HAA.out.later hX) hp _ _)
      clear n4
      refine wp_region_held_drew (S := fun W => (W.cell? ⟨w4.heap.size, 0, none⟩ = some (.int .i64 o) ∧ W.cell? ⟨w4.heap.size, 1, none⟩ = some (.int .i64 t) ∧ W.cell? ⟨w4.heap.size, 2, none⟩ = some (.slice ad4 m4 c4)) ∧ (W.cell? ⟨w.heap.size, 0, none⟩ = some (.int .i64 o) ∧ W.cell? ⟨w.heap.size, 1, none⟩ = some (.int .i64 t) ∧ W.cell? ⟨w.heap.size, 2, none⟩ = some (.slice ad m c))) (by kernel_rfl) (HS4.out _ (Below.refl _ _).drew) (fun hHeld => ?_)
      refine wpAnyH_take (i := 0) (oi := { dst := some 31, op := Op.move (Operand.tmp 10), type := 31, pos := "law.go:100", after := #[], guard := none }) (v := ?_) rfl (by kernel_rfl) (by kernel_rfl) (by kernel_rfl) (fun _ _ _ h => h) (Or.inl ⟨by rfl, ?_⟩) hHeld ?_
      rotate_left
      · intro w hSw; (try dsimp only at hSw); go_simp; try with_reducible rfl
      try simp only [Act.put, List.setIfInBounds_toArray, List.set_cons_zero, List.set_cons_succ]
      refine wpAnyH_ready (rs := [1]) (by kernel_rfl) (by simp) ?_
      refine AllReadyH.cons rfl (fun K hK => ?_) (AllReadyH.nil)
      go_simp
      go_wp2_with (go_at_call 13; refine (num10_any _ _).mono ?_; rintro x wn ⟨rfl, hwn⟩; obtain rfl := hwn.symm)
      refine hK.out _ _ (HS4.out _ (Below.refl (w4.alloc (.cells #[.int .i64 o, .int .i64 t, .slice ad4 m4 c4] 28)).heap.size (w4.alloc (.cells #[.int .i64 o, .int .i64 t, .slice ad4 m4 c4] 28))).drew) (fun hHeld => ?_)
      clear hK K
      try simp only [Act.put, List.setIfInBounds_toArray, List.set_cons_zero, List.set_cons_succ]
      refine wpAnyH_take (i := 2) (oi := { dst := some 33, op := Op.binOp BinOp.neq 3 (Operand.tmp 32) (Operand.const (Value.int IntKind.i64 0)) 3, type := 4, pos := "law.go:100", after := #[{ on := 1, ground := Ground.data }], guard := none }) (v := ?_) rfl (by kernel_rfl) (by kernel_rfl) (by kernel_rfl) (fun _ _ _ h => h) (Or.inl ⟨by rfl, ?_⟩) hHeld ?_
      rotate_left
      · intro w hSw; (try dsimp only at hSw); go_simp; try with_reducible rfl
      try simp only [Act.put, List.setIfInBounds_toArray, List.set_cons_zero, List.set_cons_succ]
      refine wpAnyH_take (i := 3) (oi := { dst := some 34, op := Op.move (Operand.tmp 33), type := 4, pos := "law.go:100", after := #[{ on := 2, ground := Ground.data }, { on := 1, ground := Ground.chain }], guard := none }) (v := ?_) rfl (by kernel_rfl) (by kernel_rfl) (by kernel_rfl) (fun _ _ _ h => h) (Or.inl ⟨by rfl, ?_⟩) hHeld ?_
      rotate_left
      · intro w hSw; (try dsimp only at hSw); go_simp; try with_reducible rfl
      try simp only [Act.put, List.setIfInBounds_toArray, List.set_cons_zero, List.set_cons_succ]
      refine wpAnyH_take (i := 4) (oi := { dst := some 35, op := Op.load 28 (Operand.tmp 9), type := 28, pos := "law.go:100", after := #[{ on := 3, ground := Ground.guard }], guard := some (3, false) }) (v := ?_) rfl (by kernel_rfl) (by kernel_rfl) (by kernel_rfl) (fun _ _ _ h => h) (Or.inl ⟨by rfl, ?_⟩) hHeld ?_
      rotate_left
      · intro w hSw; (try dsimp only at hSw); go_simp; try with_reducible rfl
      try simp only [Act.put, List.setIfInBounds_toArray, List.set_cons_zero, List.set_cons_succ]
      refine wpAnyH_take (i := 5) (oi := { dst := some 36, op := Op.load 24 (Operand.tmp 3), type := 24, pos := "law.go:100", after := #[{ on := 3, ground := Ground.guard }], guard := some (3, false) }) (v := ?_) rfl (by kernel_rfl) (by kernel_rfl) (by kernel_rfl) (fun _ _ _ h => h) (Or.inl ⟨by rfl, ?_⟩) hHeld ?_
      rotate_left
      · intro w hSw; (try dsimp only at hSw); go_simp; try with_reducible rfl
      try simp only [Act.put, List.setIfInBounds_toArray, List.set_cons_zero, List.set_cons_succ]
      refine wpAnyH_ready (rs := [6]) (by kernel_rfl) (by simp) ?_
      refine AllReadyH.cons rfl (fun K hK => ?_) (AllReadyH.nil)
      go_simp
      go_wp2_with (go_at_call 7; refine (HO4.out _ (Below.refl (w4.alloc (.cells #[.int .i64 o, .int .i64 t, .slice ad4 m4 c4] 28)).heap.size (w4.alloc (.cells #[.int .i64 o, .int .i64 t, .slice ad4 m4 c4] 28))).drew).mono ?_; rintro x x1 ⟨adp, cp, rfl, hp, hb⟩; have Hx1 := hid (((Below.refl (w4.alloc (.cells #[.int .i64 o, .int .i64 t, .slice ad4 m4 c4] 28)).heap.size (w4.alloc (.cells #[.int .i64 o, .int .i64 t, .slice ad4 m4 c4] 28))).drew).trans (hb.mono ((Below.refl (w4.alloc (.cells #[.int .i64 o, .int .i64 t, .slice ad4 m4 c4] 28)).heap.size (w4.alloc (.cells #[.int .i64 o, .int .i64 t, .slice ad4 m4 c4] 28))).drew).size)); clear hb)
      refine hK.out _ _ (HS4.out _ Hx1.out) (fun hHeld => ?_)
      clear hK K
      try simp only [Act.put, List.setIfInBounds_toArray, List.set_cons_zero, List.set_cons_succ]
      refine wpAnyH_ready (rs := [7]) (by kernel_rfl) (by simp) ?_
      refine AllReadyH.cons rfl (fun K hK => ?_) (AllReadyH.nil)
      go_simp
      go_wp2_with (go_at_call 16; refine (HSM.out _ _ _ Hx1.out hp.out).mono ?_; rintro x x2 ⟨rfl, hb⟩; have Hx2 := hid (Hx1.out.trans (hb.mono Hx1.out.size)); clear hb hp)
      refine hK.out _ _ (HS4.out _ Hx2.out) (fun hHeld => ?_)
      clear hK K
      try simp only [Act.put, List.setIfInBounds_toArray, List.set_cons_zero, List.set_cons_succ]
      refine wpAnyH_take (i := 8) (oi := { dst := some 39, op := Op.unOp UnOp.not 4 (Operand.tmp 38), type := 4, pos := "law.go:100", after := #[{ on := 7, ground := Ground.data }, { on := 3, ground := Ground.guard }], guard := some (3, false) }) (v := ?_) rfl (by kernel_rfl) (by kernel_rfl) (by kernel_rfl) (fun _ _ _ h => h) (Or.inl ⟨by rfl, ?_⟩) hHeld ?_
      rotate_left
      · intro w hSw; (try dsimp only at hSw); go_simp; try with_reducible rfl
      try simp only [Act.put, List.setIfInBounds_toArray, List.set_cons_zero, List.set_cons_succ]
      refine wpAnyH_take (i := 9) (oi := { dst := some 40, op := Op.pick (Operand.tmp 34) (Operand.const (Value.bool true)) (Operand.tmp 39), type := 4, pos := "law.go:100", after := #[{ on := 3, ground := Ground.data }, { on := 8, ground := Ground.data }], guard := none }) (v := ?_) rfl (by kernel_rfl) (by kernel_rfl) (by kernel_rfl) (fun _ _ _ h => h) (Or.inl ⟨by rfl, ?_⟩) hHeld ?_
      rotate_left
      · intro w hSw; (try dsimp only at hSw); go_simp; try with_reducible rfl
      try simp only [Act.put, List.setIfInBounds_toArray, List.set_cons_zero, List.set_cons_succ]
      refine wpAnyH_done (by kernel_rfl) ?_ _
      go_wp2_with fail
      go_meet
      exact ⟨rfl, hid (HB4.out.trans (Hx2.out.mono HB4.out.size))⟩
    · have hEd : (E == 0) = false := by simpa using hE0
      clear hE0
      go_wp2_with (go_at_call 13; refine (num10_any _ _).mono ?_; rintro x wn ⟨rfl, hwn⟩; obtain rfl := hwn.symm)
      go_meet
      exact ⟨rfl, HB3⟩
  case rest =>
    obtain ⟨rfl, HWC⟩ := hcut
    have HDB2 := hid (HDB.out wc (HX.out wc HWC.out).2.2)
    have HBC : Hid (Below w.heap.size w wc) := hid (HX.out wc HWC.out).2.2
    clear HY3 HB3 HB2 HEN2 HEN HO HO1 HX HWC HEE HDB
    by_cases hG0 : G = 0
    · have hok := dec_ok (HGD.out.1.trans hG0)
      have hDe : D = readC l1 := HGD.out.2.symm.trans (decC_ok (HGD.out.1.trans hG0))
      have hlt := HP.out.2.2.1
      have HEX : Hid (∀ (X : World) (adx : Option Addr) (mx cx N : Nat), CAns X N D.parts adx mx cx → Calls Try.prog 9 #[.agg #[.int .i64 D.owner, .int .i64 D.trim, .slice adx mx cx], .int .i64 n] X fun x w' => ∃ ad' c', x = .returned (.tuple #[.slice ad' len1 c', .int .i64 0]) ∧ Hid (Row w' ad' l1) ∧ Below X.heap.size X w') := hid (fun X adx mx cx N hA => by
        obtain ⟨A9, hA9, -⟩ := hA.arg
        have hmy : mayC D.owner D.trim D.parts n := by rw [hDe]; exact hok.2.2
        refine (encode_any hA9 D.owner D.trim n).mono (fun x w' hh => ?_)
        obtain ⟨ad', m', c', rfl, ho, hb⟩ := hh
        have he := encE_0 hmy hok.1
        have ho2 := ho.out
        unfold encB at ho2
        rw [if_pos he] at ho2
        have e2 : tellN D.owner D.trim D.parts = l1 := by rw [hDe]; exact tell_read l1 hlt hok.2.1
        rw [e2] at ho2
        obtain ⟨ad9, c9, hv, hk, -⟩ := ho2.slice len1 HP.out.1
        simp only [Value.slice.injEq] at hv
        obtain ⟨rfl, rfl, rfl⟩ := hv
        exact ⟨_, _, by rw [he], hid hk.2.2, hb⟩)
      subst hG0
      clear hok hDe hlt HGD
      go_wp2_with first
        | (go_at_call 11; refine HDB2.out.mono ?_; rintro x w7 ⟨ad7, m7, c7, rfl, hh, hb⟩; have HL7 := hid ((HBC.out.trans (hb.mono HBC.out.size)).alloc (Nat.le_trans HBC.out.size hb.size) (.cells #[.int .i64 D.owner, .int .i64 D.trim, .slice ad7 m7 c7] 28)); have HE7 := hid (HEX.out _ ad7 m7 c7 _ (hh.out.later ((Below.refl _ _).alloc (Nat.le_refl _) (.cells #[.int .i64 D.owner, .int .i64 D.trim, .slice ad7 m7 c7] 28)))); clear hb hh)
        | (go_at_call 9; refine HE7.out.mono ?_; rintro x w9 ⟨ad9, c9, rfl, hh, hb⟩; have HL9 := hid (HL7.out.trans (hb.mono HL7.out.size)); have cv1 := conv_any hh.out len1 c9 HP.out.1; have cv2 := conv_any (HP.out.2.2.later HL9.out) len1 cap1 HP.out.1; clear hb hh)
        | (go_at_call 18; refine (knows10 _).mono ?_; rintro x wk ⟨rfl, hbk⟩; have HBk := hid hbk; clear hbk)
        | (go_at_call 13; refine (num10_any _ _).mono ?_; rintro x wn ⟨rfl, hwn⟩; obtain rfl := hwn.symm)
      go_ret
      exact ⟨rfl, HL9.out.trans (HBk.out.mono HL9.out.size)⟩
    · have hGd : (G == 0) = false := by simpa using hG0
      have hDe : D = ⟨0, 0, []⟩ := HGD.out.2.symm.trans (decC_no (by rw [HGD.out.1]; exact hG0))
      subst hDe
      clear hG0 HGD HP
      go_wp2_with first
        | (go_at_call 11; refine HDB2.out.mono ?_; rintro x w7 ⟨ad7, m7, c7, rfl, hh, hb⟩; obtain rfl : m7 = 0 := (len_of hh.out); have HS7 := hid (same_ans (hh.out.later ((Below.refl _ _).alloc (Nat.le_refl _) (.cells #[.int .i64 0, .int .i64 0, .slice ad7 0 c7] 28))) (CAns.none _ 0) 0 0); have HL7 := hid ((HBC.out.trans (hb.mono HBC.out.size)).alloc (Nat.le_trans HBC.out.size hb.size) (.cells #[.int .i64 0, .int .i64 0, .slice ad7 0 c7] 28)); clear hb hh)
        | (go_at_call 16; refine HS7.out.mono ?_; rintro x w8 ⟨rfl, hb⟩; have HL8 := hid (HL7.out.trans (hb.mono HL7.out.size)); clear hb)
        | (go_at_call 18; refine (knows10 _).mono ?_; rintro x wk ⟨rfl, hbk⟩; have HBk := hid hbk; clear hbk)
        | (go_at_call 13; refine (num10_any _ _).mono ?_; rintro x wn ⟨rfl, hwn⟩; obtain rfl := hwn.symm)
      go_ret
      exact ⟨rfl, HL8.out.trans (HBk.out.mono HL8.out.size)⟩
end Go.Proofs.Ythadagpfmacemaa
