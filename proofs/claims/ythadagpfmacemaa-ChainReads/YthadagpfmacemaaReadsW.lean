/- The walk of ChainReads (by genreads.py). -/
import Derived.Test.YthadagpfmacemaaCDecF
import Derived.Test.YthadagpfmacemaaRDec
import Derived.Test.YthadagpfmacemaaLSmallC
import Derived.Test.YthadagpfmacemaaLKnow
namespace Go.Proofs.Ythadagpfmacemaa
open Go.RowKit
variable {w : World} {ad : Option Addr} {len cap : Nat} {l : List Nat}

theorem dec_small (l : List Nat) (n : Int) : SmallC (decC l n).parts := by
  unfold decC
  by_cases h : decE l n = 0
  · rw [if_pos h]
    unfold decE at h
    split at h
    · split at h
      · rename_i h1 h2; exact may_small h2.2
      · cases h
    · cases h
  · rw [if_neg h]; exact small_nil
set_option maxRecDepth 100000 in
set_option maxHeartbeats 4000000 in
theorem reads_walk (hp : Part.ok w ⟨ad, len, cap, l⟩) (hlc : len ≤ cap) (hm : len ≤ 140737488351232) (n : Int) :
    Calls Try.prog 6 #[.slice ad len cap, .int .i64 n] w fun x w' => x = .returned (.bool true) ∧ Below w.heap.size w w' := by
  obtain ⟨E, hE⟩ : ∃ E, decE l n = E := ⟨_, rfl⟩
  obtain ⟨C, hC⟩ : ∃ C, decC l n = C := ⟨_, rfl⟩
  have HSC : Hid (SmallC C.parts) := hid (by rw [← hC]; exact dec_small l n)
  have HP := hid hp
  have b0 : Below w.heap.size w (w.alloc (.cells #[] 5)) := (Below.refl _ _).alloc (Nat.le_refl _) _
  have HD1 : Hid (∀ (X : World) (v : Value), X.ownsRow w.heap.size 5 1 v len (l.map bv) → ∃ adp cp, v = .slice adp len cp ∧ Hid (Calls Try.prog 11 #[.slice adp len cp, .int .i64 n] X fun x w' => ∃ ad' m' c', x = .returned (.tuple #[.agg #[.int .i64 C.owner, .int .i64 C.trim, .slice ad' m' c'], .int .i64 E]) ∧ Hid (CAns w' X.heap.size C.parts ad' m' c') ∧ Below X.heap.size X w')) := hid (fun X v ho => by
    have hown : Own X w.heap.size v l := ⟨hp.2.2.1, by rw [hp.1]; exact ho⟩
    obtain ⟨adp, cp, hv, hok, hcap, -⟩ := hown.slice len hp.1
    refine ⟨adp, cp, hv, hid ?_⟩
    have := decode_any hok hcap (by omega) n
    rw [hE, hC] at this
    exact this)
  have HD2 : Hid (∀ X, Below w.heap.size w X → Calls Try.prog 12 #[.slice ad len cap, .int .i64 n] X fun x w' => ∃ ad' m' c', x = .returned (.tuple #[.agg #[.int .i64 C.owner, .int .i64 C.trim, .slice ad' m' c'], .int .i64 E]) ∧ Hid (CAns w' X.heap.size C.parts ad' m' c') ∧ Below X.heap.size X w') := hid (fun X hX => by
    have := Rf.decode_any (hp.later hX) hlc (by omega) n
    rw [hE, hC] at this
    exact this)
  clear hp hE hC
  go_enter Try.func6, Try.ntmps6
  go_upto_region 3 with (first
    | (at_builtin; refine app_any rfl _ _ rfl w.heap.size (.slice (some ⟨w.heap.size, 0, none⟩) 0 0) 0 [] rfl (empty_own w w.heap.size (Nat.le_refl _)) ad len cap l rfl HP.out.1 HP.out.2.1 (HP.out.2.2.later b0) (by omega) (by simp) ?_; intro v1 w1 hown1 hg1; have B1 := hid (b0.grown hg1 (by simp) (by intro k hk; simp [Value.ownBlock] at hk; omega)); simp only [Nat.zero_add, List.nil_append] at hown1; obtain ⟨adp, cp, rfl, HDC⟩ := HD1.out w1 v1 hown1; clear hg1 hown1)
    | (go_at_call 11; refine HDC.out.mono ?_; rintro x w2 ⟨ad2, m2, c2, rfl, hh, hb⟩; have HA2 := hid hh.out; have B2 := hid (B1.out.trans (hb.mono B1.out.size)); clear hh hb)
    | (go_at_call 12; refine (HD2.out _ (B2.out.alloc B2.out.size _)).mono ?_; rintro x w3 ⟨ad3, m3, c3, rfl, hh, hb⟩; have HA3 := hid hh.out; have HB3 := hid hb; clear hh hb))
  obtain ⟨w8, hw8⟩ : ∃ w8, w3.alloc (.cells #[.int .i64 C.owner, .int .i64 C.trim, .slice ad3 m3 c3] 24) = w8 := ⟨_, rfl⟩
  rw [hw8]
  have n2 : Below w2.heap.size w2 (w2.alloc (.cells #[.int .i64 C.owner, .int .i64 C.trim, .slice ad2 m2 c2] 28)) := (Below.refl _ _).alloc (Nat.le_refl _) _
  have n3 : Below w3.heap.size w3 w8 := by rw [← hw8]; exact (Below.refl _ _).alloc (Nat.le_refl _) _
  have t2 : Below (w2.alloc (.cells #[.int .i64 C.owner, .int .i64 C.trim, .slice ad2 m2 c2] 28)).heap.size (w2.alloc (.cells #[.int .i64 C.owner, .int .i64 C.trim, .slice ad2 m2 c2] 28)) w8 := HB3.out.trans (n3.mono HB3.out.size)
  have HB8 : Hid (Below w.heap.size w w8) := hid (B2.out.trans ((n2.trans (t2.mono n2.size)).mono B2.out.size))
  have HAA2 := hid ((HA2.out.later n2).later t2)
  have HAA3 := hid (HA3.out.later n3)
  have HK2 : Hid (Blk w8 w2.heap.size #[.int .i64 C.owner, .int .i64 C.trim, .slice ad2 m2 c2] 28) := hid ((show Blk (w2.alloc (.cells #[.int .i64 C.owner, .int .i64 C.trim, .slice ad2 m2 c2] 28)) w2.heap.size _ _ from heap_alloc_new w2 _).later t2)
  have HK3 : Hid (Blk w8 w3.heap.size #[.int .i64 C.owner, .int .i64 C.trim, .slice ad3 m3 c3] 24) := hid (by rw [← hw8]; exact heap_alloc_new w3 _)
  clear n2 n3 t2 hw8 HA2 HA3 HB3 B1 B2 HD1 HD2 HDC HP b0
  generalize w2.heap.size = g2 at *
  generalize w3.heap.size = g3 at *
  have HS : Hid (∀ W, Below w8.heap.size w8 W → (W.cell? ⟨g2, 0, none⟩ = some (.int .i64 C.owner) ∧ W.cell? ⟨g2, 1, none⟩ = some (.int .i64 C.trim) ∧ W.cell? ⟨g2, 2, none⟩ = some (.slice ad2 m2 c2)) ∧ (W.cell? ⟨g3, 0, none⟩ = some (.int .i64 C.owner) ∧ W.cell? ⟨g3, 1, none⟩ = some (.int .i64 C.trim) ∧ W.cell? ⟨g3, 2, none⟩ = some (.slice ad3 m3 c3))) := hid (fun W hW => by
    have k2 := HK2.out.later hW
    have k3 := HK3.out.later hW
    exact ⟨⟨k2.cell 0, k2.cell 1, k2.cell 2⟩, ⟨k3.cell 0, k3.cell 1, k3.cell 2⟩⟩)
  have HO : Hid (∀ X, Below w8.heap.size w8 X → Calls Try.prog 7 #[.agg #[.int .i64 C.owner, .int .i64 C.trim, .slice ad3 m3 c3]] X fun x w' => ∃ ad' c', x = .returned (.agg #[.int .i64 C.owner, .int .i64 C.trim, .slice ad' m3 c']) ∧ Hid (CAns w' X.heap.size C.parts ad' m3 c') ∧ Below X.heap.size X w') := hid (fun X hX => own_small (HAA3.out.later hX) HSC.out _ _)
  have HSM : Hid (∀ (X : World) (adp : Option Addr) (cp : Nat) {N : Nat}, Below w8.heap.size w8 X → CAns X N C.parts adp m3 cp → Calls Try.prog 16 #[.agg #[.int .i64 C.owner, .int .i64 C.trim, .slice ad2 m2 c2], .agg #[.int .i64 C.owner, .int .i64 C.trim, .slice adp m3 cp]] X fun x w' => x = .returned (.bool true) ∧ Below X.heap.size X w') := hid (fun X adp cp N hX hp => same_ans (HAA2.out.later hX) hp _ _)
  refine wp_region_held_drew (S := fun W => (W.cell? ⟨g2, 0, none⟩ = some (.int .i64 C.owner) ∧ W.cell? ⟨g2, 1, none⟩ = some (.int .i64 C.trim) ∧ W.cell? ⟨g2, 2, none⟩ = some (.slice ad2 m2 c2)) ∧ (W.cell? ⟨g3, 0, none⟩ = some (.int .i64 C.owner) ∧ W.cell? ⟨g3, 1, none⟩ = some (.int .i64 C.trim) ∧ W.cell? ⟨g3, 2, none⟩ = some (.slice ad3 m3 c3))) (by kernel_rfl) (HS.out _ (Below.refl _ _).drew) (fun hHeld => ?_)
  refine wpAnyH_take (i := 0) (oi := { dst := some 23, op := Op.load 28 (Operand.tmp 5), type := 28, pos := "law.go:156", after := #[], guard := none }) (v := ?_) rfl (by kernel_rfl) (by kernel_rfl) (by kernel_rfl) (fun _ _ _ h => h) (Or.inl ⟨by rfl, ?_⟩) hHeld ?_
  rotate_left
  · intro w hSw; (try dsimp only at hSw); go_simp; try with_reducible rfl
  try simp only [Act.put, List.setIfInBounds_toArray, List.set_cons_zero, List.set_cons_succ]
  refine wpAnyH_take (i := 1) (oi := { dst := some 24, op := Op.load 24 (Operand.tmp 7), type := 24, pos := "law.go:156", after := #[], guard := none }) (v := ?_) rfl (by kernel_rfl) (by kernel_rfl) (by kernel_rfl) (fun _ _ _ h => h) (Or.inl ⟨by rfl, ?_⟩) hHeld ?_
  rotate_left
  · intro w hSw; (try dsimp only at hSw); go_simp; try with_reducible rfl
  try simp only [Act.put, List.setIfInBounds_toArray, List.set_cons_zero, List.set_cons_succ]
  refine wpAnyH_ready (rs := [2]) (by kernel_rfl) (by simp) ?_
  refine AllReadyH.cons rfl (fun K hK => ?_) (AllReadyH.nil)
  go_simp
  go_wp2_with (go_at_call 7; refine (HO.out _ (Below.refl w8.heap.size w8).drew).mono ?_; rintro x x1 ⟨adp, cp, rfl, hp, hb⟩; have Hx1 := hid (((Below.refl w8.heap.size w8).drew).trans (hb.mono ((Below.refl w8.heap.size w8).drew).size)); clear hb)
  refine hK.out _ _ (HS.out _ Hx1.out) (fun hHeld => ?_)
  clear hK K
  try simp only [Act.put, List.setIfInBounds_toArray, List.set_cons_zero, List.set_cons_succ]
  refine wpAnyH_ready (rs := [3]) (by kernel_rfl) (by simp) ?_
  refine AllReadyH.cons rfl (fun K hK => ?_) (AllReadyH.nil)
  go_simp
  go_wp2_with (go_at_call 16; refine (HSM.out _ _ _ Hx1.out hp.out).mono ?_; rintro x x2 ⟨rfl, hb⟩; have Hx2 := hid (Hx1.out.trans (hb.mono Hx1.out.size)); clear hb hp)
  refine hK.out _ _ (HS.out _ Hx2.out) (fun hHeld => ?_)
  clear hK K
  try simp only [Act.put, List.setIfInBounds_toArray, List.set_cons_zero, List.set_cons_succ]
  refine wpAnyH_take (i := 4) (oi := { dst := some 27, op := Op.move (Operand.tmp 26), type := 4, pos := "law.go:156", after := #[{ on := 3, ground := Ground.data }, { on := 3, ground := Ground.chain }], guard := none }) (v := ?_) rfl (by kernel_rfl) (by kernel_rfl) (by kernel_rfl) (fun _ _ _ h => h) (Or.inl ⟨by rfl, ?_⟩) hHeld ?_
  rotate_left
  · intro w hSw; (try dsimp only at hSw); go_simp; try with_reducible rfl
  try simp only [Act.put, List.setIfInBounds_toArray, List.set_cons_zero, List.set_cons_succ]
  refine wpAnyH_take (i := 5) (oi := { dst := some 28, op := Op.move (Operand.tmp 6), type := 31, pos := "law.go:156", after := #[{ on := 4, ground := Ground.guard }], guard := some (4, true) }) (v := ?_) rfl (by kernel_rfl) (by kernel_rfl) (by kernel_rfl) (fun _ _ _ h => h) (Or.inl ⟨by rfl, ?_⟩) hHeld ?_
  rotate_left
  · intro w hSw; (try dsimp only at hSw); go_simp; try with_reducible rfl
  try simp only [Act.put, List.setIfInBounds_toArray, List.set_cons_zero, List.set_cons_succ]
  refine wpAnyH_take (i := 7) (oi := { dst := some 30, op := Op.move (Operand.tmp 8), type := 3, pos := "law.go:156", after := #[{ on := 4, ground := Ground.guard }], guard := some (4, true) }) (v := ?_) rfl (by kernel_rfl) (by kernel_rfl) (by kernel_rfl) (fun _ _ _ h => h) (Or.inl ⟨by rfl, ?_⟩) hHeld ?_
  rotate_left
  · intro w hSw; (try dsimp only at hSw); go_simp; try with_reducible rfl
  try simp only [Act.put, List.setIfInBounds_toArray, List.set_cons_zero, List.set_cons_succ]
  refine wpAnyH_ready (rs := [6]) (by kernel_rfl) (by simp) ?_
  refine AllReadyH.cons rfl (fun K hK => ?_) (AllReadyH.nil)
  go_simp
  go_wp2_with (go_at_call 13; refine (num10_any _ _).mono ?_; rintro x wn ⟨rfl, hwn⟩; obtain rfl := hwn.symm)
  refine hK.out _ _ (HS.out _ Hx2.out) (fun hHeld => ?_)
  clear hK K
  try simp only [Act.put, List.setIfInBounds_toArray, List.set_cons_zero, List.set_cons_succ]
  refine wpAnyH_take (i := 8) (oi := { dst := some 31, op := Op.binOp BinOp.eql 3 (Operand.tmp 29) (Operand.tmp 30) 3, type := 4, pos := "law.go:156", after := #[{ on := 6, ground := Ground.data }, { on := 7, ground := Ground.data }, { on := 4, ground := Ground.guard }], guard := some (4, true) }) (v := ?_) rfl (by kernel_rfl) (by kernel_rfl) (by kernel_rfl) (fun _ _ _ h => h) (Or.inl ⟨by rfl, ?_⟩) hHeld ?_
  rotate_left
  · intro w hSw; (try dsimp only at hSw); go_simp; try with_reducible rfl
  try simp only [Act.put, List.setIfInBounds_toArray, List.set_cons_zero, List.set_cons_succ]
  refine wpAnyH_take (i := 9) (oi := { dst := some 32, op := Op.pick (Operand.tmp 27) (Operand.tmp 31) (Operand.const (Value.bool false)), type := 4, pos := "law.go:156", after := #[{ on := 4, ground := Ground.data }, { on := 8, ground := Ground.data }], guard := none }) (v := ?_) rfl (by kernel_rfl) (by kernel_rfl) (by kernel_rfl) (fun _ _ _ h => h) (Or.inl ⟨by rfl, ?_⟩) hHeld ?_
  rotate_left
  · intro w hSw; (try dsimp only at hSw); go_simp; try with_reducible rfl
  try simp only [Act.put, List.setIfInBounds_toArray, List.set_cons_zero, List.set_cons_succ]
  refine wpAnyH_take (i := 10) (oi := { dst := some 33, op := Op.move (Operand.tmp 32), type := 4, pos := "law.go:156", after := #[{ on := 9, ground := Ground.data }, { on := 6, ground := Ground.chain }], guard := none }) (v := ?_) rfl (by kernel_rfl) (by kernel_rfl) (by kernel_rfl) (fun _ _ _ h => h) (Or.inl ⟨by rfl, ?_⟩) hHeld ?_
  rotate_left
  · intro w hSw; (try dsimp only at hSw); go_simp; try with_reducible rfl
  try simp only [Act.put, List.setIfInBounds_toArray, List.set_cons_zero, List.set_cons_succ]
  refine wpAnyH_ready (rs := [11]) (by kernel_rfl) (by simp) ?_
  refine AllReadyH.cons rfl (fun K hK => ?_) (AllReadyH.nil)
  go_simp
  go_wp2_with (go_at_call 18; refine (knows10 _).mono ?_; rintro x x3 ⟨rfl, hb⟩; have Hx3 := hid (Hx2.out.trans (hb.mono Hx2.out.size)); clear hb)
  refine hK.out _ _ (HS.out _ Hx3.out) (fun hHeld => ?_)
  clear hK K
  try simp only [Act.put, List.setIfInBounds_toArray, List.set_cons_zero, List.set_cons_succ]
  refine wpAnyH_take (i := 12) (oi := { dst := some 35, op := Op.pick (Operand.tmp 33) (Operand.tmp 34) (Operand.const (Value.bool false)), type := 4, pos := "law.go:156", after := #[{ on := 10, ground := Ground.data }, { on := 11, ground := Ground.data }], guard := none }) (v := ?_) rfl (by kernel_rfl) (by kernel_rfl) (by kernel_rfl) (fun _ _ _ h => h) (Or.inl ⟨by rfl, ?_⟩) hHeld ?_
  rotate_left
  · intro w hSw; (try dsimp only at hSw); go_simp; try with_reducible rfl
  try simp only [Act.put, List.setIfInBounds_toArray, List.set_cons_zero, List.set_cons_succ]
  refine wpAnyH_take (i := 13) (oi := { dst := some 4, op := Op.assign (Operand.tmp 35), type := 4, pos := "law.go:156", after := #[{ on := 12, ground := Ground.data }, { on := 11, ground := Ground.chain }, { on := 0, ground := Ground.phase }, { on := 1, ground := Ground.phase }, { on := 2, ground := Ground.phase }, { on := 3, ground := Ground.phase }, { on := 4, ground := Ground.phase }, { on := 5, ground := Ground.phase }, { on := 6, ground := Ground.phase }, { on := 7, ground := Ground.phase }, { on := 8, ground := Ground.phase }, { on := 9, ground := Ground.phase }, { on := 10, ground := Ground.phase }, { on := 11, ground := Ground.phase }, { on := 12, ground := Ground.phase }], guard := none }) (v := ?_) rfl (by kernel_rfl) (by kernel_rfl) (by kernel_rfl) (fun _ _ _ h => h) (Or.inl ⟨by rfl, ?_⟩) hHeld ?_
  rotate_left
  · intro w hSw; (try dsimp only at hSw); go_simp; try with_reducible rfl
  try simp only [Act.put, List.setIfInBounds_toArray, List.set_cons_zero, List.set_cons_succ]
  refine wpAnyH_done (by kernel_rfl) ?_ _
  go_wp2_with fail
  go_ret
  exact ⟨rfl, HB8.out.trans (Hx3.out.mono HB8.out.size)⟩
end Go.Proofs.Ythadagpfmacemaa
