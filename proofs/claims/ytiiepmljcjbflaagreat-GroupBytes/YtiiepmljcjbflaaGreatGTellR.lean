/- write and PutEvent of the document's package: the bytes of an event (P1502; by gentell15.py). -/
import Derived.Test.YtiiepmljcjbflaaGreatGTellM
import Derived.Test.YtiiepmljcjbflaaGreatPGXRef
import Derived.Test.YtiiepmljcjbflaaGreatRTk15
namespace Go.Proofs.YtiiepmljcjbflaaGreat
open Go.RowKit Crcm
variable {w w' : World}

theorem blk_grown {base B : Nat} {cs : Array Value} {v : Value} {L : List Nat} (hB : Blk w B cs 3) (hO : Own w base v L) (hg : w.grownBy w' v.ownBlock) : Blk w' B cs 3 := by
  refine (hg.block B hB.lt (fun e => ?_)).trans hB
  rcases hO.2.2 with ⟨e2, -⟩ | ⟨g, cap, cur, e2, -, hgc, -⟩
  · rw [e2] at e; cases e
  · rw [e2] at e
    have h3 : B = g := by injection e
    subst h3
    have hB2 : w.heap[B]? = some (.cells cs 3 (0, 0)) := hB
    rw [hB2] at hgc
    injection hgc with h4
    injection h4 with h5 h6
    exact absurd h6 (by decide)
set_option maxRecDepth 100000 in
set_option maxHeartbeats 8000000 in
theorem write_any (x : Ev) (hf : FitE x) (w : World) : Calls Tryz.prog 30 #[.agg (evA x)] w fun r w' => ∃ v, r = .returned v ∧ Own w' w.heap.size v (tellE x) ∧ Below w.heap.size w w' := by
  have HPl := hid (preT_len x)
  have HLt := hid (preT_lt x)
  have HPs := hid (preT_s x)
  have HP0 := hid (preT_0 x)
  have HBo := hid (bodyT_pre x)
  have hbl := bodyT_len x
  have HTe : Hid (tellE x = frameBs 32 (bodyT x)) := hid rfl
  obtain ⟨k, nm, a, b, c, d, e, f, y⟩ := x
  obtain ⟨hk, ha, hb, hc, hd, he, hff, hn⟩ := hf
  dsimp only at hk ha hb hc hd he hff hn
  obtain ⟨k, rfl⟩ := Int.eq_ofNat_of_zero_le hk.1
  obtain ⟨a, rfl⟩ := Int.eq_ofNat_of_zero_le ha.1
  obtain ⟨b, rfl⟩ := Int.eq_ofNat_of_zero_le hb.1
  obtain ⟨c, rfl⟩ := Int.eq_ofNat_of_zero_le hc.1
  obtain ⟨d, rfl⟩ := Int.eq_ofNat_of_zero_le hd.1
  obtain ⟨e, rfl⟩ := Int.eq_ofNat_of_zero_le he.1
  obtain ⟨f, rfl⟩ := Int.eq_ofNat_of_zero_le hff.1
  have hk2 : k < 256 := by omega
  have hbl2 : (bodyT ⟨(k : Int), nm, (a : Int), (b : Int), (c : Int), (d : Int), (e : Int), (f : Int), y⟩).length ≤ 104 := by rw [hbl]; show 40 + nm.length ≤ 104; omega
  obtain ⟨bd, hbd⟩ : ∃ bd, bodyT ⟨(k : Int), nm, (a : Int), (b : Int), (c : Int), (d : Int), (e : Int), (f : Int), y⟩ = bd := ⟨_, rfl⟩
  rw [hbd] at HBo HTe hbl2
  obtain ⟨pr, hpr⟩ : ∃ pr, preT ⟨(k : Int), nm, (a : Int), (b : Int), (c : Int), (d : Int), (e : Int), (f : Int), y⟩ = pr := ⟨_, rfl⟩
  rw [hpr] at HPl HLt HPs HP0 HBo
  dsimp only [Int.toNat_natCast] at HPs HP0
  obtain ⟨t, ht⟩ : ∃ t, nmS nm = t := ⟨_, rfl⟩
  have htz : t.size ≤ 64 := by rw [← ht, nmS_sizeB]; exact hn
  have hTx := textN_ok t (by omega)
  have HBo2 : Hid (bd = pr 6 ++ (textN t).2) := by rw [hTx, ← ht]; exact HBo.out
  have HFr : Hid (frameN 32 bd = (0, tellE ⟨(k : Int), nm, (a : Int), (b : Int), (c : Int), (d : Int), (e : Int), (f : Int), y⟩)) := by rw [HTe.out]; exact frameN_ok 32 bd (by omega) (by omega)
  have hyl : yesN y < 256 := by unfold yesN; split <;> omega
  have HF0 : Hid (pr 0 = [k, yesN y]) := by rw [HP0.out, spell1 k hk2, spell1 _ hyl]; rfl
  have HSp := hid (fun (n s : Nat) (h6 : s ≤ 6) (W : World) => bytes_any n s W h6)
  have HTx := hid (fun W => refText_any t W (by unfold maxLen; omega))
  have HTl : Hid ((textN t).2.length = 2 + t.size) := hid (by rw [hTx]; simp [spellN_length, sbytes_length])
  have HTy : Hid (∀ z ∈ (textN t).2, z < 256) := by
    rw [hTx]
    intro z hz
    rcases List.mem_append.1 hz with h | h
    · exact spellN_lt _ _ z h
    · exact sbytes_lt _ z h
  show Calls Tryz.prog 30 #[.agg #[.int .i64 (k : Int), .string (nmS nm), .int .i64 (a : Int), .int .i64 (b : Int), .int .i64 (c : Int), .int .i64 (d : Int), .int .i64 (e : Int), .int .i64 (f : Int), .bool y]] w _
  rw [ht]
  obtain ⟨R, hR⟩ : ∃ R, tellE ⟨(k : Int), nm, (a : Int), (b : Int), (c : Int), (d : Int), (e : Int), (f : Int), y⟩ = R := ⟨_, rfl⟩
  rw [hR] at HFr
  have hGoal : ∀ (Q : List Nat → Prop), Q R → Q (tellE ⟨(k : Int), nm, (a : Int), (b : Int), (c : Int), (d : Int), (e : Int), (f : Int), y⟩) := fun Q h => by rw [hR]; exact h
  rw [hR]
  have hkw : IntKind.u8.wrap (k : Int) = (k : Int) := by rw [IntKind.wrap_u8]; omega
  have HNu : Hid (∀ W, Calls Tryz.prog 52 #[.agg #[.int .i64 (k : Int), .string t, .int .i64 (a : Int), .int .i64 (b : Int), .int .i64 (c : Int), .int .i64 (d : Int), .int .i64 (e : Int), .int .i64 (f : Int), .bool y]] W fun e9 w' => e9 = .returned (.agg #[.int .i64 (a : Int), .int .i64 (b : Int), .int .i64 (c : Int), .int .i64 (d : Int), .int .i64 (e : Int), .int .i64 (f : Int)]) ∧ Below W.heap.size W w') := fun W => by
    have h := numbers_any ⟨(k : Int), nm, (a : Int), (b : Int), (c : Int), (d : Int), (e : Int), (f : Int), y⟩ W
    rw [← ht]
    exact h
  obtain ⟨W0, hW0⟩ : ∃ W0, w.alloc (.cells #[.int .i64 (k : Int), .string t, .int .i64 (a : Int), .int .i64 (b : Int), .int .i64 (c : Int), .int .i64 (d : Int), .int .i64 (e : Int), .int .i64 (f : Int), .bool y] REv) = W0 := ⟨_, rfl⟩
  have b0 : Below w.heap.size w W0 := by rw [← hW0]; exact (Below.refl _ _).alloc (Nat.le_refl _) _
  have x0 : Blk W0 w.heap.size #[.int .i64 (k : Int), .string t, .int .i64 (a : Int), .int .i64 (b : Int), .int .i64 (c : Int), .int .i64 (d : Int), .int .i64 (e : Int), .int .i64 (f : Int), .bool y] REv := by rw [← hW0]; exact heap_alloc_new w _
  have HB0 := hid b0
  have HS : Hid (∀ W, Below W0.heap.size W0 W → W.cell? ⟨w.heap.size, 0, none⟩ = some (.int .i64 (k : Int)) ∧ W.cell? ⟨w.heap.size, 1, none⟩ = some (.string t) ∧ W.cell? ⟨w.heap.size, 2, none⟩ = some (.int .i64 (a : Int)) ∧ W.cell? ⟨w.heap.size, 3, none⟩ = some (.int .i64 (b : Int)) ∧ W.cell? ⟨w.heap.size, 4, none⟩ = some (.int .i64 (c : Int)) ∧ W.cell? ⟨w.heap.size, 5, none⟩ = some (.int .i64 (d : Int)) ∧ W.cell? ⟨w.heap.size, 6, none⟩ = some (.int .i64 (e : Int)) ∧ W.cell? ⟨w.heap.size, 7, none⟩ = some (.int .i64 (f : Int)) ∧ W.cell? ⟨w.heap.size, 8, none⟩ = some (.bool y)) := fun W hW => by
    have hx := x0.later hW
    exact ⟨hx.cell 0, hx.cell 1, hx.cell 2, hx.cell 3, hx.cell 4, hx.cell 5, hx.cell 6, hx.cell 7, hx.cell 8⟩
  have HHb : Hid (a < 281474976710656 ∧ b < 281474976710656 ∧ c < 281474976710656 ∧ d < 281474976710656 ∧ e < 281474976710656 ∧ f < 281474976710656 ∧ k < 256 ∧ yesN y < 256 ∧ t.size ≤ 64 ∧ bd.length ≤ 104) := ⟨by omega, by omega, by omega, by omega, by omega, by omega, hk2, hyl, htz, hbl2⟩
  obtain ⟨c0, c1, c2, c3, c4, c5, c6, c7, c8⟩ := HS.out W0 (Below.refl _ _)
  clear b0 x0 hbl hbd hpr ht hTx hk ha hb hc hd he hff hn hyl htz hbl2 hGoal hR hk2 HBo HP0
  cases y with
  | false =>
    clear HNu
    have HO0 : Hid (Own (W0.alloc (.cells #[.int .u8 (k : Int), .int .u8 0] 5)) W0.heap.size (.slice (some ⟨W0.heap.size, 0, none⟩) 2 2) (pr 0)) := by rw [HF0.out]; exact two_own W0 k 0 HHb.out.2.2.2.2.2.2.1 (by omega)
    have d1 : ∀ o, (W0.alloc o).cell? ⟨w.heap.size, 1, none⟩ = some (.string t) := fun o => by rw [(show Below W0.heap.size W0 (W0.alloc o) from (Below.refl _ _).alloc (Nat.le_refl _) _).cell (p := ⟨w.heap.size, 1, none⟩) (World.block_lt_of_cell? W0 ⟨w.heap.size, 1, none⟩ c1)]; exact c1
    have d2 : ∀ o, (W0.alloc o).cell? ⟨w.heap.size, 2, none⟩ = some (.int .i64 (a : Int)) := fun o => by rw [(show Below W0.heap.size W0 (W0.alloc o) from (Below.refl _ _).alloc (Nat.le_refl _) _).cell (p := ⟨w.heap.size, 2, none⟩) (World.block_lt_of_cell? W0 ⟨w.heap.size, 2, none⟩ c2)]; exact c2
    have d3 : ∀ o, (W0.alloc o).cell? ⟨w.heap.size, 3, none⟩ = some (.int .i64 (b : Int)) := fun o => by rw [(show Below W0.heap.size W0 (W0.alloc o) from (Below.refl _ _).alloc (Nat.le_refl _) _).cell (p := ⟨w.heap.size, 3, none⟩) (World.block_lt_of_cell? W0 ⟨w.heap.size, 3, none⟩ c3)]; exact c3
    have d4 : ∀ o, (W0.alloc o).cell? ⟨w.heap.size, 4, none⟩ = some (.int .i64 (c : Int)) := fun o => by rw [(show Below W0.heap.size W0 (W0.alloc o) from (Below.refl _ _).alloc (Nat.le_refl _) _).cell (p := ⟨w.heap.size, 4, none⟩) (World.block_lt_of_cell? W0 ⟨w.heap.size, 4, none⟩ c4)]; exact c4
    have d5 : ∀ o, (W0.alloc o).cell? ⟨w.heap.size, 5, none⟩ = some (.int .i64 (d : Int)) := fun o => by rw [(show Below W0.heap.size W0 (W0.alloc o) from (Below.refl _ _).alloc (Nat.le_refl _) _).cell (p := ⟨w.heap.size, 5, none⟩) (World.block_lt_of_cell? W0 ⟨w.heap.size, 5, none⟩ c5)]; exact c5
    have d6 : ∀ o, (W0.alloc o).cell? ⟨w.heap.size, 6, none⟩ = some (.int .i64 (e : Int)) := fun o => by rw [(show Below W0.heap.size W0 (W0.alloc o) from (Below.refl _ _).alloc (Nat.le_refl _) _).cell (p := ⟨w.heap.size, 6, none⟩) (World.block_lt_of_cell? W0 ⟨w.heap.size, 6, none⟩ c6)]; exact c6
    have d7 : ∀ o, (W0.alloc o).cell? ⟨w.heap.size, 7, none⟩ = some (.int .i64 (f : Int)) := fun o => by rw [(show Below W0.heap.size W0 (W0.alloc o) from (Below.refl _ _).alloc (Nat.le_refl _) _).cell (p := ⟨w.heap.size, 7, none⟩) (World.block_lt_of_cell? W0 ⟨w.heap.size, 7, none⟩ c7)]; exact c7
    have d8 : ∀ o, (W0.alloc o).cell? ⟨w.heap.size, 8, none⟩ = some (.bool false) := fun o => by rw [(show Below W0.heap.size W0 (W0.alloc o) from (Below.refl _ _).alloc (Nat.le_refl _) _).cell (p := ⟨w.heap.size, 8, none⟩) (World.block_lt_of_cell? W0 ⟨w.heap.size, 8, none⟩ c8)]; exact c8
    have HI0 : Hid (Own ((W0.alloc (.cells #[.int .u8 (k : Int), .int .u8 0] 5)).alloc (.cells #[.int .i64 (a : Int), .int .i64 (b : Int), .int .i64 (c : Int), .int .i64 (d : Int), .int .i64 (e : Int), .int .i64 (f : Int)] 3)) W0.heap.size (.slice (some ⟨W0.heap.size, 0, none⟩) 2 2) (pr 0) ∧ Below W0.heap.size W0 ((W0.alloc (.cells #[.int .u8 (k : Int), .int .u8 0] 5)).alloc (.cells #[.int .i64 (a : Int), .int .i64 (b : Int), .int .i64 (c : Int), .int .i64 (d : Int), .int .i64 (e : Int), .int .i64 (f : Int)] 3)) ∧ Blk ((W0.alloc (.cells #[.int .u8 (k : Int), .int .u8 0] 5)).alloc (.cells #[.int .i64 (a : Int), .int .i64 (b : Int), .int .i64 (c : Int), .int .i64 (d : Int), .int .i64 (e : Int), .int .i64 (f : Int)] 3)) (W0.heap.size + 1) #[.int .i64 (a : Int), .int .i64 (b : Int), .int .i64 (c : Int), .int .i64 (d : Int), .int .i64 (e : Int), .int .i64 (f : Int)] 3) := by
      refine ⟨HO0.out.later ((Below.refl _ _).alloc (Nat.le_refl _) _), ((Below.refl _ W0).alloc (Nat.le_refl _) _).alloc (by simp) _, ?_⟩
      have h := heap_alloc_new (W0.alloc (.cells #[.int .u8 (k : Int), .int .u8 0] 5)) (.cells #[.int .i64 (a : Int), .int .i64 (b : Int), .int .i64 (c : Int), .int .i64 (d : Int), .int .i64 (e : Int), .int .i64 (f : Int)] 3)
      rw [World.size_alloc] at h
      exact h
    go_enter Tryz.func30, Tryz.ntmps30
    go_wp2_with fail
    go_loopw [4, 6] (fun bv_ iv wr => ∃ (j : Nat) (aj : Option Addr) (cj : Nat), j ≤ 6 ∧ iv = .int .i64 (j : Int) ∧ bv_ = .slice aj (2 + 6 * j) cj ∧ Hid (Own wr W0.heap.size (.slice aj (2 + 6 * j) cj) (pr j) ∧ Below W0.heap.size W0 wr ∧ Blk wr (W0.heap.size + 1) #[.int .i64 (a : Int), .int .i64 (b : Int), .int .i64 (c : Int), .int .i64 (d : Int), .int .i64 (e : Int), .int .i64 (f : Int)] 3)) (fun _ iv _ => 6 - (intOf iv).toNat)
    case atStart => exact ⟨0, _, 2, by omega, rfl, rfl, HI0⟩
    case round =>
      obtain ⟨j, aj, cj, hj, rfl, rfl, HI⟩ := hrel
      obtain ⟨wo, rfl⟩ : ∃ q, q = wr := ⟨wr, rfl⟩
      have hws := HI.out.2.1.size
      clear c0 c1 c2 c3 c4 c5 c6 c7 c8 d1 d2 d3 d4 d5 d6 d7 d8
      obtain ⟨c0, c1, c2, c3, c4, c5, c6, c7, c8⟩ := HS.out wo HI.out.2.1
      have f0 : wo.cell? ⟨W0.heap.size + 1, 0, none⟩ = some (.int .i64 (a : Int)) := HI.out.2.2.cell 0
      have f1 : wo.cell? ⟨W0.heap.size + 1, 1, none⟩ = some (.int .i64 (b : Int)) := HI.out.2.2.cell 1
      have f2 : wo.cell? ⟨W0.heap.size + 1, 2, none⟩ = some (.int .i64 (c : Int)) := HI.out.2.2.cell 2
      have f3 : wo.cell? ⟨W0.heap.size + 1, 3, none⟩ = some (.int .i64 (d : Int)) := HI.out.2.2.cell 3
      have f4 : wo.cell? ⟨W0.heap.size + 1, 4, none⟩ = some (.int .i64 (e : Int)) := HI.out.2.2.cell 4
      have f5 : wo.cell? ⟨W0.heap.size + 1, 5, none⟩ = some (.int .i64 (f : Int)) := HI.out.2.2.cell 5
      rcases (show j = 0 ∨ j = 1 ∨ j = 2 ∨ j = 3 ∨ j = 4 ∨ j = 5 ∨ j = 6 by omega) with rfl | rfl | rfl | rfl | rfl | rfl | rfl
      · have HSj : Hid (Calls Tryz.prog 59 #[.int .i64 (a : Int), .int .i64 6] wo fun e9 w' => ∃ v, e9 = .returned v ∧ Own w' wo.heap.size v (spellN a 6) ∧ Below wo.heap.size wo w') := HSp.out a 6 (by omega) wo
        go_wp2_with (first
          | (go_at_call 59; (with_reducible_and_instances (refine HSj.out.mono ?_)); rintro r w5 ⟨v5, rfl, ho5, hb5⟩; obtain ⟨a5, c5', hv5, hq5, -, -⟩ := ho5.slice 6 (spellN_length _ _); subst hv5; have HQ5 := hid hq5; have HO5 := hid (HI.out.1.later hb5); have HF5 := hid (HI.out.2.2.later hb5); have HB5 := hid (HI.out.2.1.trans (hb5.mono HI.out.2.1.size)); clear ho5 hb5 hq5)
          | (at_builtin; refine app_any rfl (.tmp 37) (.tmp 42) rfl W0.heap.size (.slice aj (2 + 6 * 0) cj) (2 + 6 * 0) (pr 0) rfl (by have h := HO5.out.2; rw [HPl.out 0 (by omega)] at h; exact h) a5 6 c5' (spellN a 6) rfl (spellN_length _ _) HQ5.out.2.1 HQ5.out.2.2 (by omega) HB5.out.size ?_; intro v6 w6 ho6 hg6; have HF6 := hid (blk_grown HF5.out HO5.out hg6); have HB6 := hid (HB5.out.grown hg6 HB5.out.size (fun q hq => own_fromT HO5.out q hq)); have HO6 : Hid (Own w6 W0.heap.size v6 (pr 1)) := by { rw [HPs.out.1]; exact own_mkT ho6 (by rw [List.length_append, HPl.out 0 (by omega), spellN_length]) (fun z hz => (List.mem_append.1 hz).elim (HLt.out 0 z) (spellN_lt _ _ z)) }; obtain ⟨a6, c6', hv6, -, -, -⟩ := HO6.out.slice (2 + 6 * 1) (HPl.out 1 (by omega)); subst hv6; clear ho6 hg6))
        exact ⟨⟨1, a6, c6', by omega, by go_num, rfl, ⟨HO6.out, HB6.out, HF6.out⟩⟩, by simp [intOf]⟩
      · have HSj : Hid (Calls Tryz.prog 59 #[.int .i64 (b : Int), .int .i64 6] wo fun e9 w' => ∃ v, e9 = .returned v ∧ Own w' wo.heap.size v (spellN b 6) ∧ Below wo.heap.size wo w') := HSp.out b 6 (by omega) wo
        go_wp2_with (first
          | (go_at_call 59; (with_reducible_and_instances (refine HSj.out.mono ?_)); rintro r w5 ⟨v5, rfl, ho5, hb5⟩; obtain ⟨a5, c5', hv5, hq5, -, -⟩ := ho5.slice 6 (spellN_length _ _); subst hv5; have HQ5 := hid hq5; have HO5 := hid (HI.out.1.later hb5); have HF5 := hid (HI.out.2.2.later hb5); have HB5 := hid (HI.out.2.1.trans (hb5.mono HI.out.2.1.size)); clear ho5 hb5 hq5)
          | (at_builtin; refine app_any rfl (.tmp 37) (.tmp 42) rfl W0.heap.size (.slice aj (2 + 6 * 1) cj) (2 + 6 * 1) (pr 1) rfl (by have h := HO5.out.2; rw [HPl.out 1 (by omega)] at h; exact h) a5 6 c5' (spellN b 6) rfl (spellN_length _ _) HQ5.out.2.1 HQ5.out.2.2 (by omega) HB5.out.size ?_; intro v6 w6 ho6 hg6; have HF6 := hid (blk_grown HF5.out HO5.out hg6); have HB6 := hid (HB5.out.grown hg6 HB5.out.size (fun q hq => own_fromT HO5.out q hq)); have HO6 : Hid (Own w6 W0.heap.size v6 (pr 2)) := by { rw [HPs.out.2.1]; exact own_mkT ho6 (by rw [List.length_append, HPl.out 1 (by omega), spellN_length]) (fun z hz => (List.mem_append.1 hz).elim (HLt.out 1 z) (spellN_lt _ _ z)) }; obtain ⟨a6, c6', hv6, -, -, -⟩ := HO6.out.slice (2 + 6 * 2) (HPl.out 2 (by omega)); subst hv6; clear ho6 hg6))
        exact ⟨⟨2, a6, c6', by omega, by go_num, rfl, ⟨HO6.out, HB6.out, HF6.out⟩⟩, by simp [intOf]⟩
      · have HSj : Hid (Calls Tryz.prog 59 #[.int .i64 (c : Int), .int .i64 6] wo fun e9 w' => ∃ v, e9 = .returned v ∧ Own w' wo.heap.size v (spellN c 6) ∧ Below wo.heap.size wo w') := HSp.out c 6 (by omega) wo
        go_wp2_with (first
          | (go_at_call 59; (with_reducible_and_instances (refine HSj.out.mono ?_)); rintro r w5 ⟨v5, rfl, ho5, hb5⟩; obtain ⟨a5, c5', hv5, hq5, -, -⟩ := ho5.slice 6 (spellN_length _ _); subst hv5; have HQ5 := hid hq5; have HO5 := hid (HI.out.1.later hb5); have HF5 := hid (HI.out.2.2.later hb5); have HB5 := hid (HI.out.2.1.trans (hb5.mono HI.out.2.1.size)); clear ho5 hb5 hq5)
          | (at_builtin; refine app_any rfl (.tmp 37) (.tmp 42) rfl W0.heap.size (.slice aj (2 + 6 * 2) cj) (2 + 6 * 2) (pr 2) rfl (by have h := HO5.out.2; rw [HPl.out 2 (by omega)] at h; exact h) a5 6 c5' (spellN c 6) rfl (spellN_length _ _) HQ5.out.2.1 HQ5.out.2.2 (by omega) HB5.out.size ?_; intro v6 w6 ho6 hg6; have HF6 := hid (blk_grown HF5.out HO5.out hg6); have HB6 := hid (HB5.out.grown hg6 HB5.out.size (fun q hq => own_fromT HO5.out q hq)); have HO6 : Hid (Own w6 W0.heap.size v6 (pr 3)) := by { rw [HPs.out.2.2.1]; exact own_mkT ho6 (by rw [List.length_append, HPl.out 2 (by omega), spellN_length]) (fun z hz => (List.mem_append.1 hz).elim (HLt.out 2 z) (spellN_lt _ _ z)) }; obtain ⟨a6, c6', hv6, -, -, -⟩ := HO6.out.slice (2 + 6 * 3) (HPl.out 3 (by omega)); subst hv6; clear ho6 hg6))
        exact ⟨⟨3, a6, c6', by omega, by go_num, rfl, ⟨HO6.out, HB6.out, HF6.out⟩⟩, by simp [intOf]⟩
      · have HSj : Hid (Calls Tryz.prog 59 #[.int .i64 (d : Int), .int .i64 6] wo fun e9 w' => ∃ v, e9 = .returned v ∧ Own w' wo.heap.size v (spellN d 6) ∧ Below wo.heap.size wo w') := HSp.out d 6 (by omega) wo
        go_wp2_with (first
          | (go_at_call 59; (with_reducible_and_instances (refine HSj.out.mono ?_)); rintro r w5 ⟨v5, rfl, ho5, hb5⟩; obtain ⟨a5, c5', hv5, hq5, -, -⟩ := ho5.slice 6 (spellN_length _ _); subst hv5; have HQ5 := hid hq5; have HO5 := hid (HI.out.1.later hb5); have HF5 := hid (HI.out.2.2.later hb5); have HB5 := hid (HI.out.2.1.trans (hb5.mono HI.out.2.1.size)); clear ho5 hb5 hq5)
          | (at_builtin; refine app_any rfl (.tmp 37) (.tmp 42) rfl W0.heap.size (.slice aj (2 + 6 * 3) cj) (2 + 6 * 3) (pr 3) rfl (by have h := HO5.out.2; rw [HPl.out 3 (by omega)] at h; exact h) a5 6 c5' (spellN d 6) rfl (spellN_length _ _) HQ5.out.2.1 HQ5.out.2.2 (by omega) HB5.out.size ?_; intro v6 w6 ho6 hg6; have HF6 := hid (blk_grown HF5.out HO5.out hg6); have HB6 := hid (HB5.out.grown hg6 HB5.out.size (fun q hq => own_fromT HO5.out q hq)); have HO6 : Hid (Own w6 W0.heap.size v6 (pr 4)) := by { rw [HPs.out.2.2.2.1]; exact own_mkT ho6 (by rw [List.length_append, HPl.out 3 (by omega), spellN_length]) (fun z hz => (List.mem_append.1 hz).elim (HLt.out 3 z) (spellN_lt _ _ z)) }; obtain ⟨a6, c6', hv6, -, -, -⟩ := HO6.out.slice (2 + 6 * 4) (HPl.out 4 (by omega)); subst hv6; clear ho6 hg6))
        exact ⟨⟨4, a6, c6', by omega, by go_num, rfl, ⟨HO6.out, HB6.out, HF6.out⟩⟩, by simp [intOf]⟩
      · have HSj : Hid (Calls Tryz.prog 59 #[.int .i64 (e : Int), .int .i64 6] wo fun e9 w' => ∃ v, e9 = .returned v ∧ Own w' wo.heap.size v (spellN e 6) ∧ Below wo.heap.size wo w') := HSp.out e 6 (by omega) wo
        go_wp2_with (first
          | (go_at_call 59; (with_reducible_and_instances (refine HSj.out.mono ?_)); rintro r w5 ⟨v5, rfl, ho5, hb5⟩; obtain ⟨a5, c5', hv5, hq5, -, -⟩ := ho5.slice 6 (spellN_length _ _); subst hv5; have HQ5 := hid hq5; have HO5 := hid (HI.out.1.later hb5); have HF5 := hid (HI.out.2.2.later hb5); have HB5 := hid (HI.out.2.1.trans (hb5.mono HI.out.2.1.size)); clear ho5 hb5 hq5)
          | (at_builtin; refine app_any rfl (.tmp 37) (.tmp 42) rfl W0.heap.size (.slice aj (2 + 6 * 4) cj) (2 + 6 * 4) (pr 4) rfl (by have h := HO5.out.2; rw [HPl.out 4 (by omega)] at h; exact h) a5 6 c5' (spellN e 6) rfl (spellN_length _ _) HQ5.out.2.1 HQ5.out.2.2 (by omega) HB5.out.size ?_; intro v6 w6 ho6 hg6; have HF6 := hid (blk_grown HF5.out HO5.out hg6); have HB6 := hid (HB5.out.grown hg6 HB5.out.size (fun q hq => own_fromT HO5.out q hq)); have HO6 : Hid (Own w6 W0.heap.size v6 (pr 5)) := by { rw [HPs.out.2.2.2.2.1]; exact own_mkT ho6 (by rw [List.length_append, HPl.out 4 (by omega), spellN_length]) (fun z hz => (List.mem_append.1 hz).elim (HLt.out 4 z) (spellN_lt _ _ z)) }; obtain ⟨a6, c6', hv6, -, -, -⟩ := HO6.out.slice (2 + 6 * 5) (HPl.out 5 (by omega)); subst hv6; clear ho6 hg6))
        exact ⟨⟨5, a6, c6', by omega, by go_num, rfl, ⟨HO6.out, HB6.out, HF6.out⟩⟩, by simp [intOf]⟩
      · have HSj : Hid (Calls Tryz.prog 59 #[.int .i64 (f : Int), .int .i64 6] wo fun e9 w' => ∃ v, e9 = .returned v ∧ Own w' wo.heap.size v (spellN f 6) ∧ Below wo.heap.size wo w') := HSp.out f 6 (by omega) wo
        go_wp2_with (first
          | (go_at_call 59; (with_reducible_and_instances (refine HSj.out.mono ?_)); rintro r w5 ⟨v5, rfl, ho5, hb5⟩; obtain ⟨a5, c5', hv5, hq5, -, -⟩ := ho5.slice 6 (spellN_length _ _); subst hv5; have HQ5 := hid hq5; have HO5 := hid (HI.out.1.later hb5); have HF5 := hid (HI.out.2.2.later hb5); have HB5 := hid (HI.out.2.1.trans (hb5.mono HI.out.2.1.size)); clear ho5 hb5 hq5)
          | (at_builtin; refine app_any rfl (.tmp 37) (.tmp 42) rfl W0.heap.size (.slice aj (2 + 6 * 5) cj) (2 + 6 * 5) (pr 5) rfl (by have h := HO5.out.2; rw [HPl.out 5 (by omega)] at h; exact h) a5 6 c5' (spellN f 6) rfl (spellN_length _ _) HQ5.out.2.1 HQ5.out.2.2 (by omega) HB5.out.size ?_; intro v6 w6 ho6 hg6; have HF6 := hid (blk_grown HF5.out HO5.out hg6); have HB6 := hid (HB5.out.grown hg6 HB5.out.size (fun q hq => own_fromT HO5.out q hq)); have HO6 : Hid (Own w6 W0.heap.size v6 (pr 6)) := by { rw [HPs.out.2.2.2.2.2]; exact own_mkT ho6 (by rw [List.length_append, HPl.out 5 (by omega), spellN_length]) (fun z hz => (List.mem_append.1 hz).elim (HLt.out 5 z) (spellN_lt _ _ z)) }; obtain ⟨a6, c6', hv6, -, -, -⟩ := HO6.out.slice (2 + 6 * 6) (HPl.out 6 (by omega)); subst hv6; clear ho6 hg6))
        exact ⟨⟨6, a6, c6', by omega, by go_num, rfl, ⟨HO6.out, HB6.out, HF6.out⟩⟩, by simp [intOf]⟩
      · have HTw := hid (HTx.out wo)
        go_wp2_with (first
          | (go_at_call 60; (with_reducible_and_instances (refine HTw.out.mono ?_)); rintro r w7 ⟨v7, rfl, ho7, hb7⟩; obtain ⟨a7, c7', hv7, hq7, -, -⟩ := ho7.slice (2 + t.size) HTl.out; subst hv7; have HQ7 := hid hq7; have HO7 := hid (HI.out.1.later hb7); have HB7 := hid (HI.out.2.1.trans (hb7.mono HI.out.2.1.size)); clear ho7 hb7 hq7)
          | (at_builtin; refine app_any rfl (.tmp 51) (.tmp 52) rfl W0.heap.size (.slice aj (2 + 6 * 6) cj) (2 + 6 * 6) (pr 6) rfl (by have h := HO7.out.2; rw [HPl.out 6 (by omega)] at h; exact h) a7 (2 + t.size) c7' (textN t).2 rfl HTl.out HQ7.out.2.1 HQ7.out.2.2 (by have := HHb.out; omega) HB7.out.size ?_; intro v8 w8 ho8 hg8; have HB8 := hid (HB7.out.grown hg8 HB7.out.size (fun q hq => own_fromT HO7.out q hq)); have HO8 : Hid (Own w8 W0.heap.size v8 bd) := by { rw [HBo2.out]; exact own_mkT ho8 (by rw [List.length_append, HPl.out 6 (by omega), HTl.out]) (fun z hz => (List.mem_append.1 hz).elim (HLt.out 6 z) (HTy.out z)) }; obtain ⟨a8, c8', hv8, hq8, -, -⟩ := HO8.out.slice bd.length rfl; subst hv8; have HFw := hid (refFrame_any 32 a8 bd.length c8' bd w8 hq8 (by have := HHb.out; unfold maxLen; omega)); clear ho8 hg8 hq8)
          | (go_at_call 61; (with_reducible_and_instances (refine HFw.out.mono ?_)); rintro r w9 ⟨v9, rfl, ho9, hb9⟩; rw [HFr.out] at ho9; have HO9 := hid ho9; have HB9 := hid (HB8.out.trans (hb9.mono HB8.out.size)); clear ho9 hb9))
        go_ret
        exact ⟨_, rfl, HO9.out.down (by have h1 := HB8.out.size; have h2 := HB0.out.size; omega), HB0.out.trans (HB9.out.mono HB0.out.size)⟩
  | true =>
    clear HNu
    have HO0 : Hid (Own (W0.alloc (.cells #[.int .u8 (k : Int), .int .u8 1] 5)) W0.heap.size (.slice (some ⟨W0.heap.size, 0, none⟩) 2 2) (pr 0)) := by rw [HF0.out]; exact two_own W0 k 1 HHb.out.2.2.2.2.2.2.1 (by omega)
    have d1 : ∀ o, (W0.alloc o).cell? ⟨w.heap.size, 1, none⟩ = some (.string t) := fun o => by rw [(show Below W0.heap.size W0 (W0.alloc o) from (Below.refl _ _).alloc (Nat.le_refl _) _).cell (p := ⟨w.heap.size, 1, none⟩) (World.block_lt_of_cell? W0 ⟨w.heap.size, 1, none⟩ c1)]; exact c1
    have d2 : ∀ o, (W0.alloc o).cell? ⟨w.heap.size, 2, none⟩ = some (.int .i64 (a : Int)) := fun o => by rw [(show Below W0.heap.size W0 (W0.alloc o) from (Below.refl _ _).alloc (Nat.le_refl _) _).cell (p := ⟨w.heap.size, 2, none⟩) (World.block_lt_of_cell? W0 ⟨w.heap.size, 2, none⟩ c2)]; exact c2
    have d3 : ∀ o, (W0.alloc o).cell? ⟨w.heap.size, 3, none⟩ = some (.int .i64 (b : Int)) := fun o => by rw [(show Below W0.heap.size W0 (W0.alloc o) from (Below.refl _ _).alloc (Nat.le_refl _) _).cell (p := ⟨w.heap.size, 3, none⟩) (World.block_lt_of_cell? W0 ⟨w.heap.size, 3, none⟩ c3)]; exact c3
    have d4 : ∀ o, (W0.alloc o).cell? ⟨w.heap.size, 4, none⟩ = some (.int .i64 (c : Int)) := fun o => by rw [(show Below W0.heap.size W0 (W0.alloc o) from (Below.refl _ _).alloc (Nat.le_refl _) _).cell (p := ⟨w.heap.size, 4, none⟩) (World.block_lt_of_cell? W0 ⟨w.heap.size, 4, none⟩ c4)]; exact c4
    have d5 : ∀ o, (W0.alloc o).cell? ⟨w.heap.size, 5, none⟩ = some (.int .i64 (d : Int)) := fun o => by rw [(show Below W0.heap.size W0 (W0.alloc o) from (Below.refl _ _).alloc (Nat.le_refl _) _).cell (p := ⟨w.heap.size, 5, none⟩) (World.block_lt_of_cell? W0 ⟨w.heap.size, 5, none⟩ c5)]; exact c5
    have d6 : ∀ o, (W0.alloc o).cell? ⟨w.heap.size, 6, none⟩ = some (.int .i64 (e : Int)) := fun o => by rw [(show Below W0.heap.size W0 (W0.alloc o) from (Below.refl _ _).alloc (Nat.le_refl _) _).cell (p := ⟨w.heap.size, 6, none⟩) (World.block_lt_of_cell? W0 ⟨w.heap.size, 6, none⟩ c6)]; exact c6
    have d7 : ∀ o, (W0.alloc o).cell? ⟨w.heap.size, 7, none⟩ = some (.int .i64 (f : Int)) := fun o => by rw [(show Below W0.heap.size W0 (W0.alloc o) from (Below.refl _ _).alloc (Nat.le_refl _) _).cell (p := ⟨w.heap.size, 7, none⟩) (World.block_lt_of_cell? W0 ⟨w.heap.size, 7, none⟩ c7)]; exact c7
    have d8 : ∀ o, (W0.alloc o).cell? ⟨w.heap.size, 8, none⟩ = some (.bool true) := fun o => by rw [(show Below W0.heap.size W0 (W0.alloc o) from (Below.refl _ _).alloc (Nat.le_refl _) _).cell (p := ⟨w.heap.size, 8, none⟩) (World.block_lt_of_cell? W0 ⟨w.heap.size, 8, none⟩ c8)]; exact c8
    have HI0 : Hid (Own ((W0.alloc (.cells #[.int .u8 (k : Int), .int .u8 1] 5)).alloc (.cells #[.int .i64 (a : Int), .int .i64 (b : Int), .int .i64 (c : Int), .int .i64 (d : Int), .int .i64 (e : Int), .int .i64 (f : Int)] 3)) W0.heap.size (.slice (some ⟨W0.heap.size, 0, none⟩) 2 2) (pr 0) ∧ Below W0.heap.size W0 ((W0.alloc (.cells #[.int .u8 (k : Int), .int .u8 1] 5)).alloc (.cells #[.int .i64 (a : Int), .int .i64 (b : Int), .int .i64 (c : Int), .int .i64 (d : Int), .int .i64 (e : Int), .int .i64 (f : Int)] 3)) ∧ Blk ((W0.alloc (.cells #[.int .u8 (k : Int), .int .u8 1] 5)).alloc (.cells #[.int .i64 (a : Int), .int .i64 (b : Int), .int .i64 (c : Int), .int .i64 (d : Int), .int .i64 (e : Int), .int .i64 (f : Int)] 3)) (W0.heap.size + 1) #[.int .i64 (a : Int), .int .i64 (b : Int), .int .i64 (c : Int), .int .i64 (d : Int), .int .i64 (e : Int), .int .i64 (f : Int)] 3) := by
      refine ⟨HO0.out.later ((Below.refl _ _).alloc (Nat.le_refl _) _), ((Below.refl _ W0).alloc (Nat.le_refl _) _).alloc (by simp) _, ?_⟩
      have h := heap_alloc_new (W0.alloc (.cells #[.int .u8 (k : Int), .int .u8 1] 5)) (.cells #[.int .i64 (a : Int), .int .i64 (b : Int), .int .i64 (c : Int), .int .i64 (d : Int), .int .i64 (e : Int), .int .i64 (f : Int)] 3)
      rw [World.size_alloc] at h
      exact h
    go_enter Tryz.func30, Tryz.ntmps30
    go_wp2_with fail
    go_loopw [4, 6] (fun bv_ iv wr => ∃ (j : Nat) (aj : Option Addr) (cj : Nat), j ≤ 6 ∧ iv = .int .i64 (j : Int) ∧ bv_ = .slice aj (2 + 6 * j) cj ∧ Hid (Own wr W0.heap.size (.slice aj (2 + 6 * j) cj) (pr j) ∧ Below W0.heap.size W0 wr ∧ Blk wr (W0.heap.size + 1) #[.int .i64 (a : Int), .int .i64 (b : Int), .int .i64 (c : Int), .int .i64 (d : Int), .int .i64 (e : Int), .int .i64 (f : Int)] 3)) (fun _ iv _ => 6 - (intOf iv).toNat)
    case atStart => exact ⟨0, _, 2, by omega, rfl, rfl, HI0⟩
    case round =>
      obtain ⟨j, aj, cj, hj, rfl, rfl, HI⟩ := hrel
      obtain ⟨wo, rfl⟩ : ∃ q, q = wr := ⟨wr, rfl⟩
      have hws := HI.out.2.1.size
      clear c0 c1 c2 c3 c4 c5 c6 c7 c8 d1 d2 d3 d4 d5 d6 d7 d8
      obtain ⟨c0, c1, c2, c3, c4, c5, c6, c7, c8⟩ := HS.out wo HI.out.2.1
      have f0 : wo.cell? ⟨W0.heap.size + 1, 0, none⟩ = some (.int .i64 (a : Int)) := HI.out.2.2.cell 0
      have f1 : wo.cell? ⟨W0.heap.size + 1, 1, none⟩ = some (.int .i64 (b : Int)) := HI.out.2.2.cell 1
      have f2 : wo.cell? ⟨W0.heap.size + 1, 2, none⟩ = some (.int .i64 (c : Int)) := HI.out.2.2.cell 2
      have f3 : wo.cell? ⟨W0.heap.size + 1, 3, none⟩ = some (.int .i64 (d : Int)) := HI.out.2.2.cell 3
      have f4 : wo.cell? ⟨W0.heap.size + 1, 4, none⟩ = some (.int .i64 (e : Int)) := HI.out.2.2.cell 4
      have f5 : wo.cell? ⟨W0.heap.size + 1, 5, none⟩ = some (.int .i64 (f : Int)) := HI.out.2.2.cell 5
      rcases (show j = 0 ∨ j = 1 ∨ j = 2 ∨ j = 3 ∨ j = 4 ∨ j = 5 ∨ j = 6 by omega) with rfl | rfl | rfl | rfl | rfl | rfl | rfl
      · have HSj : Hid (Calls Tryz.prog 59 #[.int .i64 (a : Int), .int .i64 6] wo fun e9 w' => ∃ v, e9 = .returned v ∧ Own w' wo.heap.size v (spellN a 6) ∧ Below wo.heap.size wo w') := HSp.out a 6 (by omega) wo
        go_wp2_with (first
          | (go_at_call 59; (with_reducible_and_instances (refine HSj.out.mono ?_)); rintro r w5 ⟨v5, rfl, ho5, hb5⟩; obtain ⟨a5, c5', hv5, hq5, -, -⟩ := ho5.slice 6 (spellN_length _ _); subst hv5; have HQ5 := hid hq5; have HO5 := hid (HI.out.1.later hb5); have HF5 := hid (HI.out.2.2.later hb5); have HB5 := hid (HI.out.2.1.trans (hb5.mono HI.out.2.1.size)); clear ho5 hb5 hq5)
          | (at_builtin; refine app_any rfl (.tmp 37) (.tmp 42) rfl W0.heap.size (.slice aj (2 + 6 * 0) cj) (2 + 6 * 0) (pr 0) rfl (by have h := HO5.out.2; rw [HPl.out 0 (by omega)] at h; exact h) a5 6 c5' (spellN a 6) rfl (spellN_length _ _) HQ5.out.2.1 HQ5.out.2.2 (by omega) HB5.out.size ?_; intro v6 w6 ho6 hg6; have HF6 := hid (blk_grown HF5.out HO5.out hg6); have HB6 := hid (HB5.out.grown hg6 HB5.out.size (fun q hq => own_fromT HO5.out q hq)); have HO6 : Hid (Own w6 W0.heap.size v6 (pr 1)) := by { rw [HPs.out.1]; exact own_mkT ho6 (by rw [List.length_append, HPl.out 0 (by omega), spellN_length]) (fun z hz => (List.mem_append.1 hz).elim (HLt.out 0 z) (spellN_lt _ _ z)) }; obtain ⟨a6, c6', hv6, -, -, -⟩ := HO6.out.slice (2 + 6 * 1) (HPl.out 1 (by omega)); subst hv6; clear ho6 hg6))
        exact ⟨⟨1, a6, c6', by omega, by go_num, rfl, ⟨HO6.out, HB6.out, HF6.out⟩⟩, by simp [intOf]⟩
      · have HSj : Hid (Calls Tryz.prog 59 #[.int .i64 (b : Int), .int .i64 6] wo fun e9 w' => ∃ v, e9 = .returned v ∧ Own w' wo.heap.size v (spellN b 6) ∧ Below wo.heap.size wo w') := HSp.out b 6 (by omega) wo
        go_wp2_with (first
          | (go_at_call 59; (with_reducible_and_instances (refine HSj.out.mono ?_)); rintro r w5 ⟨v5, rfl, ho5, hb5⟩; obtain ⟨a5, c5', hv5, hq5, -, -⟩ := ho5.slice 6 (spellN_length _ _); subst hv5; have HQ5 := hid hq5; have HO5 := hid (HI.out.1.later hb5); have HF5 := hid (HI.out.2.2.later hb5); have HB5 := hid (HI.out.2.1.trans (hb5.mono HI.out.2.1.size)); clear ho5 hb5 hq5)
          | (at_builtin; refine app_any rfl (.tmp 37) (.tmp 42) rfl W0.heap.size (.slice aj (2 + 6 * 1) cj) (2 + 6 * 1) (pr 1) rfl (by have h := HO5.out.2; rw [HPl.out 1 (by omega)] at h; exact h) a5 6 c5' (spellN b 6) rfl (spellN_length _ _) HQ5.out.2.1 HQ5.out.2.2 (by omega) HB5.out.size ?_; intro v6 w6 ho6 hg6; have HF6 := hid (blk_grown HF5.out HO5.out hg6); have HB6 := hid (HB5.out.grown hg6 HB5.out.size (fun q hq => own_fromT HO5.out q hq)); have HO6 : Hid (Own w6 W0.heap.size v6 (pr 2)) := by { rw [HPs.out.2.1]; exact own_mkT ho6 (by rw [List.length_append, HPl.out 1 (by omega), spellN_length]) (fun z hz => (List.mem_append.1 hz).elim (HLt.out 1 z) (spellN_lt _ _ z)) }; obtain ⟨a6, c6', hv6, -, -, -⟩ := HO6.out.slice (2 + 6 * 2) (HPl.out 2 (by omega)); subst hv6; clear ho6 hg6))
        exact ⟨⟨2, a6, c6', by omega, by go_num, rfl, ⟨HO6.out, HB6.out, HF6.out⟩⟩, by simp [intOf]⟩
      · have HSj : Hid (Calls Tryz.prog 59 #[.int .i64 (c : Int), .int .i64 6] wo fun e9 w' => ∃ v, e9 = .returned v ∧ Own w' wo.heap.size v (spellN c 6) ∧ Below wo.heap.size wo w') := HSp.out c 6 (by omega) wo
        go_wp2_with (first
          | (go_at_call 59; (with_reducible_and_instances (refine HSj.out.mono ?_)); rintro r w5 ⟨v5, rfl, ho5, hb5⟩; obtain ⟨a5, c5', hv5, hq5, -, -⟩ := ho5.slice 6 (spellN_length _ _); subst hv5; have HQ5 := hid hq5; have HO5 := hid (HI.out.1.later hb5); have HF5 := hid (HI.out.2.2.later hb5); have HB5 := hid (HI.out.2.1.trans (hb5.mono HI.out.2.1.size)); clear ho5 hb5 hq5)
          | (at_builtin; refine app_any rfl (.tmp 37) (.tmp 42) rfl W0.heap.size (.slice aj (2 + 6 * 2) cj) (2 + 6 * 2) (pr 2) rfl (by have h := HO5.out.2; rw [HPl.out 2 (by omega)] at h; exact h) a5 6 c5' (spellN c 6) rfl (spellN_length _ _) HQ5.out.2.1 HQ5.out.2.2 (by omega) HB5.out.size ?_; intro v6 w6 ho6 hg6; have HF6 := hid (blk_grown HF5.out HO5.out hg6); have HB6 := hid (HB5.out.grown hg6 HB5.out.size (fun q hq => own_fromT HO5.out q hq)); have HO6 : Hid (Own w6 W0.heap.size v6 (pr 3)) := by { rw [HPs.out.2.2.1]; exact own_mkT ho6 (by rw [List.length_append, HPl.out 2 (by omega), spellN_length]) (fun z hz => (List.mem_append.1 hz).elim (HLt.out 2 z) (spellN_lt _ _ z)) }; obtain ⟨a6, c6', hv6, -, -, -⟩ := HO6.out.slice (2 + 6 * 3) (HPl.out 3 (by omega)); subst hv6; clear ho6 hg6))
        exact ⟨⟨3, a6, c6', by omega, by go_num, rfl, ⟨HO6.out, HB6.out, HF6.out⟩⟩, by simp [intOf]⟩
      · have HSj : Hid (Calls Tryz.prog 59 #[.int .i64 (d : Int), .int .i64 6] wo fun e9 w' => ∃ v, e9 = .returned v ∧ Own w' wo.heap.size v (spellN d 6) ∧ Below wo.heap.size wo w') := HSp.out d 6 (by omega) wo
        go_wp2_with (first
          | (go_at_call 59; (with_reducible_and_instances (refine HSj.out.mono ?_)); rintro r w5 ⟨v5, rfl, ho5, hb5⟩; obtain ⟨a5, c5', hv5, hq5, -, -⟩ := ho5.slice 6 (spellN_length _ _); subst hv5; have HQ5 := hid hq5; have HO5 := hid (HI.out.1.later hb5); have HF5 := hid (HI.out.2.2.later hb5); have HB5 := hid (HI.out.2.1.trans (hb5.mono HI.out.2.1.size)); clear ho5 hb5 hq5)
          | (at_builtin; refine app_any rfl (.tmp 37) (.tmp 42) rfl W0.heap.size (.slice aj (2 + 6 * 3) cj) (2 + 6 * 3) (pr 3) rfl (by have h := HO5.out.2; rw [HPl.out 3 (by omega)] at h; exact h) a5 6 c5' (spellN d 6) rfl (spellN_length _ _) HQ5.out.2.1 HQ5.out.2.2 (by omega) HB5.out.size ?_; intro v6 w6 ho6 hg6; have HF6 := hid (blk_grown HF5.out HO5.out hg6); have HB6 := hid (HB5.out.grown hg6 HB5.out.size (fun q hq => own_fromT HO5.out q hq)); have HO6 : Hid (Own w6 W0.heap.size v6 (pr 4)) := by { rw [HPs.out.2.2.2.1]; exact own_mkT ho6 (by rw [List.length_append, HPl.out 3 (by omega), spellN_length]) (fun z hz => (List.mem_append.1 hz).elim (HLt.out 3 z) (spellN_lt _ _ z)) }; obtain ⟨a6, c6', hv6, -, -, -⟩ := HO6.out.slice (2 + 6 * 4) (HPl.out 4 (by omega)); subst hv6; clear ho6 hg6))
        exact ⟨⟨4, a6, c6', by omega, by go_num, rfl, ⟨HO6.out, HB6.out, HF6.out⟩⟩, by simp [intOf]⟩
      · have HSj : Hid (Calls Tryz.prog 59 #[.int .i64 (e : Int), .int .i64 6] wo fun e9 w' => ∃ v, e9 = .returned v ∧ Own w' wo.heap.size v (spellN e 6) ∧ Below wo.heap.size wo w') := HSp.out e 6 (by omega) wo
        go_wp2_with (first
          | (go_at_call 59; (with_reducible_and_instances (refine HSj.out.mono ?_)); rintro r w5 ⟨v5, rfl, ho5, hb5⟩; obtain ⟨a5, c5', hv5, hq5, -, -⟩ := ho5.slice 6 (spellN_length _ _); subst hv5; have HQ5 := hid hq5; have HO5 := hid (HI.out.1.later hb5); have HF5 := hid (HI.out.2.2.later hb5); have HB5 := hid (HI.out.2.1.trans (hb5.mono HI.out.2.1.size)); clear ho5 hb5 hq5)
          | (at_builtin; refine app_any rfl (.tmp 37) (.tmp 42) rfl W0.heap.size (.slice aj (2 + 6 * 4) cj) (2 + 6 * 4) (pr 4) rfl (by have h := HO5.out.2; rw [HPl.out 4 (by omega)] at h; exact h) a5 6 c5' (spellN e 6) rfl (spellN_length _ _) HQ5.out.2.1 HQ5.out.2.2 (by omega) HB5.out.size ?_; intro v6 w6 ho6 hg6; have HF6 := hid (blk_grown HF5.out HO5.out hg6); have HB6 := hid (HB5.out.grown hg6 HB5.out.size (fun q hq => own_fromT HO5.out q hq)); have HO6 : Hid (Own w6 W0.heap.size v6 (pr 5)) := by { rw [HPs.out.2.2.2.2.1]; exact own_mkT ho6 (by rw [List.length_append, HPl.out 4 (by omega), spellN_length]) (fun z hz => (List.mem_append.1 hz).elim (HLt.out 4 z) (spellN_lt _ _ z)) }; obtain ⟨a6, c6', hv6, -, -, -⟩ := HO6.out.slice (2 + 6 * 5) (HPl.out 5 (by omega)); subst hv6; clear ho6 hg6))
        exact ⟨⟨5, a6, c6', by omega, by go_num, rfl, ⟨HO6.out, HB6.out, HF6.out⟩⟩, by simp [intOf]⟩
      · have HSj : Hid (Calls Tryz.prog 59 #[.int .i64 (f : Int), .int .i64 6] wo fun e9 w' => ∃ v, e9 = .returned v ∧ Own w' wo.heap.size v (spellN f 6) ∧ Below wo.heap.size wo w') := HSp.out f 6 (by omega) wo
        go_wp2_with (first
          | (go_at_call 59; (with_reducible_and_instances (refine HSj.out.mono ?_)); rintro r w5 ⟨v5, rfl, ho5, hb5⟩; obtain ⟨a5, c5', hv5, hq5, -, -⟩ := ho5.slice 6 (spellN_length _ _); subst hv5; have HQ5 := hid hq5; have HO5 := hid (HI.out.1.later hb5); have HF5 := hid (HI.out.2.2.later hb5); have HB5 := hid (HI.out.2.1.trans (hb5.mono HI.out.2.1.size)); clear ho5 hb5 hq5)
          | (at_builtin; refine app_any rfl (.tmp 37) (.tmp 42) rfl W0.heap.size (.slice aj (2 + 6 * 5) cj) (2 + 6 * 5) (pr 5) rfl (by have h := HO5.out.2; rw [HPl.out 5 (by omega)] at h; exact h) a5 6 c5' (spellN f 6) rfl (spellN_length _ _) HQ5.out.2.1 HQ5.out.2.2 (by omega) HB5.out.size ?_; intro v6 w6 ho6 hg6; have HF6 := hid (blk_grown HF5.out HO5.out hg6); have HB6 := hid (HB5.out.grown hg6 HB5.out.size (fun q hq => own_fromT HO5.out q hq)); have HO6 : Hid (Own w6 W0.heap.size v6 (pr 6)) := by { rw [HPs.out.2.2.2.2.2]; exact own_mkT ho6 (by rw [List.length_append, HPl.out 5 (by omega), spellN_length]) (fun z hz => (List.mem_append.1 hz).elim (HLt.out 5 z) (spellN_lt _ _ z)) }; obtain ⟨a6, c6', hv6, -, -, -⟩ := HO6.out.slice (2 + 6 * 6) (HPl.out 6 (by omega)); subst hv6; clear ho6 hg6))
        exact ⟨⟨6, a6, c6', by omega, by go_num, rfl, ⟨HO6.out, HB6.out, HF6.out⟩⟩, by simp [intOf]⟩
      · have HTw := hid (HTx.out wo)
        go_wp2_with (first
          | (go_at_call 60; (with_reducible_and_instances (refine HTw.out.mono ?_)); rintro r w7 ⟨v7, rfl, ho7, hb7⟩; obtain ⟨a7, c7', hv7, hq7, -, -⟩ := ho7.slice (2 + t.size) HTl.out; subst hv7; have HQ7 := hid hq7; have HO7 := hid (HI.out.1.later hb7); have HB7 := hid (HI.out.2.1.trans (hb7.mono HI.out.2.1.size)); clear ho7 hb7 hq7)
          | (at_builtin; refine app_any rfl (.tmp 51) (.tmp 52) rfl W0.heap.size (.slice aj (2 + 6 * 6) cj) (2 + 6 * 6) (pr 6) rfl (by have h := HO7.out.2; rw [HPl.out 6 (by omega)] at h; exact h) a7 (2 + t.size) c7' (textN t).2 rfl HTl.out HQ7.out.2.1 HQ7.out.2.2 (by have := HHb.out; omega) HB7.out.size ?_; intro v8 w8 ho8 hg8; have HB8 := hid (HB7.out.grown hg8 HB7.out.size (fun q hq => own_fromT HO7.out q hq)); have HO8 : Hid (Own w8 W0.heap.size v8 bd) := by { rw [HBo2.out]; exact own_mkT ho8 (by rw [List.length_append, HPl.out 6 (by omega), HTl.out]) (fun z hz => (List.mem_append.1 hz).elim (HLt.out 6 z) (HTy.out z)) }; obtain ⟨a8, c8', hv8, hq8, -, -⟩ := HO8.out.slice bd.length rfl; subst hv8; have HFw := hid (refFrame_any 32 a8 bd.length c8' bd w8 hq8 (by have := HHb.out; unfold maxLen; omega)); clear ho8 hg8 hq8)
          | (go_at_call 61; (with_reducible_and_instances (refine HFw.out.mono ?_)); rintro r w9 ⟨v9, rfl, ho9, hb9⟩; rw [HFr.out] at ho9; have HO9 := hid ho9; have HB9 := hid (HB8.out.trans (hb9.mono HB8.out.size)); clear ho9 hb9))
        go_ret
        exact ⟨_, rfl, HO9.out.down (by have h1 := HB8.out.size; have h2 := HB0.out.size; omega), HB0.out.trans (HB9.out.mono HB0.out.size)⟩
end Go.Proofs.YtiiepmljcjbflaaGreat
