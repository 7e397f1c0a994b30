/- Small functions of package store that read blocks: numberAt, holds; readPart, gather of zeros. -/
import Derived.Test.YtikomnbhmmjfnaaGreatSWrite
import Derived.Test.YtikomnbhmmjfnaaGreatGet
import Derived.Test.YtikomnbhmmjfnaaGreatSettleN
namespace Go.Proofs.YtikomnbhmmjfnaaGreat
open Go.RowKit Go.Shelf
variable {w w' : World} {FD G : List Nat} {S D X Y : Nat} {fx fy : Lit → Option Value} {A : Nat → Nat → Value} {s : SSt}

set_option maxRecDepth 100000 in
theorem snumberAt_any (ad : Option Addr) (len cap : Nat) (l : List Nat) (p z : Int) (w : World) (hp : Part.ok w ⟨ad, len, cap, l⟩) (hlc : len ≤ cap) (hm : len ≤ 1000000000000000) (hp2 : p ≤ 9223372036854775807) (r : Int) (hr : (getN l p z).1 = r) :
    Calls Tryz.prog 124 #[.slice ad len cap, .int .i64 p, .int .i64 z] w fun e w' => e = .returned (.int .i64 r) ∧ Below w.heap.size w w' := by
  have hg := get_any ad len cap l p z w hp hlc hm hp2
  rw [hr] at hg
  generalize (getN l p z).2.1 = a at *
  generalize (getN l p z).2.2 = b at *
  clear hp hr hp2 hm hlc
  go_enter Tryz.func124, Tryz.ntmps124
  go_wp2_with (go_at_call 143; refine hg.mono ?_; rintro e w' ⟨rfl, hb⟩)
  go_ret
  exact ⟨rfl, hb⟩
/-- Does block i hold just these bytes? -/
def holdsD (d : DSt) (i : Int) (l : List Nat) : Bool := decide ((readD d i).2 = 0) && decide ((readD d i).1 = l)
set_option maxRecDepth 100000 in
set_option maxHeartbeats 1000000 in
theorem holds_pic (h : SPic w FD G S D X Y fx fy A s) (i : Int) (ad : Option Addr) (len cap : Nat) (l : List Nat) (hp : Part.ok w ⟨ad, len, cap, l⟩) :
    Calls Tryz.prog 84 #[.pointer (some ⟨S, 0, none⟩), .int .i64 i, .slice ad len cap] w fun e w' => e = .returned (.bool (holdsD s.d i l)) ∧ Below w.heap.size w w' := by
  obtain ⟨B, M, Dm, V, C, hd⟩ := h.disk
  have hr := read_pic hd i
  obtain ⟨c0, -⟩ := h.cells
  have HP := hide hp
  unfold holdsD
  generalize hq : readD s.d i = q at *
  obtain ⟨t, z⟩ := q
  simp only at hr
  clear hq h hd hp
  by_cases hz : z = 0
  · subst hz
    simp only [decide_true, Bool.true_and]
    go_enter Tryz.func84, Tryz.ntmps84
    go_wp2_with (first
      | (go_at_call 41; refine hr.mono ?_; rintro e w2 ⟨v, rfl, ho, hb⟩; obtain ⟨a2, c2, rfl, k2, -⟩ := ho.slice t.length rfl; have HB := hide hb; have he := equal_any a2 ad t.length c2 len cap t l w2 k2 (HP.out.later hb); clear ho k2 hb)
      | (go_at_call 85; refine he.mono ?_; rintro e w3 ⟨rfl, hw'⟩; obtain rfl := hw'.symm))
    all_goals go_ret
    all_goals exact ⟨rfl, HB.out⟩
  · have hne : (z == 0) = false := by simpa using hz
    have hdz : (decide (z = 0) && decide (t = l)) = false := by simp [hz]
    simp only [hdz]
    go_enter Tryz.func84, Tryz.ntmps84
    go_wp2_with (go_at_call 41; refine hr.mono ?_; rintro e w2 ⟨v, rfl, ho, hb⟩; have HB := hide hb; clear ho hb)
    all_goals go_ret
    all_goals exact ⟨rfl, HB.out⟩
theorem zeros_11 : (getN zeros 11 1).1 = 0 := by decide +kernel
theorem zeros_9 : (getN zeros 9 2).1 = 0 := by decide +kernel
set_option maxRecDepth 100000 in
set_option maxHeartbeats 1000000 in
/-- readPart of zeros: no parts, no bytes. -/
theorem readPart_zeros (ad : Option Addr) (cap : Nat) (w : World) (hp : Part.ok w ⟨ad, 256, cap, zeros⟩) (hc : 256 ≤ cap) : Calls Tryz.prog 123 #[.slice ad 256 cap] w fun e w' => ∃ a c, e = .returned (.tuple #[.int .i64 0, .slice a 0 c]) ∧ Hid (a = none → c = 0) ∧ Below w.heap.size w w' := by
  have h11 := fun W (hW : Below w.heap.size w W) => snumberAt_any ad 256 cap zeros 11 1 W (hp.later hW) hc (by omega) (by omega) 0 zeros_11
  have h9 := fun W (hW : Below w.heap.size w W) => snumberAt_any ad 256 cap zeros 9 2 W (hp.later hW) hc (by omega) (by omega) 0 zeros_9
  have H11 := hide h11
  have H9 := hide h9
  have HA : Hid (ad ≠ none) := fun e => by
    have := hp.2.1 e
    simp at this
  have hne : ¬ cap = 12 := by omega
  have hmin : min (0 : Int) 240 = 0 := rfl
  have hw1 : IntKind.i64.wrap (12 + 0) = 12 := rfl
  have hw2 : IntKind.i64.wrap 12 = 12 := rfl
  have hsl : ∀ W : World, (Instr.slice 28 (.slice ad 256 cap) (some (.int .i64 12)) (some (.int .i64 12)) none).run Tryz.prog W = .ok (.slice (ad.map fun x => x.add 12) 0 (cap - 12)) W := fun W => by
    have := hc
    rw [run_slice_lh (w := W) 28 ad 256 cap (by kernel_rfl) .i64 .i64 12 12 (by omega) (by omega) (by omega)]
    simp [go_sem, hne]
  have hle : (12 : Int) ≤ (cap : Int) := by omega
  clear h11 h9 hp
  go_enter Tryz.func123, Tryz.ntmps123
  go_wp2_with (go_at_call 124; refine (H11.out _ (Below.refl _ _)).mono ?_; rintro e w2 ⟨rfl, hb2⟩; have HB2 := hide hb2; clear hb2)
  go_region_held3 (fun _ => True) (exact trivial) ((go_at_call 124; refine (H9.out _ HB2.out.drew).mono ?_; rintro e w3 ⟨rfl, hb3⟩; have HB3 := hide (HB2.out.drew.trans (hb3.mono HB2.out.drew.size)); clear hb3))
  all_goals go_wp2
  all_goals go_ret2
  all_goals refine ⟨_, _, rfl, fun e => ?_, HB3.out⟩
  all_goals exact absurd e (by cases had : ad; exact absurd had HA.out; simp)
set_option maxRecDepth 100000 in
set_option maxHeartbeats 400000 in
/-- gather at a block of zeros, or behind the last one: nothing. -/
theorem gather_zeros (h : SPic w FD G S D X Y fx fy A s) (hz : readD s.d (s.fin : Int) = (zeros, 0) ∨ (readD s.d (s.fin : Int)).2 ≠ 0) : Calls Tryz.prog 102 #[.pointer (some ⟨S, 0, none⟩)] w fun e w' => ∃ v, e = .returned v ∧ Own w' w.heap.size v [] ∧ Below w.heap.size w w' := by
  obtain ⟨c0, -, -, -, c4, -⟩ := h.cells
  have hfl := h.fin_le
  obtain ⟨B, M, Dm, V, C, hd⟩ := h.disk
  have hr := read_pic (hd.below (Below.refl _ w).drew) (s.fin : Int)
  have hwr : IntKind.i64.wrap (s.fin : Int) = (s.fin : Int) := by rw [IntKind.wrap_i64]; omega
  clear h hd
  rcases hz with hz | hz
  · rw [hz] at hr
    clear hz
    go_enter Tryz.func102, Tryz.ntmps102
    go_wp2
    go_loopw [3, 4, 5] (fun t k c wr => (t = .slice none 0 0 ∧ k = .int .i64 0 ∧ c = .int .i64 1 ∧ wr = w) ∨ (k = .int .i64 1 ∧ c = .int .i64 0 ∧ Hid (Own wr w.heap.size t []) ∧ Hid (Below w.heap.size w wr))) (fun _ k _ _ => 1 - (intOf k).toNat)
    case atStart => exact Or.inl ⟨rfl, rfl, rfl, rfl⟩
    case round =>
      rcases hrel with ⟨rfl, rfl, rfl, rfl⟩ | ⟨rfl, rfl, HO, HB⟩
      · go_wp2
        go_region_with (go_at_call 41; (with_reducible_and_instances (refine hr.mono ?_)); rintro e w2 ⟨v, rfl, ho, hb⟩; obtain ⟨a2, c2, rfl, k2, hc2, -⟩ := ho.slice 256 zeros_ok.1; have HB2 := hide (((Below.refl wr.heap.size wr).drew).trans hb); have HRp := hide (readPart_zeros a2 c2 w2 k2 hc2); clear ho k2 hb hc2)
        all_goals go_wp2_with (first
          | (go_at_call 123; (with_reducible_and_instances (refine HRp.out.mono ?_)); rintro e w3 ⟨a, c, rfl, hac, hb3⟩; have HB3 := hide (HB2.out.trans (hb3.mono HB2.out.size)); clear hb3)
          | (at_builtin; refine app_any rfl _ _ rfl wr.heap.size (.slice none 0 0) 0 [] rfl (World.ownsRow_nil _ _ _ _) a 0 c [] rfl rfl (fun e => ⟨rfl, hac.out e⟩) ⟨fun x hx => (by cases hx), Or.inl rfl⟩ (by omega) HB3.out.size ?_; intro v4 w4 o4 g4; have HO4 : Hid (Own w4 wr.heap.size v4 []) := ⟨fun x hx => (by cases hx), o4⟩; have HB4 := hide (HB3.out.grown g4 HB3.out.size (fun k hk => (by simp [Value.ownBlock] at hk))); clear o4 g4))
        all_goals go_roundw
        all_goals first
          | exact Or.inr ⟨rfl, rfl, HO4, HB4⟩
          | (simp [intOf])
      · go_wp2
        go_ret
        exact ⟨_, rfl, HO.out, HB.out⟩
  · generalize readD s.d (s.fin : Int) = q at *
    obtain ⟨t0, z⟩ := q
    simp only at hr hz
    have hne : (z == 0) = false := by simpa using hz
    clear hz
    go_enter Tryz.func102, Tryz.ntmps102
    go_wp2
    go_loopw [3, 4, 5] (fun t k c wr => t = .slice none 0 0 ∧ k = .int .i64 0 ∧ c = .int .i64 1 ∧ wr = w) (fun _ _ _ _ => 0)
    case atStart => exact ⟨rfl, rfl, rfl, rfl⟩
    case round =>
      obtain ⟨rfl, rfl, rfl, rfl⟩ := hrel
      go_wp2
      go_region_with (go_at_call 41; (with_reducible_and_instances (refine hr.mono ?_)); rintro e w2 ⟨v, rfl, ho, hb⟩; have HB2 := hide (((Below.refl wr.heap.size wr).drew).trans hb); clear ho hb)
      all_goals go_wp2
      all_goals go_ret
      all_goals exact ⟨_, rfl, Own.nil _ _, HB2.out⟩
end Go.Proofs.YtikomnbhmmjfnaaGreat
