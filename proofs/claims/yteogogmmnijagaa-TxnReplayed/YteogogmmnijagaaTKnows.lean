/- knows of the statements of layer 16: what must come (by genknows16.py). -/
import Derived.Test.YteogogmmnijagaaTFace
namespace Go.Proofs.Yteogogmmnijagaa
open Go.RowKit
variable {w w' : World} {g N : Nat} {B : Bk}

/-- A book that a caller made, beside blocks X of the caller's own. -/
def BOx (N : Nat) (X : List Nat) (w : World) (g : Nat) (B : Bk) : Prop := ∃ F, BAt w F g B ∧ (∀ b ∈ F, N ≤ b ∧ b ∉ X) ∧ ∀ b ∈ X, b < w.heap.size
theorem BOx.of {X : List Nat} (h : BOx N X w g B) : BOf N w g B := by obtain ⟨F, h1, h2, -⟩ := h; exact ⟨F, h1, fun b hb => (h2 b hb).1⟩
theorem BOx.later {X : List Nat} (h : BOx N X w g B) (hb : Below w.heap.size w w') : BOx N X w' g B := by
  obtain ⟨F, h1, h2, h3⟩ := h
  exact ⟨F, h1.later hb, h2, fun b hb' => Nat.lt_of_lt_of_le (h3 b hb') hb.size⟩
/-- Blocks that came behind it are none of it. -/
theorem BOx.more {X Y : List Nat} (h : BOx N X w g B) (hb : Below w.heap.size w w') (hY : ∀ b ∈ Y, b ∈ X ∨ (w.heap.size ≤ b ∧ b < w'.heap.size)) : BOx N Y w' g B := by
  obtain ⟨F, h1, h2, h3⟩ := h
  refine ⟨F, h1.later hb, fun b hb' => ⟨(h2 b hb').1, fun hm => ?_⟩, fun b hb' => ?_⟩
  · rcases hY b hm with h4 | ⟨h4, -⟩
    · exact (h2 b hb').2 h4
    · have := h1.2.2 b hb'; omega
  · rcases hY b hb' with h4 | ⟨-, h4⟩
    · exact Nat.lt_of_lt_of_le (h3 b h4) hb.size
    · exact h4
theorem BOf.beside (h : BOf N w g B) : BOx N [] w g B := by obtain ⟨F, h1, h2⟩ := h; exact ⟨F, h1, fun b hb => ⟨h2 b hb, by simp⟩, by simp⟩
theorem BOx.chg {X : List Nat} (h : BOx N X w g B) (hc : Chg X w w') : BOx N X w' g B := by
  obtain ⟨F, h1, h2, h3⟩ := h
  exact ⟨F, h1.chg hc (fun b hb => (h2 b hb).2), h2, fun b hb => Nat.lt_of_lt_of_le (h3 b hb) hc.size⟩
theorem BOx.apply {X : List Nat} (h : BOx N X w g B) (hN : N ≤ w.heap.size) (x : Ev) : Calls Try.prog 8 #[.pointer (some ⟨g, 0, none⟩), .agg (evA x)] w fun e w' => e = .returned (.int .i64 (B.dec x).2) ∧ BOx N X w' g (B.app x) ∧ Below N w w' ∧ ∀ b ∈ X, w'.heap[b]? = w.heap[b]? := by
  obtain ⟨F, h1, h2, h3⟩ := h
  refine (h1.apply x).mono ?_
  rintro e w' ⟨rfl, F', k1, k2, k3⟩
  refine ⟨rfl, ⟨F', k1, fun b hb => ?_, fun b hb => Nat.lt_of_lt_of_le (h3 b hb) k2.size⟩, k2.below (fun k hk => (h2 k hk).1) hN, fun b hb => k2.block b (h3 b hb) (fun hm => (h2 b hm).2 hb)⟩
  rcases k3 b hb with h4 | h4
  · exact h2 b h4
  · exact ⟨Nat.le_trans hN h4, fun hm => by have := h3 b hm; omega⟩

noncomputable def kN : Nm → Option Nat := setN (fun _ => none) [120] (some 0)
theorem kN_x : kN [120] = some 0 := setN_same _ _ _
def kx1 : Ev := ⟨1, [120], 0, 0, 0, 10, 0, false⟩
def kx2 : Ev := ⟨2, [], 0, 0, 3, 0, 0, false⟩
def kx3 : Ev := ⟨3, [], 0, 0, 0, 0, 0, true⟩
def kx4 : Ev := ⟨4, [], 0, 0, 3, 0, 0, false⟩
noncomputable def kB1 : Bk := ⟨[⟨10, 0, 0, 0, []⟩], kN⟩
noncomputable def kB2 : Bk := ⟨[⟨10, 0, 1, 0, [3]⟩], kN⟩
noncomputable def kB3 : Bk := ⟨[⟨10, 0, 2, 0, [3]⟩], kN⟩
noncomputable def kB4 : Bk := ⟨[⟨10, 0, 0, 0, []⟩], kN⟩
noncomputable def kB5 : Bk := ⟨[⟨10, 1, 0, 0, []⟩], kN⟩
theorem app_eq {B : Bk} {x : Ev} (hm : x.may) (ha : B.ask x = (false, 0)) {C : Bk} (hd : B.deed x = C) : B.dec x = (false, 0) ∧ B.app x = C := by
  have h : B.dec x = (false, 0) := by unfold Bk.dec; rw [if_pos hm]; exact ha
  exact ⟨h, (app_yes h).trans hd⟩
theorem kn1 : bk0.dec kx1 = (false, 0) ∧ bk0.app kx1 = kB1 := app_eq (by decide) rfl rfl
theorem kn2 : kB1.dec kx2 = (false, 0) ∧ kB1.app kx2 = kB2 := app_eq (by decide) rfl rfl
theorem kn3 : kB2.dec kx3 = (false, 0) ∧ kB2.app kx3 = kB3 := app_eq (by decide) rfl rfl
theorem kn4 : kB3.dec kx4 = (false, 0) ∧ kB3.app kx4 = kB4 := app_eq (by decide) rfl rfl
theorem kn5 : kB4.dec kx1 = (false, 0) ∧ kB4.app kx1 = kB5 := by
  have e : kB4.num kx1.name = some 0 := kN_x
  refine app_eq (by decide) ?_ ?_
  · show kB4.ask1 kx1 = _
    unfold Bk.ask1
    rw [e]
    rfl
  · show kB4.grantTo kx1 = _
    unfold Bk.grantTo
    rw [e]
    rfl
theorem kn6 : kB5.dec kx2 = (false, 50) := by
  unfold Bk.dec
  rw [if_pos (by decide)]
  rfl
theorem knT : kB3.todo = [⟨0, 0, 3, true⟩] := rfl
theorem knS : kB4.stA 0 = 0 ∧ kB4.isA 0 = true := ⟨rfl, rfl⟩
/-- Apply, where it is known what comes. -/
theorem BOx.applyK {C : Bk} {X : List Nat} (h : BOx N X w g B) (hN : N ≤ w.heap.size) (x : Ev) (d : Bool) (y : Int) (hd : B.dec x = (d, y)) (hC : B.app x = C) : Calls Try.prog 8 #[.pointer (some ⟨g, 0, none⟩), .agg (evA x)] w fun e w' => e = .returned (.int .i64 y) ∧ BOx N X w' g C ∧ Below N w w' ∧ ∀ b ∈ X, w'.heap[b]? = w.heap[b]? := by
  have h1 := h.apply hN x
  rw [hd, hC] at h1
  exact h1
/-- The only cell row of a list of one marker. -/
theorem td_one {base : Nat} {u : Value} {t : Td} (h : OwnK kTd w base u [t]) : ∃ b c, u = .slice (some ⟨b, 0, none⟩) 1 c ∧ (base ≤ b ∧ b < w.heap.size) ∧ ∀ (W : World), W.heap[b]? = w.heap[b]? → W.cell? ⟨b, 0, none⟩ = some (.int .i64 t.prod) ∧ W.cell? ⟨b, 1, none⟩ = some (.int .i64 t.ep) ∧ W.cell? ⟨b, 2, none⟩ = some (.int .i64 t.place) ∧ W.cell? ⟨b, 3, none⟩ = some (.bool t.yes) := by
  rcases h.2 with ⟨-, e⟩ | ⟨b, cap, cur, e, hb, hg, h1, h2, h3, h4⟩
  · cases e
  · have hbl : Blk w b cur kTd.T := hg
    have hc : ∀ j, j < 4 → w.cell? ⟨b, j, none⟩ = (kTd.V t)[j]? := fun j hj => by
      rw [hbl.cell j, ← Array.getElem?_toList, ← List.getElem?_take_of_lt (show j < 4 from hj)]
      have h5 : cur.toList.take (1 * 4) = kTd.Vs [t] := h4
      rw [Nat.one_mul] at h5
      rw [h5, Kd.Vs_one]
    refine ⟨b, cap, e, ⟨hb, hbl.lt⟩, fun W hW => ?_⟩
    have hw : ∀ j, W.cell? ⟨b, j, none⟩ = w.cell? ⟨b, j, none⟩ := fun j => by simp only [World.cell?, hW]
    rw [hw, hw, hw, hw]
    exact ⟨hc 0 (by decide), hc 1 (by decide), hc 2 (by decide), hc 3 (by decide)⟩
set_option maxRecDepth 100000 in
set_option maxHeartbeats 4000000 in
theorem knows16 (w : World) : Calls Try.prog 5 #[] w fun e w' => e = .returned (.bool true) ∧ Below w.heap.size w w' := by
  have HN := hid (New_any w)
  have HA1 : Hid (∀ X W g, BOx w.heap.size X W g bk0 → w.heap.size ≤ W.heap.size → Calls Try.prog 8 #[.pointer (some ⟨g, 0, none⟩), .agg #[.int .i64 1, .string ⟨#[120]⟩, .int .i64 0, .int .i64 0, .int .i64 0, .int .i64 10, .int .i64 0, .bool false]] W fun e w' => e = .returned (.int .i64 0) ∧ BOx w.heap.size X w' g kB1 ∧ Below w.heap.size W w' ∧ ∀ b ∈ X, w'.heap[b]? = W.heap[b]?) := fun X W g h hN => h.applyK hN kx1 false 0 kn1.1 kn1.2
  have HA2 : Hid (∀ X W g, BOx w.heap.size X W g kB1 → w.heap.size ≤ W.heap.size → Calls Try.prog 8 #[.pointer (some ⟨g, 0, none⟩), .agg #[.int .i64 2, .string ⟨#[]⟩, .int .i64 0, .int .i64 0, .int .i64 3, .int .i64 0, .int .i64 0, .bool false]] W fun e w' => e = .returned (.int .i64 0) ∧ BOx w.heap.size X w' g kB2 ∧ Below w.heap.size W w' ∧ ∀ b ∈ X, w'.heap[b]? = W.heap[b]?) := fun X W g h hN => h.applyK hN kx2 false 0 kn2.1 kn2.2
  have HA3 : Hid (∀ X W g, BOx w.heap.size X W g kB2 → w.heap.size ≤ W.heap.size → Calls Try.prog 8 #[.pointer (some ⟨g, 0, none⟩), .agg #[.int .i64 3, .string ⟨#[]⟩, .int .i64 0, .int .i64 0, .int .i64 0, .int .i64 0, .int .i64 0, .bool true]] W fun e w' => e = .returned (.int .i64 0) ∧ BOx w.heap.size X w' g kB3 ∧ Below w.heap.size W w' ∧ ∀ b ∈ X, w'.heap[b]? = W.heap[b]?) := fun X W g h hN => h.applyK hN kx3 false 0 kn3.1 kn3.2
  have HA4 : Hid (∀ X W g, BOx w.heap.size X W g kB3 → w.heap.size ≤ W.heap.size → Calls Try.prog 8 #[.pointer (some ⟨g, 0, none⟩), .agg #[.int .i64 4, .string ⟨#[]⟩, .int .i64 0, .int .i64 0, .int .i64 3, .int .i64 0, .int .i64 0, .bool false]] W fun e w' => e = .returned (.int .i64 0) ∧ BOx w.heap.size X w' g kB4 ∧ Below w.heap.size W w' ∧ ∀ b ∈ X, w'.heap[b]? = W.heap[b]?) := fun X W g h hN => h.applyK hN kx4 false 0 kn4.1 kn4.2
  have HA5 : Hid (∀ X W g, BOx w.heap.size X W g kB4 → w.heap.size ≤ W.heap.size → Calls Try.prog 8 #[.pointer (some ⟨g, 0, none⟩), .agg #[.int .i64 1, .string ⟨#[120]⟩, .int .i64 0, .int .i64 0, .int .i64 0, .int .i64 10, .int .i64 0, .bool false]] W fun e w' => e = .returned (.int .i64 0) ∧ BOx w.heap.size X w' g kB5 ∧ Below w.heap.size W w' ∧ ∀ b ∈ X, w'.heap[b]? = W.heap[b]?) := fun X W g h hN => h.applyK hN kx1 false 0 kn5.1 kn5.2
  have HA6 : Hid (∀ X W g, BOx w.heap.size X W g kB5 → w.heap.size ≤ W.heap.size → Calls Try.prog 8 #[.pointer (some ⟨g, 0, none⟩), .agg #[.int .i64 2, .string ⟨#[]⟩, .int .i64 0, .int .i64 0, .int .i64 3, .int .i64 0, .int .i64 0, .bool false]] W fun e w' => e = .returned (.int .i64 50) ∧ BOx w.heap.size X w' g kB5 ∧ Below w.heap.size W w' ∧ ∀ b ∈ X, w'.heap[b]? = W.heap[b]?) := fun X W g h hN => h.applyK hN kx2 false 50 kn6 (app_no (by rw [kn6]; decide))
  have HT : Hid (∀ W g, BOx w.heap.size [] W g kB3 → Calls Try.prog 12 #[.pointer (some ⟨g, 0, none⟩)] W fun e w' => ∃ b c, e = .returned (.slice (some ⟨b, 0, none⟩) 1 c) ∧ Below W.heap.size W w' ∧ BOx w.heap.size [b] w' g kB3 ∧ ∀ (V : World), V.heap[b]? = w'.heap[b]? → V.cell? ⟨b, 0, none⟩ = some (.int .i64 0) ∧ V.cell? ⟨b, 1, none⟩ = some (.int .i64 0) ∧ V.cell? ⟨b, 2, none⟩ = some (.int .i64 3) ∧ V.cell? ⟨b, 3, none⟩ = some (.bool true)) := fun W g h => by
    have h1 := h.of.todo
    rw [knT] at h1
    refine h1.mono ?_
    rintro e w2 ⟨u, rfl, h2, h3⟩
    obtain ⟨b, c, rfl, h5, h4⟩ := td_one h2
    exact ⟨b, c, rfl, h3, h.more h3 (fun q hq => by simp at hq; subst hq; exact Or.inr h5), h4⟩
  have HSt : Hid (∀ X W g, BOx w.heap.size X W g kB4 → ∃ ep, Calls Try.prog 14 #[.pointer (some ⟨g, 0, none⟩), .int .i64 0] W fun e w' => e = .returned (.tuple #[.int .i64 0, .int .i64 ep, .bool true]) ∧ Below W.heap.size W w') := fun X W g h => ⟨_, by have h1 := h.of.status 0; rw [knS.1, knS.2] at h1; exact h1⟩
  go_enter Try.func5, Try.ntmps5
  go_wp2_with (first
    | (go_at_call 4; (with_reducible_and_instances (refine HN.out.mono ?_)); rintro r w1 ⟨g, rfl, h1, hb1⟩; have HB1 := hid hb1; have HC1 := hid (HA1.out [] w1 g h1.beside hb1.size); clear h1 hb1)
    | (go_at_call 9; (with_reducible_and_instances (refine (num16_any _ _).mono ?_)); rintro r w99 ⟨rfl, hw99⟩; obtain rfl := hw99.symm)
    | (go_at_call 8; (with_reducible_and_instances (refine HC1.out.mono ?_)); rintro r w2 ⟨rfl, h, hb, hk⟩; have HB2 := hid (HB1.out.trans hb); have HC2 := hid (HA2.out [] w2 _ h HB2.out.size); clear h hb hk)
    | (go_at_call 8; (with_reducible_and_instances (refine HC2.out.mono ?_)); rintro r w3 ⟨rfl, h, hb, hk⟩; have HB3 := hid (HB2.out.trans hb); have HC3 := hid (HA3.out [] w3 _ h HB3.out.size); clear h hb hk)
    | (go_at_call 8; (with_reducible_and_instances (refine HC3.out.mono ?_)); rintro r w4 ⟨rfl, h, hb, hk⟩; have HB4 := hid (HB3.out.trans hb); have HT4 := hid (HT.out w4 _ h); clear h hb hk)
    | (go_at_call 12; (with_reducible_and_instances (refine HT4.out.mono ?_)); rintro r w5 ⟨b, c, rfl, hb5, h, hv⟩; have HV5 := hid hv; have HB5 := hid (HB4.out.trans (hb5.mono HB4.out.size)); have HC4 := hid (HA4.out [b] w5 _ h HB5.out.size); clear h hb5 hv)
    | (go_at_call 8; (with_reducible_and_instances (refine HC4.out.mono ?_)); rintro r w6 ⟨rfl, h, hb, hk⟩; have HB6 := hid (HB5.out.trans hb); have HX6 := hid h; obtain ⟨ep, hs⟩ := HSt.out _ _ _ h; have HS6 := hid hs; have HK6 := hid (hk b (List.mem_singleton.2 rfl)); clear hs; clear h hb hk)
    | (go_at_call 14; (with_reducible_and_instances (refine HS6.out.mono ?_)); rintro r w7 ⟨rfl, hb⟩; have HB7 := hid (HB6.out.trans (hb.mono HB6.out.size)); have HC5 := hid (HA5.out [b] w7 _ (HX6.out.later hb) HB7.out.size); have HK7 := hid ((hb.block b (HX6.out.choose_spec.2.2 b (List.mem_singleton.2 rfl))).trans HK6.out); clear hb)
    | (go_at_call 8; (with_reducible_and_instances (refine HC5.out.mono ?_)); rintro r w8 ⟨rfl, h, hb, hk⟩; have HB8 := hid (HB7.out.trans hb); have HC6 := hid (HA6.out [b] w8 _ h HB8.out.size); have HK8 := hid ((hk b (List.mem_singleton.2 rfl)).trans HK7.out); clear h hb hk)
    | (go_at_call 8; (with_reducible_and_instances (refine HC6.out.mono ?_)); rintro r w9 ⟨rfl, h, hb, hk⟩; have HB9 := hid (HB8.out.trans hb); have HK9 := hid ((hk b (List.mem_singleton.2 rfl)).trans HK8.out); obtain ⟨q0, q1, q2, q3⟩ := HV5.out w9 HK9.out; clear h hb hk))
  go_ret
  exact ⟨rfl, HB9.out⟩
end Go.Proofs.Yteogogmmnijagaa
