/- knows of the statements of layer 13. -/
import Derived.Test.YtfgamkcnnijloaaGreatPZAp
import Derived.Test.YtfgamkcnnijloaaGreatPZFe
import Derived.Test.YtfgamkcnnijloaaGreatLEnt
namespace Go.Proofs.YtfgamkcnnijloaaGreat
open Go.RowKit Go.Shelf
variable {w w' : World} {L t M n N : Nat} {vr vo va : Value} {g : Lg}

theorem LMv.base {G : Lg} {B : Nat} (h : LPic w L t M n N vr vo va g) (hv : LMv w w' L t M n N vr vo va G) (hL : B ≤ L) (hM : B ≤ M) (hN : B ≤ N) (hB : B ≤ w.heap.size) : Below B w w' := by
  obtain ⟨n', vr', vo', va', -, -, hc, -⟩ := hv
  refine hc.below (fun k hk => ?_) hB
  simp only [List.mem_cons, List.mem_append, Option.mem_toList] at hk
  rcases hk with rfl | rfl | hk | hk | hk
  · exact hL
  · exact hM
  · exact Nat.le_trans hN (h.rows.block k hk).1
  · exact Nat.le_trans hN (h.opn.block k hk).1
  · exact Nat.le_trans hN (h.gone.block k hk).1
def eK : Et := ⟨1, 0, ⟨1, 1, 0, 0, true, List.replicate 2 recK⟩⟩
def gK1 : Lg := appG lg0 eK
def eC : Et := ⟨1, 0, ⟨2, 1, 0, 0, false, []⟩⟩
def gK2 : Lg := appG gK1 eC
theorem kn1 : decE lg0 eK = (0, false, 0) := by decide +kernel
theorem kn2 : decE gK1 eC = (2, false, 0) := by decide +kernel
theorem kn3 : gK1.stable = 0 ∧ gK1.start = 0 ∧ gK1.fin = 2 ∧ gK1.rows.length = 2 ∧ gK1.opn.length = 1 ∧ gK1.gone.length = 0 := by decide +kernel
theorem kn4 : gK2.stable = 3 ∧ gK2.start = 0 ∧ gK2.fin = 3 ∧ gK2.rows.length = 2 := by decide +kernel
theorem kn5 : (fetG gK1 0 9 true).2 = (0, 0) := by decide +kernel
theorem kn6 : (fetG gK2 0 9 true).2 = (3, 0) ∧ (fetG gK2 0 9 true).1.length = 2 := by decide +kernel
theorem room0 : LRoom lg0 := ⟨by decide, ⟨by decide, by decide⟩, ⟨by decide, by decide⟩⟩
theorem room1 : LRoom gK1 := by
  obtain ⟨-, -, -, h1, h2, h3⟩ := kn3
  refine ⟨?_, ⟨?_, ?_⟩, ⟨?_, ?_⟩⟩
  · rw [h1]; decide
  · rw [h2]; decide
  · rw [h2]; decide
  · rw [h3]; decide
  · rw [h3]; decide
theorem barg0 (W : World) (k p e q : Int) (tx : Bool) : BArg W ⟨k, p, e, q, tx, []⟩ none 0 0 := ⟨rfl, fun _ => ⟨rfl, rfl⟩, Nat.le_refl _, by unfold maxLen; omega, Or.inl rfl, fun r hr => by cases hr⟩
/-- A ledger that a caller made: all of it lies from B on. -/
structure LOf (B : Nat) (w : World) (L : Nat) (n : Nat) (g : Lg) : Prop where
  ex : ∃ t M vr vo va n', n' ≤ n ∧ LPic w L t M n' B vr vo va g ∧ B ≤ t ∧ B ≤ M
  l : B ≤ L
  b : B ≤ w.heap.size
variable {B : Nat}
theorem LOf.later (h : LOf B w L n g) (hb : Below w.heap.size w w') : LOf B w' L n g := by
  obtain ⟨t, M, vr, vo, va, n', h0, h1, h2, h3⟩ := h.ex
  exact ⟨⟨t, M, vr, vo, va, n', h0, h1.later hb, h2, h3⟩, h.l, Nat.le_trans h.b hb.size⟩
theorem LOf.new (w : World) : Calls Tryz.prog 7 #[] w fun e w' => ∃ L, e = .returned (.pointer (some ⟨L, 0, none⟩)) ∧ LOf w.heap.size w' L 0 lg0 ∧ Below w.heap.size w w' := by
  refine (newL_any w).mono ?_
  rintro e w' ⟨L, t, M, rfl, hp, hb, h1, h2, h3⟩
  exact ⟨L, rfl, ⟨⟨t, M, _, _, _, 0, Nat.le_refl _, hp, h2, h3⟩, h1, hb.size⟩, hb⟩
theorem LOf.stable (h : LOf B w L n g) : Calls Tryz.prog 15 #[.pointer (some ⟨L, 0, none⟩)] w fun r w' => r = .returned (.int .i64 g.stable) ∧ w' = w := by
  obtain ⟨t, M, vr, vo, va, n', h0, h1, h2, h3⟩ := h.ex
  exact stable_any h1.toLPic0
theorem LOf.fetch (h : LOf B w L n g) (hrb : g.rows.length * 64 ≤ 140737488355328) (a : Int) (mo : Nat) (hA0 : 0 ≤ a) (hAs : g.start ≤ a) (hAf : a ≤ g.fin) (hM0 : 0 < mo) (hmo : mo ≤ 9223372036854775807) : Calls Tryz.prog 14 #[.pointer (some ⟨L, 0, none⟩), .int .i64 a, .int .i64 (mo : Int), .bool true] w fun x w' => ∃ v, x = .returned (fetV v (fetG g a (mo : Int) true)) ∧ OwnK kRw w' w.heap.size v (fetG g a (mo : Int) true).1 ∧ Below w.heap.size w w' := by
  obtain ⟨t, M, vr, vo, va, n', h0, h1, h2, h3⟩ := h.ex
  exact Fetch_true h1 hrb a mo hA0 hAs _ _ rfl rfl hAf hM0 hmo
theorem LOf.apply (h : LOf B w L n g) (hn : n + 1 ≤ 4000000000000) (hr : LRoom g) (kd nn k p e q : Int) (tx : Bool) (rs : List Rec) (ad : Option Addr) (len cap : Nat) (hB : BArg w ⟨k, p, e, q, tx, rs⟩ ad len cap) (hT : RTyp w ad len) (hk : kd = 1 ∨ mayE ⟨kd, nn, ⟨k, p, e, q, tx, rs⟩⟩ = false) (o : Int) (dd : Bool) (er : Int) (hd : decE g ⟨kd, nn, ⟨k, p, e, q, tx, rs⟩⟩ = (o, dd, er)) (G : Lg) (hG : G = appG g ⟨kd, nn, ⟨k, p, e, q, tx, rs⟩⟩) :
    Calls Tryz.prog 12 #[.pointer (some ⟨L, 0, none⟩), .agg #[.int .i64 kd, .int .i64 nn, .int .i64 k, .int .i64 p, .int .i64 e, .int .i64 q, .bool tx, .slice ad len cap]] w fun x w' => x = .returned (.tuple #[.int .i64 o, .int .i64 er]) ∧ LOf B w' L (n + 1) G ∧ Below B w w' := by
  obtain ⟨t, M, vr, vo, va, n', h0, h1, h2, h3⟩ := h.ex
  refine (ApplyL_batch h1 h.b (by omega) hr kd nn k p e q tx rs ad len cap hB hT hk o dd er hd G hG).mono ?_
  rintro x w' ⟨rfl, hm⟩
  have hb := LMv.base h1 hm h.l h3 (Nat.le_refl _) h.b
  obtain ⟨n2, vr', vo', va', e1, e2, -⟩ := hm
  exact ⟨rfl, ⟨⟨t, M, vr', vo', va', n2, by omega, e2, h2, h3⟩, h.l, Nat.le_trans h.b hb.size⟩, hb⟩
set_option maxRecDepth 20000 in
set_option maxHeartbeats 2000000 in
theorem knows13 (w : World) : Calls Tryz.prog 8 #[] w fun e w' => e = .returned (.bool true) ∧ Below w.heap.size w w' := by
  go_enter Tryz.func8, Tryz.ntmps8
  go_wp2_with (first
    | (go_at_call 7; refine (LOf.new _).mono ?_; rintro x w1 ⟨L, rfl, hl1, hb1⟩; have HL1 := hid hl1; have HB1 := hid hb1; clear hl1 hb1)
    | (go_at_call 21; refine (inTxn_any 1 0 2 (by omega) _).mono ?_; rintro x w2 ⟨a2, c2, rfl, hB2, hT2, hb2⟩; have HL2 := hid (HL1.out.later hb2); have HB2 := hid (HB1.out.trans (hb2.mono HB1.out.size)); have HA2 := hid (HL2.out.apply (by omega) room0 1 0 1 1 0 0 true _ a2 2 c2 hB2 hT2 (Or.inl rfl) 0 false 0 kn1 gK1 rfl); clear hB2 hT2 hb2)
    | (go_at_call 12; (with_reducible_and_instances (refine HA2.out.mono ?_)); rintro x w3 ⟨rfl, hl3, hb3⟩; have HL3 := hid hl3; have HB3 := hid (HB2.out.trans hb3); have HS3 := hid hl3.stable; rw [kn3.1] at HS3; have HF3 := hid (hl3.fetch (by rw [kn3.2.2.2.1]; decide) 0 9 (by decide) (by rw [kn3.2.1]; decide) (by rw [kn3.2.2.1]; decide) (by decide) (by decide)); clear hl3 hb3 HA2))
  rw [show ((9 : Nat) : Int) = 9 from rfl] at HF3
  unfold fetV at HF3
  rw [kn5] at HF3
  dsimp only at HF3
  go_wp2_with (first
    | (go_at_call 15; (with_reducible_and_instances (refine HS3.out.mono ?_)); rintro x w4 ⟨rfl, hw4⟩; obtain rfl := hw4.symm)
    | (go_at_call 14; (with_reducible_and_instances (refine HF3.out.mono ?_)); rintro x w5 ⟨v5, rfl, -, hb5⟩; have HL5 := hid (HL3.out.later hb5); have HB5 := hid (HB3.out.trans (hb5.mono HB3.out.size)); have HA5 := hid (HL5.out.apply (by omega) room1 1 0 2 1 0 0 false _ none 0 0 (barg0 _ 2 1 0 0 false) (fun h => by cases h) (Or.inl rfl) 2 false 0 kn2 gK2 rfl); clear hb5 HF3 HS3)
    | (go_at_call 12; (with_reducible_and_instances (refine HA5.out.mono ?_)); rintro x w6 ⟨rfl, hl6, hb6⟩; have HL6 := hid hl6; have HB6 := hid (HB5.out.trans hb6); have HF6 := hid (hl6.fetch (by rw [kn4.2.2.2]; decide) 0 9 (by decide) (by rw [kn4.2.1]; decide) (by rw [kn4.2.2.1]; decide) (by decide) (by decide)); clear hl6 hb6 HA5))
  rw [show ((9 : Nat) : Int) = 9 from rfl] at HF6
  unfold fetV at HF6
  rw [kn6.1] at HF6
  dsimp only at HF6
  go_wp2_with (first
    | (go_at_call 14; (with_reducible_and_instances (refine HF6.out.mono ?_)); rintro x w7 ⟨v7, rfl, ho7, hb7⟩; obtain ⟨a7, c7, hv7, -⟩ := ho7.form kRw_ok.tofit; rw [kn6.2] at hv7; subst hv7; have HL7 := hid (HL6.out.later hb7); have HB7 := hid (HB6.out.trans (hb7.mono HB6.out.size)); have HS7 := hid HL7.out.stable; rw [kn4.1] at HS7; clear ho7 hb7 HF6)
    | (go_at_call 13; refine (num13_any _ _).mono ?_; rintro x w9 ⟨rfl, hw9⟩; obtain rfl := hw9.symm)
    | (go_at_call 15; (with_reducible_and_instances (refine HS7.out.mono ?_)); rintro x w8 ⟨rfl, hw8⟩; obtain rfl := hw8.symm))
  go_ret
  exact ⟨rfl, HB7.out⟩
end Go.Proofs.YtfgamkcnnijloaaGreat
