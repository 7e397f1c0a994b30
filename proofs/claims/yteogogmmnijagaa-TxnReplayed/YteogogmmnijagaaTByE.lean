/- event of package txn's reader, and GetEvent: whatever the bytes (P1602). -/
import Derived.Test.YteogogmmnijagaaTByR
import Derived.Test.YteogogmmnijagaaUnframe
import Derived.Test.YteogogmmnijagaaTMay
import Derived.Laws.ResultCell
namespace Go.Proofs.Yteogogmmnijagaa
open Go.RowKit
variable {w w' : World} {b n c : Nat} {a : Option Addr} {s : Int × Bool} {l : List Nat}

theorem evA_one (x : Ev) : ∀ v ∈ (evA x).toList, v.oneCell' = true := by
  intro v hv
  have : v = .int .i64 x.kind ∨ v = .string (nmS x.name) ∨ v = .int .i64 x.prod ∨ v = .int .i64 x.ep ∨ v = .int .i64 x.place ∨ v = .int .i64 x.tmo ∨ v = .int .i64 x.now ∨ v = .bool x.yes := by simpa using hv
  rcases this with rfl | rfl | rfl | rfl | rfl | rfl | rfl | rfl <;> rfl
theorem evA_size (x : Ev) : (Try.prog.info? TEv).map (·.size) = some (evA x).toList.length := by
  show _ = some 8
  kernel_rfl
/-- An event stored whole into a box. -/
theorem store_ev {ops : Array Oper} {rest : List Oper} {o : Oper} {t : Act} {Q : Exit → Act → World → Prop} {g : Nat} {cur : Array Value} (x : Ev) (hgd : o.guard = none) (p y : Operand) (ho : o.op = .store TEv p y) (hx : t.eval p = .pointer (some ⟨g, 0, none⟩)) (hy : t.eval y = .agg (evA x))
    (hg : Blk w g cur TEv) (hfit : cur.size = 8) (h : ∀ w', Blk w' g (evA x) TEv → Chg [g] w w' → wpList Try.prog ops Q rest (t.put o.dst undef) w') : wpList Try.prog ops Q (o :: rest) t w := by
  have hy' : t.eval y = .agg (evA x).toList.toArray := hy
  refine store_wide hgd TEv p y ho (evA x).toList (evA_size x) g 0 hx hy' TEv cur hg (by show 0 + 8 ≤ _; omega) (evA_one x) ?_
  have e2 : (cur.toList.take 0 ++ (evA x).toList ++ cur.toList.drop (0 + (evA x).toList.length)) = (evA x).toList := by rw [List.drop_of_length_le (by show cur.toList.length ≤ 0 + 8; simp; omega)]; simp
  rw [e2]
  refine h _ (setRow_heap _ _ _ _ _ _ hg) ⟨rfl, rfl, rfl, by simp [World.setRow], fun k _ hn => setRow_other w g k _ (by intro e; exact hn (by simp [e]))⟩
theorem stp_le {N : Int} (h0 : (l.length : Int) ≤ N) (hN : 0 ≤ N) (hs : s.1 ≤ N) (k : Int) : (stpR l s k).1 ≤ N := by
  unfold stpR
  split
  · dsimp only
    unfold getN
    split
    · split
      · dsimp only; omega
      · exact hN
    · exact hN
  · exact hs
theorem ys_le {N : Int} (h0 : (l.length : Int) ≤ N) (hN : 0 ≤ N) (hs : s.1 ≤ N) : (ysR l s).1 ≤ N := by
  unfold ysR
  split
  · exact stp_le h0 hN hs 1
  · exact stp_le h0 hN hs 1
set_option maxRecDepth 40000 in
theorem event_any (h : RdB w b a n c rs0) (hp : Part.ok w ⟨a, n, c, l⟩) (hlc : n ≤ c) (hm : n ≤ 1000000000000000) (hne : ∀ k off, a = some ⟨k, off, none⟩ → k ≠ b) : Calls Try.prog 21 #[.pointer (some ⟨b, 0, none⟩)] w fun e w' => e = .returned (.agg (evA (rdE l))) ∧ RdB w' b a n c (rs8 l) ∧ Chg [b] w w' := by
  have hll : (l.length : Int) ≤ 1000000000000000 := by have : l.length = n := hp.1; omega
  have hbl : b < w.heap.size := Blk.lt h
  obtain ⟨W0, hW0⟩ : ∃ W0, w.alloc (.cells #[.int .i64 0, .string ⟨#[]⟩, .int .i64 0, .int .i64 0, .int .i64 0, .int .i64 0, .int .i64 0, .bool false] TEv) = W0 := ⟨_, rfl⟩
  have b0 : Below w.heap.size w W0 := by rw [← hW0]; exact (Below.refl _ _).alloc (Nat.le_refl _) _
  have z0 : Blk W0 w.heap.size #[.int .i64 0, .string ⟨#[]⟩, .int .i64 0, .int .i64 0, .int .i64 0, .int .i64 0, .int .i64 0, .bool false] TEv := by rw [← hW0]; exact heap_alloc_new w _
  have HP := hid hp
  have HB0 := hid b0
  have HZ := hid z0
  have HNe := hid hne
  have HPt : Hid (∀ W, Chg [b] W0 W → Part.ok W ⟨a, n, c, l⟩) := fun W hW => part_chg (HP.out.later HB0.out) HNe.out hW
  have HNum : Hid (∀ W s, RdB W b a n c s → Chg [b] W0 W → s.1 ≤ 1000000000000000 → ∀ sz, Calls Try.prog 42 #[.pointer (some ⟨b, 0, none⟩), .int .i64 sz] W fun e w' => e = .returned (.int .i64 (valR l s sz)) ∧ RdB w' b a n c (stpR l s sz) ∧ Chg [b] W0 w') := fun W s hR hC hs sz => (number_any hR (HPt.out W hC) hlc hm (by omega) sz).mono (fun e w' hh => ⟨hh.1, hh.2.1, hC.trans hh.2.2 (fun k hk => Or.inl hk)⟩)
  have HYes : Hid (∀ W s, RdB W b a n c s → Chg [b] W0 W → s.1 ≤ 1000000000000000 → Calls Try.prog 43 #[.pointer (some ⟨b, 0, none⟩)] W fun e w' => e = .returned (.bool (valR l s 1 == 1)) ∧ RdB w' b a n c (ysR l s) ∧ Chg [b] W0 w') := fun W s hR hC hs => (yes_any hR (HPt.out W hC) hlc hm (by omega)).mono (fun e w' hh => ⟨hh.1, hh.2.1, hC.trans hh.2.2 (fun k hk => Or.inl hk)⟩)
  have HTxt : Hid (∀ W s, RdB W b a n c s → Chg [b] W0 W → s.1 ≤ 1000000000000000 → Calls Try.prog 44 #[.pointer (some ⟨b, 0, none⟩)] W fun e w' => e = .returned (.string (getTextN l s.1).1) ∧ RdB w' b a n c (txR l s) ∧ Chg [b] W0 w') := fun W s hR hC hs => (text_rd hR (HPt.out W hC) hlc hm (by omega)).mono (fun e w' hh => ⟨hh.1, hh.2.1, hC.trans hh.2.2 (fun k hk => Or.inl hk)⟩)
  have l1 : (rs1 l).1 ≤ 1000000000000000 := stp_le hll (by omega) (by show (0 : Int) ≤ _; omega) 1
  have l2 : (rs2 l).1 ≤ 1000000000000000 := ys_le hll (by omega) l1
  have l3 : (rs3 l).1 ≤ 1000000000000000 := stp_le hll (by omega) l2 6
  have l4 : (rs4 l).1 ≤ 1000000000000000 := stp_le hll (by omega) l3 6
  have l5 : (rs5 l).1 ≤ 1000000000000000 := stp_le hll (by omega) l4 6
  have l6 : (rs6 l).1 ≤ 1000000000000000 := stp_le hll (by omega) l5 6
  have l7 : (rs7 l).1 ≤ 1000000000000000 := stp_le hll (by omega) l6 6
  have HLs : Hid ((rs1 l).1 ≤ 1000000000000000 ∧ (rs2 l).1 ≤ 1000000000000000 ∧ (rs3 l).1 ≤ 1000000000000000 ∧ (rs4 l).1 ≤ 1000000000000000 ∧ (rs5 l).1 ≤ 1000000000000000 ∧ (rs6 l).1 ≤ 1000000000000000 ∧ (rs7 l).1 ≤ 1000000000000000) := ⟨l1, l2, l3, l4, l5, l6, l7⟩
  have HA0 : Hid (Calls Try.prog 42 #[.pointer (some ⟨b, 0, none⟩), .int .i64 1] W0 fun e w' => e = .returned (.int .i64 (rdE l).kind) ∧ RdB w' b a n c (rs1 l) ∧ Chg [b] W0 w') := HNum.out W0 rs0 (RdB.later h b0) (Chg.refl _ _) (by show (0 : Int) ≤ _; omega) 1
  have HV : Hid (∀ x, rdE l = x → x.kind = valR l rs0 1 ∧ x.yes = (valR l (rs1 l) 1 == 1) ∧ x.prod = valR l (rs2 l) 6 ∧ x.ep = valR l (rs3 l) 6 ∧ x.place = valR l (rs4 l) 6 ∧ x.tmo = valR l (rs5 l) 6 ∧ x.now = valR l (rs6 l) 6 ∧ nmS x.name = (getTextN l (rs7 l).1).1) := fun x hx => by subst hx; exact ⟨rfl, rfl, rfl, rfl, rfl, rfl, rfl, rfl⟩
  obtain ⟨x, hx⟩ : ∃ x, rdE l = x := ⟨_, rfl⟩
  obtain ⟨v0, v1, v2, v3, v4, v5, v6, v7⟩ := HV.out x hx
  have HX := hid hx
  rw [hx] at HA0
  have HA1 : Hid (∀ W, RdB W b a n c (rs1 l) → Chg [b] W0 W → Calls Try.prog 43 #[.pointer (some ⟨b, 0, none⟩)] W fun e w' => e = .returned (.bool x.yes) ∧ RdB w' b a n c (rs2 l) ∧ Chg [b] W0 w') := fun W hR hC => by rw [v1]; exact HYes.out W _ hR hC HLs.out.1
  have HA2 : Hid (∀ W, RdB W b a n c (rs2 l) → Chg [b] W0 W → Calls Try.prog 42 #[.pointer (some ⟨b, 0, none⟩), .int .i64 6] W fun e w' => e = .returned (.int .i64 x.prod) ∧ RdB w' b a n c (rs3 l) ∧ Chg [b] W0 w') := fun W hR hC => by rw [v2]; exact HNum.out W _ hR hC HLs.out.2.1 6
  have HA3 : Hid (∀ W, RdB W b a n c (rs3 l) → Chg [b] W0 W → Calls Try.prog 42 #[.pointer (some ⟨b, 0, none⟩), .int .i64 6] W fun e w' => e = .returned (.int .i64 x.ep) ∧ RdB w' b a n c (rs4 l) ∧ Chg [b] W0 w') := fun W hR hC => by rw [v3]; exact HNum.out W _ hR hC HLs.out.2.2.1 6
  have HA4 : Hid (∀ W, RdB W b a n c (rs4 l) → Chg [b] W0 W → Calls Try.prog 42 #[.pointer (some ⟨b, 0, none⟩), .int .i64 6] W fun e w' => e = .returned (.int .i64 x.place) ∧ RdB w' b a n c (rs5 l) ∧ Chg [b] W0 w') := fun W hR hC => by rw [v4]; exact HNum.out W _ hR hC HLs.out.2.2.2.1 6
  have HA5 : Hid (∀ W, RdB W b a n c (rs5 l) → Chg [b] W0 W → Calls Try.prog 42 #[.pointer (some ⟨b, 0, none⟩), .int .i64 6] W fun e w' => e = .returned (.int .i64 x.tmo) ∧ RdB w' b a n c (rs6 l) ∧ Chg [b] W0 w') := fun W hR hC => by rw [v5]; exact HNum.out W _ hR hC HLs.out.2.2.2.2.1 6
  have HA6 : Hid (∀ W, RdB W b a n c (rs6 l) → Chg [b] W0 W → Calls Try.prog 42 #[.pointer (some ⟨b, 0, none⟩), .int .i64 6] W fun e w' => e = .returned (.int .i64 x.now) ∧ RdB w' b a n c (rs7 l) ∧ Chg [b] W0 w') := fun W hR hC => by rw [v6]; exact HNum.out W _ hR hC HLs.out.2.2.2.2.2.1 6
  have HA7 : Hid (∀ W, RdB W b a n c (rs7 l) → Chg [b] W0 W → Calls Try.prog 44 #[.pointer (some ⟨b, 0, none⟩)] W fun e w' => e = .returned (.string (nmS x.name)) ∧ RdB w' b a n c (rs8 l) ∧ Chg [b] W0 w') := fun W hR hC => by rw [v7]; exact HTxt.out W _ hR hC HLs.out.2.2.2.2.2.2
  have HBl := hid hbl
  clear l1 l2 l3 l4 l5 l6 l7 v0 v1 v2 v3 v4 v5 v6 v7 hx h hp hne hll b0 z0 hbl HV
  go_enter Try.func21, Try.ntmps21
  go_wp2_with (first
    | (go_at_call 42; (with_reducible_and_instances (refine HA0.out.mono ?_)); rintro e w1 ⟨rfl, h1, hc1⟩; have HB1 := hid (HA1.out w1 h1 hc1); clear h1 hc1)
    | (go_at_call 43; (with_reducible_and_instances (refine HB1.out.mono ?_)); rintro e w2 ⟨rfl, h2, hc2⟩; have HB2 := hid (HA2.out w2 h2 hc2); clear h2 hc2)
    | (go_at_call 42; (with_reducible_and_instances (refine HB2.out.mono ?_)); rintro e w3 ⟨rfl, h3, hc3⟩; have HB3 := hid (HA3.out w3 h3 hc3); clear h3 hc3)
    | (go_at_call 42; (with_reducible_and_instances (refine HB3.out.mono ?_)); rintro e w4 ⟨rfl, h4, hc4⟩; have HB4 := hid (HA4.out w4 h4 hc4); clear h4 hc4)
    | (go_at_call 42; (with_reducible_and_instances (refine HB4.out.mono ?_)); rintro e w5 ⟨rfl, h5, hc5⟩; have HB5 := hid (HA5.out w5 h5 hc5); clear h5 hc5)
    | (go_at_call 42; (with_reducible_and_instances (refine HB5.out.mono ?_)); rintro e w6 ⟨rfl, h6, hc6⟩; have HB6 := hid (HA6.out w6 h6 hc6); clear h6 hc6)
    | (go_at_call 42; (with_reducible_and_instances (refine HB6.out.mono ?_)); rintro e w7 ⟨rfl, h7, hc7⟩; have HB7 := hid (HA7.out w7 h7 hc7); clear h7 hc7)
    | (go_at_call 44; (with_reducible_and_instances (refine HB7.out.mono ?_)); rintro e w8 ⟨rfl, h8, hc8⟩; have HR8 := hid h8; have HC8 := hid hc8; have HZ8 := hid (HZ.out.chg hc8 (by have := HBl.out; simp; omega)); clear h8 hc8)
    | (refine store_ev x rfl (.tmp 2) (.tmp 19) rfl rfl rfl HZ8.out (by rfl) ?_; intro W9 hx9 hc9))
  refine bodyPost_ret (v := .agg (evA x)) (results_cell_row Try.results21 _ _ w.heap.size TEv _ (0, 0) _ rfl hx9 Try.underlying30 rfl (by kernel_rfl)) rfl ⟨by rw [HX.out], ?_, ?_⟩
  · exact Blk.chg HR8.out hc9 (by have := HBl.out; simp; omega)
  · exact ((Chg.of (F := [b]) HB0.out).trans HC8.out (fun k hk => Or.inl hk)).trans hc9 (fun k hk => by simp at hk; exact Or.inr (by omega))
end Go.Proofs.Yteogogmmnijagaa
