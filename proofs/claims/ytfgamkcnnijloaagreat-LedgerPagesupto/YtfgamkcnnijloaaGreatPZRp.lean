/- Two ledgers apart from each other; Rows of a ledger. The walk of LedgerReplayed. -/
import Derived.Test.YtfgamkcnnijloaaGreatPZGa
import Derived.Test.YtfgamkcnnijloaaGreatRLayPlain
import Derived.Test.YtfgamkcnnijloaaGreatLGrowsW
import Derived.Test.YtfgamkcnnijloaaGreatPZPu
import Derived.Test.YtfgamkcnnijloaaGreatPZEnc
namespace Go.Proofs.YtfgamkcnnijloaaGreat
open Go.RowKit Go.Shelf
variable {w w' W : World} {L t M n N m : Nat} {vr vo va : Value} {g : Lg} {F : List Nat}

theorem clone_rw {base : Nat} {v : Value} {l : List Rw} (h : OwnK kRw w base v l) (hl : l.length * 64 ≤ 140737488355328) : Calls Tryz.prog 41 #[v] w fun e w' => ∃ v', e = .returned v' ∧ OwnK kRw w' w.heap.size v' l ∧ Below w.heap.size w w' := by
  rcases h.2 with ⟨rfl, h0⟩ | ⟨g, cap, cur, rfl, hgb, hg, h1, h2, h3, h4⟩
  · have hk : l = [] := List.eq_nil_of_length_eq_zero h0
    subst hk
    refine (show Calls Tryz.prog 41 #[.slice none 0 0] w _ from AnyE.slices_Clone_nil Tryz.cloneR 0 0 w).mono ?_
    rintro e w' ⟨rfl, rfl⟩
    exact ⟨_, rfl, OwnK.nil _ _, Below.refl _ _⟩
  · obtain ⟨i0, hi, hz0, hz1, hz2⟩ := info_parts kRw_ok.info
    have hsz : ∀ w, (Go.sizeOf 51).run Tryz.prog w = .ok 6 w := fun w => by simp [Go.sizeOf, typeInfo, hi, hz1]
    have hl2 : (kRw.Vs l).length = l.length * 6 := by rw [kRw_ok.tofit.Vs_len]
    refine (show Calls Tryz.prog 41 #[.slice (some ⟨g, 0, none⟩) l.length cap] w _ from AnyE.slices_Clone Tryz.cloneR i0 (.agg #[.int .i64 0, .int .i64 0, .bool false, .string ByteArray.empty, .string ByteArray.empty, .bool false]) 6 64 hi hz0 hz1 hz2 rfl (by decide) hsz g 0 l.length cap (kRw.Vs l) w hl2 (by unfold maxLen; omega) (by omega) (fun j u hu => ?_) (kRw_ok.Vs_ones _)).mono ?_
    · have := World.ownsRow.cells h (g := g) rfl j u hu
      rw [addr_add] at this
      exact this
    · rintro e w' ⟨v', rfl, h5, -, hb⟩
      exact ⟨v', rfl, h5, hb⟩
set_option maxRecDepth 100000 in
theorem rowsL_any (h : LPic0 w L t M n N vr vo va g) (hl : g.rows.length * 64 ≤ 140737488355328) : Calls Tryz.prog 19 #[.pointer (some ⟨L, 0, none⟩)] w fun e w' => (∃ a c, e = .returned (.slice a g.rows.length c)) ∧ Below w.heap.size w w' := by
  have HM := hid (madeL_any h.c0)
  have c3 := h.c3
  have lq := h.lt
  have HC := hid (clone_rw h.rows hl)
  obtain ⟨pa, pc, hpv, -⟩ := h.rows.form kRw_ok.tofit
  subst hpv
  clear h
  go_enter Tryz.func19, Tryz.ntmps19
  go_wp2_with (first
    | (go_at_call 23; refine HM.out.mono ?_; rintro e w1 ⟨rfl, hw1⟩; obtain rfl := hw1.symm)
    | (go_at_call 41; (with_reducible_and_instances (refine HC.out.mono ?_)); rintro e w2 ⟨u, rfl, h2, h3⟩; obtain ⟨a2, c2, rfl⟩ := slice_own h2; have H3 := hid h3; clear h2 h3))
  go_ret
  exact ⟨⟨_, _, rfl⟩, H3.out⟩
/-- A ledger all of whose blocks are among F. -/
structure LAt (w : World) (F : List Nat) (N L n : Nat) (g : Lg) : Prop where
  ex : ∃ t M vr vo va n', n' ≤ n ∧ LPic w L t M n' N vr vo va g ∧ LIn F L t M vr vo va
  lt : ∀ q ∈ F, q < w.heap.size
theorem LAt.ok (h : LAt w F N L n g) : LgOk g := by
  obtain ⟨t, M, vr, vo, va, n', h0, h1, h2⟩ := h.ex
  exact h1.ok
theorem LAt.mono (h : LAt w F N L n g) (hm : n ≤ m) : LAt w F N L m g := by
  obtain ⟨⟨t, M, vr, vo, va, n', h0, h1, h2⟩, h3⟩ := h
  exact ⟨⟨t, M, vr, vo, va, n', by omega, h1, h2⟩, h3⟩
theorem LAt.chg {G : List Nat} (h : LAt w F N L n g) (hc : Chg G w w') (hd : ∀ q ∈ G, q ∉ F) : LAt w' F N L n g := by
  obtain ⟨⟨t, M, vr, vo, va, n', h0, h1, h2⟩, h3⟩ := h
  refine ⟨⟨t, M, vr, vo, va, n', h0, ⟨h1.toLPic0.chg hc (fun b hb => ?_), h1.ok⟩, h2⟩, fun q hq => Nat.lt_of_lt_of_le (h3 q hq) hc.size⟩
  have hn := hd b hb
  exact ⟨fun e => hn (e ▸ h2.l), fun e => hn (e ▸ h2.t), fun e => hn (e ▸ h2.m), fun e => hn (h2.r b e), fun e => hn (h2.o b e), fun e => hn (h2.a b e)⟩
theorem LAt.later (h : LAt w F N L n g) (hb : Below w.heap.size w w') : LAt w' F N L n g := h.chg (G := []) (Chg.of hb) (fun q hq => by cases hq)
theorem applyL_all (h : LPic w L t M n N vr vo va g) (hN : N ≤ w.heap.size) (hn : n ≤ 4000000) (hf : LFew g m) (hm : m ≤ 1048576) (kd nn k p e q : Int) (tx : Bool) (rs : List Rec) (ad : Option Addr) (len cap : Nat) (hB : BArg w ⟨k, p, e, q, tx, rs⟩ ad len cap) (hT : RTyp w ad len) (G : Lg) (hG : G = appG g ⟨kd, nn, ⟨k, p, e, q, tx, rs⟩⟩) :
    Calls Tryz.prog 12 #[.pointer (some ⟨L, 0, none⟩), .agg #[.int .i64 kd, .int .i64 nn, .int .i64 k, .int .i64 p, .int .i64 e, .int .i64 q, .bool tx, .slice ad len cap]] w fun x w' => x = .returned (.tuple #[.int .i64 (decE g ⟨kd, nn, ⟨k, p, e, q, tx, rs⟩⟩).1, .int .i64 (decE g ⟨kd, nn, ⟨k, p, e, q, tx, rs⟩⟩).2.2]) ∧ LMv w w' L t M n N vr vo va G := by
  obtain ⟨⟨o, dd, er⟩, hd⟩ : ∃ d, decE g ⟨kd, nn, ⟨k, p, e, q, tx, rs⟩⟩ = d := ⟨_, rfl⟩
  rw [hd]
  have hr := hf.room hm
  by_cases hk : kd = 1 ∨ mayE ⟨kd, nn, ⟨k, p, e, q, tx, rs⟩⟩ = false
  · exact ApplyL_batch h hN (by omega) hr kd nn k p e q tx rs ad len cap hB hT hk o dd er hd G hG
  · have hmy : mayE ⟨kd, nn, ⟨k, p, e, q, tx, rs⟩⟩ = true := by
      cases hm : mayE ⟨kd, nn, ⟨k, p, e, q, tx, rs⟩⟩ with
      | true => rfl
      | false => exact absurd (Or.inr hm) hk
    have hkd := mayE_kind hmy (fun e => hk (Or.inl e))
    have hro := hr.rows
    have hgo := hr.gone
    exact ApplyL_keep h hN (by omega) hf.keys (by omega) kd nn k p e q tx rs ad len cap hB hkd hmy o dd er hd G hG
theorem LAt.apply (h : LAt w F N L n g) (hN : N ≤ w.heap.size) (hn : n ≤ 4000000) (hf : LFew g m) (hm : m ≤ 1048576) (kd nn k p e q : Int) (tx : Bool) (rs : List Rec) (ad : Option Addr) (len cap : Nat) (hB : BArg w ⟨k, p, e, q, tx, rs⟩ ad len cap) (hT : RTyp w ad len) (G : Lg) (hG : G = appG g ⟨kd, nn, ⟨k, p, e, q, tx, rs⟩⟩) :
    Calls Tryz.prog 12 #[.pointer (some ⟨L, 0, none⟩), .agg #[.int .i64 kd, .int .i64 nn, .int .i64 k, .int .i64 p, .int .i64 e, .int .i64 q, .bool tx, .slice ad len cap]] w fun x w' => x = .returned (.tuple #[.int .i64 (decE g ⟨kd, nn, ⟨k, p, e, q, tx, rs⟩⟩).1, .int .i64 (decE g ⟨kd, nn, ⟨k, p, e, q, tx, rs⟩⟩).2.2]) ∧ ∃ F', LAt w' F' N L (n + 1) G ∧ Chg F w w' ∧ ∀ b ∈ F', b ∈ F ∨ w.heap.size ≤ b := by
  obtain ⟨⟨t, M, vr, vo, va, n', h0, h1, h2⟩, h3⟩ := h
  refine (applyL_all h1 hN (by omega) hf hm kd nn k p e q tx rs ad len cap hB hT G hG).mono ?_
  rintro x w' ⟨rfl, n2, vr', vo', va', e1, e2, e3, e4, e5, e6⟩
  have hsub : ∀ b ∈ L :: M :: (vr.ownBlock.toList ++ (vo.ownBlock.toList ++ va.ownBlock.toList)), b ∈ F := by
    intro b hb
    simp only [List.mem_cons, List.mem_append, Option.mem_toList] at hb
    rcases hb with rfl | rfl | hb | hb | hb
    · exact h2.l
    · exact h2.m
    · exact h2.r b hb
    · exact h2.o b hb
    · exact h2.a b hb
  have hmem : ∀ b, b ∈ F ++ (vr'.ownBlock.toList ++ (vo'.ownBlock.toList ++ va'.ownBlock.toList)) ↔ b ∈ F ∨ vr'.ownBlock = some b ∨ vo'.ownBlock = some b ∨ va'.ownBlock = some b := by
    intro b
    simp only [List.mem_append, Option.mem_toList]
  refine ⟨rfl, F ++ (vr'.ownBlock.toList ++ (vo'.ownBlock.toList ++ va'.ownBlock.toList)), ⟨⟨t, M, vr', vo', va', n2, by omega, e2, ⟨?_, ?_, ?_, ?_, ?_, ?_⟩⟩, fun b hb => ?_⟩, e3.mono hsub, fun b hb => ?_⟩
  · exact (hmem _).2 (Or.inl h2.l)
  · exact (hmem _).2 (Or.inl h2.t)
  · exact (hmem _).2 (Or.inl h2.m)
  · exact fun b e => (hmem _).2 (Or.inr (Or.inl e))
  · exact fun b e => (hmem _).2 (Or.inr (Or.inr (Or.inl e)))
  · exact fun b e => (hmem _).2 (Or.inr (Or.inr (Or.inr e)))
  · rcases (hmem b).1 hb with hb | hb | hb | hb
    · exact Nat.lt_of_lt_of_le (h3 b hb) e3.size
    · exact (e2.rows.block b hb).2.1
    · exact (e2.opn.block b hb).2.1
    · exact (e2.gone.block b hb).2.1
  · rcases (hmem b).1 hb with hb | hb | hb | hb
    · exact Or.inl hb
    · rcases e4 b hb with h | h
      · exact Or.inl (h2.r b h)
      · exact Or.inr h
    · rcases e5 b hb with h | h
      · exact Or.inl (h2.o b h)
      · exact Or.inr h
    · rcases e6 b hb with h | h
      · exact Or.inl (h2.a b h)
      · exact Or.inr h
theorem LAt.decide (h : LAt w F N L n g) (hf : LFew g m) (hm : m ≤ 1048576) (hn : n ≤ 4000000) (kd nn k p e q : Int) (tx : Bool) (rs : List Rec) (ad : Option Addr) (len cap : Nat) (hB : BArg w ⟨k, p, e, q, tx, rs⟩ ad len cap) :
    Calls Tryz.prog 11 #[.pointer (some ⟨L, 0, none⟩), .agg #[.int .i64 kd, .int .i64 nn, .int .i64 k, .int .i64 p, .int .i64 e, .int .i64 q, .bool tx, .slice ad len cap]] w fun x w' => x = .returned (decV (decE g ⟨kd, nn, ⟨k, p, e, q, tx, rs⟩⟩)) ∧ Below w.heap.size w w' := by
  have hr := (hf.room hm).rows
  obtain ⟨⟨t, M, vr, vo, va, n', h0, h1, h2⟩, h3⟩ := h
  by_cases hk : kd = 1 ∨ mayE ⟨kd, nn, ⟨k, p, e, q, tx, rs⟩⟩ = false
  · exact DecideL_batch h1 (by omega) kd nn k p e q tx rs ad len cap hB hk
  · have hm : mayE ⟨kd, nn, ⟨k, p, e, q, tx, rs⟩⟩ = true := by
      cases hm : mayE ⟨kd, nn, ⟨k, p, e, q, tx, rs⟩⟩ with
      | true => rfl
      | false => exact absurd (Or.inr hm) hk
    have hkd := mayE_kind hm (fun e => hk (Or.inl e))
    exact DecideL_keep h1 hf.keys (by omega) kd nn k p e q tx rs ad len cap hB hkd hm
theorem LAt.starts (h : LAt w F N L n g) : Calls Tryz.prog 18 #[.pointer (some ⟨L, 0, none⟩)] w fun r w' => r = .returned (.int .i64 g.start) ∧ w' = w := by
  obtain ⟨⟨t, M, vr, vo, va, n', h0, h1, h2⟩, h3⟩ := h
  exact startL_any h1.toLPic0
theorem LAt.ends (h : LAt w F N L n g) : Calls Tryz.prog 10 #[.pointer (some ⟨L, 0, none⟩)] w fun r w' => r = .returned (.int .i64 g.fin) ∧ w' = w := by
  obtain ⟨⟨t, M, vr, vo, va, n', h0, h1, h2⟩, h3⟩ := h
  exact endL_any h1.toLPic0
theorem LAt.stables (h : LAt w F N L n g) : Calls Tryz.prog 15 #[.pointer (some ⟨L, 0, none⟩)] w fun r w' => r = .returned (.int .i64 g.stable) ∧ w' = w := by
  obtain ⟨⟨t, M, vr, vo, va, n', h0, h1, h2⟩, h3⟩ := h
  exact stable_any h1.toLPic0
theorem LAt.rows (h : LAt w F N L n g) (hl : g.rows.length * 64 ≤ 140737488355328) : Calls Tryz.prog 19 #[.pointer (some ⟨L, 0, none⟩)] w fun e w' => (∃ a c, e = .returned (.slice a g.rows.length c)) ∧ Below w.heap.size w w' := by
  obtain ⟨⟨t, M, vr, vo, va, n', h0, h1, h2⟩, h3⟩ := h
  exact rowsL_any h1.toLPic0 hl
theorem LAt.fetchAll (h : LAt w F N L n g) (hl : g.rows.length * 64 ≤ 140737488355328) : Calls Tryz.prog 14 #[.pointer (some ⟨L, 0, none⟩), .int .i64 g.start, .int .i64 1073741824, .bool true] w fun x w' => ∃ v, x = .returned (fetV v (fetG g g.start 1073741824 true)) ∧ OwnK kRw w' w.heap.size v (fetG g g.start 1073741824 true).1 ∧ Below w.heap.size w w' := by
  obtain ⟨⟨t, M, vr, vo, va, n', h0, h1, h2⟩, h3⟩ := h
  have hs := h1.ok.start
  exact Fetch_true h1 hl g.start 1073741824 hs.1 (Int.le_refl _) _ _ rfl rfl hs.2 (by omega) (by omega)
/-- Two ledgers, apart from each other, in blocks from N on. -/
def TwoL (N : Nat) (w : World) (a b n : Nat) (A C : Lg) : Prop := ∃ Fa Fb, LAt w Fa N a n A ∧ LAt w Fb N b n C ∧ (∀ q ∈ Fa, N ≤ q ∧ q ∉ Fb) ∧ ∀ q ∈ Fb, N ≤ q
variable {a b : Nat} {A C : Lg}
theorem TwoL.later (h : TwoL N w a b n A C) (hb : Below w.heap.size w w') : TwoL N w' a b n A C := by
  obtain ⟨Fa, Fb, h1, h2, h3, h4⟩ := h
  exact ⟨Fa, Fb, h1.later hb, h2.later hb, h3, h4⟩
theorem TwoL.swap (h : TwoL N w a b n A C) : TwoL N w b a n C A := by
  obtain ⟨Fa, Fb, h1, h2, h3, h4⟩ := h
  exact ⟨Fb, Fa, h2, h1, fun q hq => ⟨h4 q hq, fun hm => (h3 q hm).2 hq⟩, fun q hq => (h3 q hq).1⟩
theorem TwoL.mono (h : TwoL N w a b n A C) (hm : n ≤ m) : TwoL N w a b m A C := by
  obtain ⟨Fa, Fb, h1, h2, h3, h4⟩ := h
  exact ⟨Fa, Fb, h1.mono hm, h2.mono hm, h3, h4⟩
theorem TwoL.fst (h : TwoL N w a b n A C) : ∃ F, LAt w F N a n A := by
  obtain ⟨Fa, Fb, h1, h2, h3, h4⟩ := h
  exact ⟨Fa, h1⟩
theorem TwoL.apply (h : TwoL N w a b n A C) (hN : N ≤ w.heap.size) (hn : n ≤ 4000000) (hf : LFew A m) (hm : m ≤ 1048576) (kd nn k p e q : Int) (tx : Bool) (rs : List Rec) (ad : Option Addr) (len cap : Nat) (hB : BArg w ⟨k, p, e, q, tx, rs⟩ ad len cap) (hT : RTyp w ad len) (G : Lg) (hG : G = appG A ⟨kd, nn, ⟨k, p, e, q, tx, rs⟩⟩) :
    Calls Tryz.prog 12 #[.pointer (some ⟨a, 0, none⟩), .agg #[.int .i64 kd, .int .i64 nn, .int .i64 k, .int .i64 p, .int .i64 e, .int .i64 q, .bool tx, .slice ad len cap]] w fun x w' => x = .returned (.tuple #[.int .i64 (decE A ⟨kd, nn, ⟨k, p, e, q, tx, rs⟩⟩).1, .int .i64 (decE A ⟨kd, nn, ⟨k, p, e, q, tx, rs⟩⟩).2.2]) ∧ TwoL N w' a b (n + 1) G C ∧ Below N w w' := by
  obtain ⟨Fa, Fb, h1, h2, h3, h4⟩ := h
  refine (h1.apply hN hn hf hm kd nn k p e q tx rs ad len cap hB hT G hG).mono ?_
  rintro x w' ⟨rfl, F', h5, h6, h7⟩
  refine ⟨rfl, ⟨F', Fb, h5, (h2.chg h6 (fun q hq => (h3 q hq).2)).mono (by omega), fun q hq => ?_, h4⟩, h6.below (fun q hq => (h3 q hq).1) hN⟩
  rcases h7 q hq with h | h
  · exact h3 q h
  · exact ⟨Nat.le_trans hN h, fun hm => by have := h2.lt q hm; omega⟩
theorem TwoL.new {w1 w2 : World} {t1 M1 t2 M2 L1 L2 : Nat} (h1 : LPic w1 L1 t1 M1 0 w.heap.size (.slice none 0 0) (.slice none 0 0) (.slice none 0 0) lg0) (b1 : Below w.heap.size w w1) (l1 : w.heap.size ≤ L1) (l2 : w.heap.size ≤ t1) (l3 : w.heap.size ≤ M1) (h2 : LPic w2 L2 t2 M2 0 w1.heap.size (.slice none 0 0) (.slice none 0 0) (.slice none 0 0) lg0) (b2 : Below w1.heap.size w1 w2) (k1 : w1.heap.size ≤ L2) (k2 : w1.heap.size ≤ t2) (k3 : w1.heap.size ≤ M2) : TwoL w.heap.size w2 L1 L2 0 lg0 lg0 := by
  have hno : ∀ b, (Value.slice none 0 0).ownBlock ≠ some b := fun b e => by cases e
  have hw := b1.size
  have z1 := h1.lt
  have z2 := h1.tab.lt
  have y1 := h2.lt
  have y2 := h2.tab.lt
  have hb := b2.size
  refine ⟨[L1, t1, M1], [L2, t2, M2], ⟨⟨t1, M1, _, _, _, 0, Nat.le_refl _, h1.later b2, ⟨by simp, by simp, by simp, fun b e => absurd e (hno b), fun b e => absurd e (hno b), fun b e => absurd e (hno b)⟩⟩, fun q hq => ?_⟩, ⟨⟨t2, M2, _, _, _, 0, Nat.le_refl _, ⟨⟨h2.box, h2.tab, h2.rows.mono hw, h2.opn.mono hw, h2.gone.mono hw⟩, h2.ok⟩, ⟨by simp, by simp, by simp, fun b e => absurd e (hno b), fun b e => absurd e (hno b), fun b e => absurd e (hno b)⟩⟩, fun q hq => ?_⟩, fun q hq => ?_, fun q hq => ?_⟩
  · simp only [List.mem_cons, List.not_mem_nil, or_false] at hq
    rcases hq with rfl | rfl | rfl <;> omega
  · simp only [List.mem_cons, List.not_mem_nil, or_false] at hq
    rcases hq with rfl | rfl | rfl <;> omega
  · simp only [List.mem_cons, List.not_mem_nil, or_false] at hq ⊢
    rcases hq with rfl | rfl | rfl <;> exact ⟨by omega, by omega⟩
  · simp only [List.mem_cons, List.not_mem_nil, or_false] at hq
    rcases hq with rfl | rfl | rfl <;> omega
end Go.Proofs.YtfgamkcnnijloaaGreat
namespace Go.Proofs.YtfgamkcnnijloaaGreat
open Go.RowKit Go.Shelf
variable {w : World} {ad : Option Addr} {len cap : Nat} {f : Nat → EnL}

theorem frameN_len (k : Int) (l : List Nat) : (frameN k l).2.length ≤ 1000000 := by
  unfold frameN
  split
  · split
    · show (frameBs _ _).length ≤ _
      rw [frameBs_length]
      omega
    · show 0 ≤ _; omega
  · show 0 ≤ _; omega
theorem putE_len (x : Et) : (putE x).2.length ≤ 1000000 := by
  unfold putE
  split
  · show 0 ≤ _; omega
  · exact frameN_len _ _
theorem putE_zero {x : Et} (h : mayE x = true) : (putE x).1 = 0 := by
  obtain ⟨kd, nn, b⟩ := x
  obtain ⟨hk, h0, h1, hc⟩ := mayE_nums h
  unfold putE
  rw [if_neg (by rw [h]; simp)]
  have hl : (if (⟨kd, nn, b⟩ : Et).kind = 1 then (encodeN b).2 else tell13 nn).length ≤ 65536 := by
    show (if kd = 1 then (encodeN b).2 else tell13 nn).length ≤ 65536
    split
    · rename_i h1'
      have hc' := hc h1'
      unfold encodeN
      rw [if_pos hc']
      have e1 := writeN_length b
      have e2 := (checkN_ok hc').2.2.2.2
      show (writeN b).length ≤ _
      omega
    · exact tell13_len nn
  unfold frameN
  dsimp only at hl ⊢
  rw [if_pos (by omega), if_pos hl]
theorem fieldsRow : (Tryz.prog.fieldsOf 51).toList.map (fun f => (f.name, f.type, f.offset)) = [("Offset", 3, 0), ("Producer", 3, 1), ("InTxn", 4, 2), ("Record", 43, 3)] := by kernel_rfl
theorem rec_equal (a b : ByteArray) (c : Bool) (w : World) : (Op.equalIn 9999 43 (.agg #[.string a, .string b, .bool c]) (.agg #[.string a, .string b, .bool c])).run Tryz.prog w = .ok true w := by
  have hf := Tryz.fieldsR
  rw [run_equalIn_struct w 9998 43 _ _ (by kernel_rfl) (by kernel_rfl)]
  generalize (Tryz.prog.fieldsOf 43).toList = fs at hf
  rcases fs with _ | ⟨f0, _ | ⟨f1, _ | ⟨f2, _ | ⟨f3, fs⟩⟩⟩⟩
  · exact absurd (congrArg List.length hf) (by simp)
  · exact absurd (congrArg List.length hf) (by simp)
  · exact absurd (congrArg List.length hf) (by simp)
  · simp only [List.map_cons, List.map_nil, List.cons.injEq, Prod.mk.injEq, and_true] at hf
    obtain ⟨⟨n0, t0, o0⟩, ⟨n1, t1, o1⟩, ⟨n2, t2, o2⟩⟩ := hf
    have p0 : ∀ (a b : ByteArray) (c : Bool), (part 9 #[.string a, .string b, .bool c] 0).run Tryz.prog w = .ok (.string a) w := fun _ _ _ => by kernel_rfl
    have p1 : ∀ (a b : ByteArray) (c : Bool), (part 9 #[.string a, .string b, .bool c] 1).run Tryz.prog w = .ok (.string b) w := fun _ _ _ => by kernel_rfl
    have p2 : ∀ (a b : ByteArray) (c : Bool), (part 4 #[.string a, .string b, .bool c] 2).run Tryz.prog w = .ok (.bool c) w := fun _ _ _ => by kernel_rfl
    have e0 : ∀ a b : ByteArray, (Op.equalIn 9998 9 (.string a) (.string b)).run Tryz.prog w = .ok (a == b) w := fun a b => by rw [beq_toListBytes]; exact run_equalIn_string w 9997 _ a b Tryz.underlying9
    have e1 : ∀ a b : Bool, (Op.equalIn 9998 4 (.bool a) (.bool b)).run Tryz.prog w = .ok (a == b) w := fun a b => run_equalIn_bool' w 9997 _ a b Tryz.underlying4
    simp only [Op.eqFields, n0, n1, n2, t0, t1, t2, o0, o1, o2]
    rw [if_pos (by decide), if_pos (by decide), if_pos (by decide)]
    have ea : (a == a) = true := (bytes_beqK a a).2 rfl
    have eb : (b == b) = true := (bytes_beqK b b).2 rfl
    have ec : (c == c) = true := by cases c <;> rfl
    simp only [Sem.run_bind, p0, p1, p2, Result.andThen_ok, e0, e1, Sem.run_ite, Sem.run_pure, ea, eb, ec]
    rfl
  · exact absurd (congrArg List.length hf) (by simp)
theorem row_same (o p : Int) (t : Bool) (k v : ByteArray) (d : Bool) (w : World) : (binOp .neq 51 (.agg #[.int .i64 o, .int .i64 p, .bool t, .string k, .string v, .bool d]) (.agg #[.int .i64 o, .int .i64 p, .bool t, .string k, .string v, .bool d])).run Tryz.prog w = .ok (.bool false) w := by
  have hf := fieldsRow
  rw [run_neq_struct, run_equalIn_struct w 9999 51 _ _ (by kernel_rfl) (by kernel_rfl)]
  generalize (Tryz.prog.fieldsOf 51).toList = fs at hf
  rcases fs with _ | ⟨f0, _ | ⟨f1, _ | ⟨f2, _ | ⟨f3, _ | ⟨f4, fs⟩⟩⟩⟩⟩
  · exact absurd (congrArg List.length hf) (by simp)
  · exact absurd (congrArg List.length hf) (by simp)
  · exact absurd (congrArg List.length hf) (by simp)
  · exact absurd (congrArg List.length hf) (by simp)
  · simp only [List.map_cons, List.map_nil, List.cons.injEq, Prod.mk.injEq, and_true] at hf
    obtain ⟨⟨n0, t0, o0⟩, ⟨n1, t1, o1⟩, ⟨n2, t2, o2⟩, ⟨n3, t3, o3⟩⟩ := hf
    have p0 : (part 3 #[.int .i64 o, .int .i64 p, .bool t, .string k, .string v, .bool d] 0).run Tryz.prog w = .ok (.int .i64 o) w := by kernel_rfl
    have p1 : (part 3 #[.int .i64 o, .int .i64 p, .bool t, .string k, .string v, .bool d] 1).run Tryz.prog w = .ok (.int .i64 p) w := by kernel_rfl
    have p2 : (part 4 #[.int .i64 o, .int .i64 p, .bool t, .string k, .string v, .bool d] 2).run Tryz.prog w = .ok (.bool t) w := by kernel_rfl
    have p3 : (part 43 #[.int .i64 o, .int .i64 p, .bool t, .string k, .string v, .bool d] 3).run Tryz.prog w = .ok (.agg #[.string k, .string v, .bool d]) w := by kernel_rfl
    have e0 : ∀ a b : Int, (Op.equalIn 9999 3 (.int .i64 a) (.int .i64 b)).run Tryz.prog w = .ok (a == b) w := fun a b => run_equalIn_int w 9998 _ _ _ a b Tryz.underlying3
    have e1 : ∀ a b : Bool, (Op.equalIn 9999 4 (.bool a) (.bool b)).run Tryz.prog w = .ok (a == b) w := fun a b => run_equalIn_bool' w 9998 _ a b Tryz.underlying4
    have e2 := rec_equal k v d w
    simp only [Op.eqFields, n0, n1, n2, n3, t0, t1, t2, t3, o0, o1, o2, o3]
    rw [if_pos (by decide), if_pos (by decide), if_pos (by decide), if_pos (by decide)]
    have ea : (o == o) = true := by simp
    have eb : (p == p) = true := by simp
    have ec : (t == t) = true := by cases t <;> rfl
    simp only [Sem.run_bind, p0, p1, p2, p3, Result.andThen_ok, e0, e1, e2, Sem.run_ite, Sem.run_pure, ea, eb, ec]
    rfl
  · exact absurd (congrArg List.length hf) (by simp)
theorem row_guard (x y : Operand) (xs ys : Array Value) (w : World) : (eqGuard .neq 51 x y (.agg xs) (.agg ys)).run Tryz.prog w = .ok () w := run_eqGuard_agg w .neq _ x y xs ys (by kernel_rfl)
set_option maxRecDepth 100000 in
set_option maxHeartbeats 16000000 in
theorem replL_walk (ho : EntsL w f ad len) (hm : len ≤ 1048576) :
    Calls Tryz.prog 4 #[.slice ad len cap] w fun r w' => r = .returned (.bool true) ∧ Below w.heap.size w w' := by
  have HE := hid ho
  have HN1 := hid (newL_any w)
  clear ho
  go_enter Tryz.func4, Tryz.ntmps4
  go_wp2_with (first
    | (go_at_call 7; (with_reducible_and_instances (refine HN1.out.mono ?_)); rintro r w1 ⟨L1, t1, M1, rfl, hp1, hb1, l1, l2, l3⟩; have HP1 := hid hp1; have HB1 := hid hb1; have HN2 := hid (newL_any w1); clear hp1 hb1)
    | (go_at_call 7; (with_reducible_and_instances (refine HN2.out.mono ?_)); rintro r w2 ⟨L2, t2, M2, rfl, hp2, hb2, k1, k2, k3⟩; have HT2 := hid (TwoL.new HP1.out HB1.out l1 l2 l3 hp2 hb2 k1 k2 k3); have HB2 := hid (HB1.out.trans (hb2.mono HB1.out.size)); have HK := hid (knows13 w2); clear hp2 hb2 k1 k2 k3 l1 l2 l3)
    | (go_at_call 8; (with_reducible_and_instances (refine HK.out.mono ?_)); rintro r w3 ⟨rfl, hb3⟩; have HT3 := hid (HT2.out.later hb3); have HB3 := hid (HB2.out.trans (hb3.mono HB2.out.size)); clear hb3))
  go_loopw [5] (fun i wr => ∃ j : Nat, j ≤ len ∧ i = .int .i64 (j : Int) ∧ Hid (TwoL w.heap.size wr L1 L2 (2 * j) (ledN f j) (ledN f j)) ∧ Hid (Below w.heap.size w wr)) (fun i _ => len - (intOf i).toNat)
  case atStart => exact ⟨0, Nat.zero_le _, rfl, HT3, HB3⟩
  case round =>
    clear HT2 HT3 HP1 HB1 HB2 HB3 HK HN1 HN2
    obtain ⟨j, hj, rfl, HTj, HBj⟩ := hrel
    by_cases hlt : j < len
    · have hne : len ≠ 0 := by omega
      rcases HE.out with h | ⟨b, off, rfl, hb, hc⟩
      · exact absurd h hne
      obtain ⟨hcs, hok⟩ := hc j hlt
      have HCc : Hid (∀ W, Below w.heap.size w W → ∀ i, i < 8 → W.cell? ⟨b, off + j * 8 + i, none⟩ = (enA (f j))[i]?) := hid (fun W hW i hi => (hW.cell (p := ⟨b, off + j * 8 + i, none⟩) hb).trans (hcs i hi))
      have HF := hid (ledN_few f j)
      have HNx : Hid (ledN f (j + 1) = appG (ledN f j) (f j).et) := rfl
      obtain ⟨G, hG⟩ : ∃ G, appG (ledN f j) (f j).et = G := ⟨_, rfl⟩
      rw [hG] at HNx
      have HGe := hid hG
      obtain ⟨⟨nO, dd, er⟩, hd⟩ : ∃ d, decE (ledN f j) (f j).et = d := ⟨_, rfl⟩
      have HDe := hid hd
      have HOk := hid hok
      have hjl : j ≤ 1048576 := by omega
      clear hG hd hcs hok hc
      generalize hgj : ledN f j = g at *
      generalize f j = o at *
      obtain ⟨kd, nn, k, p, e, q, tx, rs, ar, lr, cr⟩ := o
      have HDe' : Hid (decE g ⟨kd, nn, ⟨k, p, e, q, tx, rs⟩⟩ = (nO, dd, er)) := HDe
      have HOw := hid (fun W (hW : Below w.heap.size w W) => own13_any kd nn k p e q tx rs ar lr cr W (HOk.out.arg.later hW) (by have := HOk.out.size; dsimp only at this; omega))
      have HDc := hid (fun W F (h : LAt W F w.heap.size L1 (2 * j) g) (a : Option Addr) (c : Nat) (hA : BArg W ⟨k, p, e, q, tx, rs⟩ a lr c) => h.decide HF.out hjl (by omega) kd nn k p e q tx rs a lr c hA)
      have HAp := hid (fun W (h : TwoL w.heap.size W L1 L2 (2 * j) g g) (hN : w.heap.size ≤ W.heap.size) (a : Option Addr) (c : Nat) (hA : BArg W ⟨k, p, e, q, tx, rs⟩ a lr c) (hT : RTyp W a lr) => h.apply hN (by omega) HF.out hjl kd nn k p e q tx rs a lr c hA hT G HGe.out.symm)
      rw [HDe'.out] at HDc HAp
      unfold decV at HDc
      dsimp only at HDc HAp
      have r0 := HCc.out wr HBj.out 0 (by omega)
      have r1 := HCc.out wr HBj.out 1 (by omega)
      have r2 := HCc.out wr HBj.out 2 (by omega)
      have r3 := HCc.out wr HBj.out 3 (by omega)
      have r4 := HCc.out wr HBj.out 4 (by omega)
      have r5 := HCc.out wr HBj.out 5 (by omega)
      have r6 := HCc.out wr HBj.out 6 (by omega)
      have r7 := HCc.out wr HBj.out 7 (by omega)
      simp only [enA, List.getElem?_toArray, List.getElem?_cons_zero, List.getElem?_cons_succ, Nat.add_zero] at r0 r1 r2 r3 r4 r5 r6 r7
      by_cases her : er = 0
      rotate_left
      · have her' : (er == 0) = false := by simpa using her
        have her2 : (er != 0) = true := by simp [her]
        have HGs : Hid (G = g) := hid (by rw [← HGe.out]; show appG g ⟨kd, nn, ⟨k, p, e, q, tx, rs⟩⟩ = g; unfold appG; rw [HDe'.out, if_pos (Or.inl her)])
        clear her
        go_wp2_with (first
          | (go_at_call 9; (with_reducible_and_instances (refine (HOw.out wr HBj.out).mono ?_)); rintro r W1 ⟨ad1, c1, rfl, hA1, hT1, hb1⟩; have HB1 := hid (HBj.out.trans (hb1.mono HBj.out.size)); obtain ⟨F1, hF1⟩ := HTj.out.fst; have HT1 := hid (HTj.out.later hb1); have HDd := hid (HDc.out W1 F1 (hF1.later hb1) ad1 c1 hA1); clear hA1 hT1 hb1 hF1)
          | (go_at_call 11; (with_reducible_and_instances (refine HDd.out.mono ?_)); rintro r W2 ⟨rfl, hb2⟩; have HB2 := hid (HB1.out.trans (hb2.mono HB1.out.size)); have HT2 := hid (HT1.out.later hb2); have s0 := HCc.out W2 HB2.out 0 (by omega); have s1 := HCc.out W2 HB2.out 1 (by omega); have s2 := HCc.out W2 HB2.out 2 (by omega); have s3 := HCc.out W2 HB2.out 3 (by omega); have s4 := HCc.out W2 HB2.out 4 (by omega); have s5 := HCc.out W2 HB2.out 5 (by omega); have s6 := HCc.out W2 HB2.out 6 (by omega); have s7 := HCc.out W2 HB2.out 7 (by omega); simp only [enA, List.getElem?_toArray, List.getElem?_cons_zero, List.getElem?_cons_succ, Nat.add_zero] at s0 s1 s2 s3 s4 s5 s6 s7; clear hb2)
          | (go_at_call 9; (with_reducible_and_instances (refine (HOw.out W2 HB2.out).mono ?_)); rintro r W3 ⟨ad3, c3, rfl, hA3, hT3, hb3⟩; have HB3 := hid (HB2.out.trans (hb3.mono HB2.out.size)); have HAa := hid (HAp.out W3 (HT2.out.later hb3) HB3.out.size ad3 c3 hA3 hT3); clear hA3 hT3 hb3)
          | (go_at_call 12; (with_reducible_and_instances (refine HAa.out.mono ?_)); rintro r W4 ⟨rfl, hT4, hb4⟩; have HT4 := hid hT4; have HB4 := hid (HB3.out.trans hb4); have u0 := HCc.out W4 HB4.out 0 (by omega); have u1 := HCc.out W4 HB4.out 1 (by omega); have u2 := HCc.out W4 HB4.out 2 (by omega); have u3 := HCc.out W4 HB4.out 3 (by omega); have u4 := HCc.out W4 HB4.out 4 (by omega); have u5 := HCc.out W4 HB4.out 5 (by omega); have u6 := HCc.out W4 HB4.out 6 (by omega); have u7 := HCc.out W4 HB4.out 7 (by omega); simp only [enA, List.getElem?_toArray, List.getElem?_cons_zero, List.getElem?_cons_succ, Nat.add_zero] at u0 u1 u2 u3 u4 u5 u6 u7; clear hT4 hb4)
          | (go_at_call 13; (with_reducible_and_instances (refine (num13_any _ _).mono ?_)); rintro r w99 ⟨rfl, hw99⟩; obtain rfl := hw99.symm))
        refine ⟨⟨j + 1, by omega, by go_num, (by have h := HT4.out.mono (show 2 * j + 1 ≤ 2 * (j + 1) by omega); rw [HNx.out]; rw [HGs.out] at h ⊢; exact h), HB4.out⟩, by simp [intOf]; omega⟩
      subst her
      cases dd with
      | true =>
        have HGs : Hid (G = g) := hid (by rw [← HGe.out]; show appG g ⟨kd, nn, ⟨k, p, e, q, tx, rs⟩⟩ = g; unfold appG; rw [HDe'.out, if_pos (Or.inr rfl)])
        go_wp2_with (first
          | (go_at_call 9; (with_reducible_and_instances (refine (HOw.out wr HBj.out).mono ?_)); rintro r W1 ⟨ad1, c1, rfl, hA1, hT1, hb1⟩; have HB1 := hid (HBj.out.trans (hb1.mono HBj.out.size)); obtain ⟨F1, hF1⟩ := HTj.out.fst; have HT1 := hid (HTj.out.later hb1); have HDd := hid (HDc.out W1 F1 (hF1.later hb1) ad1 c1 hA1); clear hA1 hT1 hb1 hF1)
          | (go_at_call 11; (with_reducible_and_instances (refine HDd.out.mono ?_)); rintro r W2 ⟨rfl, hb2⟩; have HB2 := hid (HB1.out.trans (hb2.mono HB1.out.size)); have HT2 := hid (HT1.out.later hb2); have s0 := HCc.out W2 HB2.out 0 (by omega); have s1 := HCc.out W2 HB2.out 1 (by omega); have s2 := HCc.out W2 HB2.out 2 (by omega); have s3 := HCc.out W2 HB2.out 3 (by omega); have s4 := HCc.out W2 HB2.out 4 (by omega); have s5 := HCc.out W2 HB2.out 5 (by omega); have s6 := HCc.out W2 HB2.out 6 (by omega); have s7 := HCc.out W2 HB2.out 7 (by omega); simp only [enA, List.getElem?_toArray, List.getElem?_cons_zero, List.getElem?_cons_succ, Nat.add_zero] at s0 s1 s2 s3 s4 s5 s6 s7; clear hb2)
          | (go_at_call 9; (with_reducible_and_instances (refine (HOw.out W2 HB2.out).mono ?_)); rintro r W3 ⟨ad3, c3, rfl, hA3, hT3, hb3⟩; have HB3 := hid (HB2.out.trans (hb3.mono HB2.out.size)); have HAa := hid (HAp.out W3 (HT2.out.later hb3) HB3.out.size ad3 c3 hA3 hT3); clear hA3 hT3 hb3)
          | (go_at_call 12; (with_reducible_and_instances (refine HAa.out.mono ?_)); rintro r W4 ⟨rfl, hT4, hb4⟩; have HT4 := hid hT4; have HB4 := hid (HB3.out.trans hb4); have u0 := HCc.out W4 HB4.out 0 (by omega); have u1 := HCc.out W4 HB4.out 1 (by omega); have u2 := HCc.out W4 HB4.out 2 (by omega); have u3 := HCc.out W4 HB4.out 3 (by omega); have u4 := HCc.out W4 HB4.out 4 (by omega); have u5 := HCc.out W4 HB4.out 5 (by omega); have u6 := HCc.out W4 HB4.out 6 (by omega); have u7 := HCc.out W4 HB4.out 7 (by omega); simp only [enA, List.getElem?_toArray, List.getElem?_cons_zero, List.getElem?_cons_succ, Nat.add_zero] at u0 u1 u2 u3 u4 u5 u6 u7; clear hT4 hb4)
          | (go_at_call 13; (with_reducible_and_instances (refine (num13_any _ _).mono ?_)); rintro r w99 ⟨rfl, hw99⟩; obtain rfl := hw99.symm))
        refine ⟨⟨j + 1, by omega, by go_num, (by have h := HT4.out.mono (show 2 * j + 1 ≤ 2 * (j + 1) by omega); rw [HNx.out]; rw [HGs.out] at h ⊢; exact h), HB4.out⟩, by simp [intOf]; omega⟩
      | false =>
        have hmy : mayE ⟨kd, nn, ⟨k, p, e, q, tx, rs⟩⟩ = true := by
          cases hmy : mayE ⟨kd, nn, ⟨k, p, e, q, tx, rs⟩⟩ with
          | true => rfl
          | false => have h1 := HDe'.out; unfold decE at h1; rw [if_pos hmy] at h1; cases h1
        have HPz := hid (putE_zero hmy)
        have HGp := hid (get_put hmy)
        have hbl := putE_len ⟨kd, nn, ⟨k, p, e, q, tx, rs⟩⟩
        obtain ⟨Bs, hBs⟩ : ∃ Bs, (putE ⟨kd, nn, ⟨k, p, e, q, tx, rs⟩⟩).2 = Bs := ⟨_, rfl⟩
        obtain ⟨mB, hmB⟩ : ∃ mB, Bs.length = mB := ⟨_, rfl⟩
        have HPu := hid (fun W (a : Option Addr) (c : Nat) (h : BArg W ⟨k, p, e, q, tx, rs⟩ a lr c) => putEntry_any kd nn k p e q tx rs a lr c W h)
        rw [hBs] at HGp hbl HPu
        rw [HPz.out] at HPu
        rw [hmB] at hbl
        have HmB := hid hmB
        have hnn : (nO != nO) = false := by simp
        clear hmy hBs hmB
        go_wp2_with (first
          | (go_at_call 9; (with_reducible_and_instances (refine (HOw.out wr HBj.out).mono ?_)); rintro r W1 ⟨ad1, c1, rfl, hA1, hT1, hb1⟩; have HB1 := hid (HBj.out.trans (hb1.mono HBj.out.size)); obtain ⟨F1, hF1⟩ := HTj.out.fst; have HT1 := hid (HTj.out.later hb1); have HDd := hid (HDc.out W1 F1 (hF1.later hb1) ad1 c1 hA1); clear hA1 hT1 hb1 hF1)
          | (go_at_call 11; (with_reducible_and_instances (refine HDd.out.mono ?_)); rintro r W2 ⟨rfl, hb2⟩; have HB2 := hid (HB1.out.trans (hb2.mono HB1.out.size)); have HT2 := hid (HT1.out.later hb2); have s0 := HCc.out W2 HB2.out 0 (by omega); have s1 := HCc.out W2 HB2.out 1 (by omega); have s2 := HCc.out W2 HB2.out 2 (by omega); have s3 := HCc.out W2 HB2.out 3 (by omega); have s4 := HCc.out W2 HB2.out 4 (by omega); have s5 := HCc.out W2 HB2.out 5 (by omega); have s6 := HCc.out W2 HB2.out 6 (by omega); have s7 := HCc.out W2 HB2.out 7 (by omega); simp only [enA, List.getElem?_toArray, List.getElem?_cons_zero, List.getElem?_cons_succ, Nat.add_zero] at s0 s1 s2 s3 s4 s5 s6 s7; clear hb2)
          | (go_at_call 9; (with_reducible_and_instances (refine (HOw.out W2 HB2.out).mono ?_)); rintro r W3 ⟨ad3, c3, rfl, hA3, hT3, hb3⟩; have HB3 := hid (HB2.out.trans (hb3.mono HB2.out.size)); have HAa := hid (HAp.out W3 (HT2.out.later hb3) HB3.out.size ad3 c3 hA3 hT3); clear hA3 hT3 hb3)
          | (go_at_call 12; (with_reducible_and_instances (refine HAa.out.mono ?_)); rintro r W4 ⟨rfl, hT4, hb4⟩; have HT4 := hid hT4; have HB4 := hid (HB3.out.trans hb4); have u0 := HCc.out W4 HB4.out 0 (by omega); have u1 := HCc.out W4 HB4.out 1 (by omega); have u2 := HCc.out W4 HB4.out 2 (by omega); have u3 := HCc.out W4 HB4.out 3 (by omega); have u4 := HCc.out W4 HB4.out 4 (by omega); have u5 := HCc.out W4 HB4.out 5 (by omega); have u6 := HCc.out W4 HB4.out 6 (by omega); have u7 := HCc.out W4 HB4.out 7 (by omega); simp only [enA, List.getElem?_toArray, List.getElem?_cons_zero, List.getElem?_cons_succ, Nat.add_zero] at u0 u1 u2 u3 u4 u5 u6 u7; clear hT4 hb4)
          | (go_at_call 13; (with_reducible_and_instances (refine (num13_any _ _).mono ?_)); rintro r w99 ⟨rfl, hw99⟩; obtain rfl := hw99.symm)
          | (go_at_call 9; (with_reducible_and_instances (refine (HOw.out W4 HB4.out).mono ?_)); rintro r W5 ⟨ad5, c5, rfl, hA5, hT5, hb5⟩; have HB5 := hid (HB4.out.trans (hb5.mono HB4.out.size)); have HT5 := hid (HT4.out.later hb5); have HPc := hid (HPu.out W5 ad5 c5 hA5); clear hA5 hT5 hb5)
          | (go_at_call 16; (with_reducible_and_instances (refine HPc.out.mono ?_)); rintro r W6 ⟨v6, rfl, o6, hb6⟩; obtain ⟨a6, c6, hv6, hq6, hcc6, -⟩ := o6.slice mB HmB.out; subst hv6; have HB6 := hid (HB5.out.trans (hb6.mono HB5.out.size)); have HT6 := hid (HT5.out.later hb6); have HGc := hid (getEntry_any a6 mB c6 Bs W6 hq6 hcc6 (by omega)); unfold GetPost at HGc; rw [HGp.out] at HGc; clear o6 hb6 hq6)
          | (go_at_call 17; (with_reducible_and_instances (refine HGc.out.mono ?_)); rintro r W7 ⟨kd3, nn3, kk3, qp3, qe3, qs3, qt3, rs3, a7, n7, c7, rfl, hE3, hA7, hb7⟩; simp only [Et.mk.injEq, Bat.mk.injEq] at hE3; obtain ⟨rfl, rfl, rfl, rfl, rfl, rfl, rfl, rfl⟩ := hE3; obtain ⟨W8, hW8⟩ : ∃ x, W7.alloc (.cells #[.int .i64 kd3, .int .i64 nn3, .int .i64 kk3, .int .i64 qp3, .int .i64 qe3, .int .i64 qs3, .bool qt3, .slice a7 n7 c7] TEt) = x := ⟨_, rfl⟩; have hz8 : Blk W8 W7.heap.size #[.int .i64 kd3, .int .i64 nn3, .int .i64 kk3, .int .i64 qp3, .int .i64 qe3, .int .i64 qs3, .bool qt3, .slice a7 n7 c7] TEt := (by rw [← hW8]; exact heap_alloc_new W7 _); have hb8 : Below W7.heap.size W7 W8 := (by rw [← hW8]; exact (Below.refl _ _).alloc (Nat.le_refl _) _); have HB8 := hid (HB6.out.trans ((hb7.trans (hb8.mono hb7.size)).mono HB6.out.size)); have HT8 := hid ((HT6.out.later hb7).later hb8); have z0 := hz8.cell 0; have z1 := hz8.cell 1; have z2 := hz8.cell 2; have z3 := hz8.cell 3; have z4 := hz8.cell 4; have z5 := hz8.cell 5; have z6 := hz8.cell 6; have z7 := hz8.cell 7; simp only [List.getElem?_toArray, List.getElem?_cons_zero, List.getElem?_cons_succ] at z0 z1 z2 z3 z4 z5 z6 z7; have lz := hz8.lt; have HAb := hid (HT8.out.swap.apply HB8.out.size (by omega) HF.out hjl kd3 nn3 kk3 qp3 qe3 qs3 qt3 rs3 a7 n7 c7 (hA7.arg.later hb8) (hA7.typ.later hb8) G HGe.out.symm); rw [HDe'.out] at HAb; dsimp only at HAb; clear hA7 hb7 hb8 hz8)
          | (go_at_call 12; (with_reducible_and_instances (refine HAb.out.mono ?_)); rintro r W9 ⟨rfl, hT9, hb9⟩; have HT9 := hid hT9.swap; have HB9 := hid (HB8.out.trans hb9); clear hT9 hb9))
        refine ⟨⟨j + 1, by omega, by go_num, (by rw [HNx.out]; exact HT9.out.mono (by omega)), HB9.out⟩, by simp [intOf]; omega⟩
    · obtain rfl : j = len := by omega
      have hfw := (ledN_few f j).room hm
      have hrw := hfw.rows
      generalize ledN f j = g at *
      obtain ⟨F1, hF1⟩ := HTj.out.fst
      have HS1 := hid hF1.starts
      have HF1 := hid (hF1.fetchAll (by omega))
      obtain ⟨⟨R, nx, ee⟩, hR⟩ : ∃ z, fetG g g.start 1073741824 true = z := ⟨_, rfl⟩
      have HRw : Hid (g.rows.length * 64 ≤ 140737488355328) := hid (by omega)
      rw [hR] at HF1
      unfold fetV at HF1
      dsimp only at HF1
      have HR := hid hR
      obtain ⟨mR, hmR⟩ : ∃ mR, R.length = mR := ⟨_, rfl⟩
      have HmR := hid hmR
      have hee : (ee != ee) = false := by simp
      have h1 : (g.fin != g.fin) = false := by simp
      have h2 : (g.start != g.start) = false := by simp
      have h3 : (g.stable != g.stable) = false := by simp
      clear hR hfw hrw hF1 hmR
      go_wp2_with (first
        | (go_at_call 18; (with_reducible_and_instances (refine HS1.out.mono ?_)); rintro r w9 ⟨rfl, hw9⟩; obtain rfl := hw9.symm)
        | (go_at_call 14; (with_reducible_and_instances (refine HF1.out.mono ?_)); rintro r W1 ⟨v1, rfl, hO1, hb1⟩; obtain ⟨a1, c1, hv1, hA1⟩ := hO1.form kRw_ok.tofit; rw [HmR.out] at hv1 hA1; subst hv1; have HA1 := hid hA1; have HB1 := hid (HBj.out.trans (hb1.mono HBj.out.size)); have HT1 := hid (HTj.out.later hb1); obtain ⟨F2, hF2⟩ := HT1.out.swap.fst; have HS2 := hid hF2.starts; have HF2 := hid (hF2.fetchAll HRw.out); rw [HR.out] at HF2; unfold fetV at HF2; dsimp only at HF2; clear hO1 hA1 hb1 hF2)
        | (go_at_call 18; (with_reducible_and_instances (refine HS2.out.mono ?_)); rintro r w9 ⟨rfl, hw9⟩; obtain rfl := hw9.symm)
        | (go_at_call 14; (with_reducible_and_instances (refine HF2.out.mono ?_)); rintro r W2 ⟨v2, rfl, hO2, hb2⟩; obtain ⟨a2, c2, hv2, hA2⟩ := hO2.form kRw_ok.tofit; rw [HmR.out] at hv2 hA2; subst hv2; have HA2 := hid hA2; have HA12 := hid (HA1.out.later hb2); have HB2 := hid (HB1.out.trans (hb2.mono HB1.out.size)); have HT2 := hid (HT1.out.later hb2); obtain ⟨F3, hF3⟩ := HT2.out.fst; obtain ⟨F4, hF4⟩ := HT2.out.swap.fst; have HE1 := hid hF3.ends; have HE2 := hid hF4.ends; have HS3 := hid hF3.starts; have HS4 := hid hF4.starts; have HX1 := hid hF3.stables; have HX2 := hid hF4.stables; have HR1 := hid (hF3.rows HRw.out); clear hO2 hA2 hb2 hF3 hF4)
        | (go_at_call 10; (with_reducible_and_instances (refine HE1.out.mono ?_)); rintro r w9 ⟨rfl, hw9⟩; obtain rfl := hw9.symm)
        | (go_at_call 10; (with_reducible_and_instances (refine HE2.out.mono ?_)); rintro r w9 ⟨rfl, hw9⟩; obtain rfl := hw9.symm)
        | (go_at_call 18; (with_reducible_and_instances (refine HS3.out.mono ?_)); rintro r w9 ⟨rfl, hw9⟩; obtain rfl := hw9.symm)
        | (go_at_call 18; (with_reducible_and_instances (refine HS4.out.mono ?_)); rintro r w9 ⟨rfl, hw9⟩; obtain rfl := hw9.symm)
        | (go_at_call 15; (with_reducible_and_instances (refine HX1.out.mono ?_)); rintro r w9 ⟨rfl, hw9⟩; obtain rfl := hw9.symm)
        | (go_at_call 15; (with_reducible_and_instances (refine HX2.out.mono ?_)); rintro r w9 ⟨rfl, hw9⟩; obtain rfl := hw9.symm)
        | (go_at_call 19; (with_reducible_and_instances (refine HR1.out.mono ?_)); rintro r W3 ⟨⟨a3, c3, rfl⟩, hb3⟩; have HB3 := hid (HB2.out.trans (hb3.mono HB2.out.size)); have HT3' := hid (HT2.out.later hb3); have HA13 := hid (HA12.out.later hb3); have HA23 := hid (HA2.out.later hb3); obtain ⟨F5, hF5⟩ := HT3'.out.swap.fst; have HR2 := hid (hF5.rows HRw.out); clear hb3 hF5)
        | (go_at_call 19; (with_reducible_and_instances (refine HR2.out.mono ?_)); rintro r W4 ⟨⟨a4, c4, rfl⟩, hb4⟩; have HB4 := hid (HB3.out.trans (hb4.mono HB3.out.size)); have HA14 := hid (HA13.out.later hb4); have HA24 := hid (HA23.out.later hb4); clear hb4))
      go_loopw [21] (fun i wr => ∃ j : Nat, j ≤ mR ∧ i = .int .i64 (j : Int) ∧ Hid (Below w.heap.size w wr) ∧ Hid (ArgK kRw wr R a1 mR c1) ∧ Hid (ArgK kRw wr R a2 mR c2)) (fun i _ => mR - (intOf i).toNat)
      case atStart => exact ⟨0, Nat.zero_le _, rfl, HB4, HA14, HA24⟩
      case round =>
        have hmr : mR ≤ 9223372036854775807 := by have := HA1.out.cap; have := HA1.out.room; unfold maxLen at this; omega
        clear HB1 HB2 HB3 HB4 HA1 HA2 HA12 HA13 HA23 HA14 HA24 HT1 HT2 HT3' HR1 HR2 HX1 HX2 HS1 HS2 HS3 HS4 HE1 HE2 HF1 HF2
        obtain ⟨i, hi, rfl, HBi, HAi, HCi⟩ := hrel
        by_cases hlt : i < mR
        · obtain ⟨b1, o1, rfl, hs1, hc1⟩ := HAi.out.cells (by omega)
          obtain ⟨b2, o2, rfl, hs2, hc2⟩ := HCi.out.cells (by omega)
          have x0 : wr.cell? ⟨b1, o1 + i * 6, none⟩ = some (.int .i64 (R.getD i rw0).off) := hc1 i hlt 0 (by decide)
          have x1 : wr.cell? ⟨b1, o1 + i * 6 + 1, none⟩ = some (.int .i64 (R.getD i rw0).prod) := hc1 i hlt 1 (by decide)
          have x2 : wr.cell? ⟨b1, o1 + i * 6 + 2, none⟩ = some (.bool (R.getD i rw0).tx) := hc1 i hlt 2 (by decide)
          have x3 : wr.cell? ⟨b1, o1 + i * 6 + 3, none⟩ = some (.string (R.getD i rw0).rc.key) := hc1 i hlt 3 (by decide)
          have x4 : wr.cell? ⟨b1, o1 + i * 6 + 4, none⟩ = some (.string (R.getD i rw0).rc.val) := hc1 i hlt 4 (by decide)
          have x5 : wr.cell? ⟨b1, o1 + i * 6 + 5, none⟩ = some (.bool (R.getD i rw0).rc.dead) := hc1 i hlt 5 (by decide)
          have y0 : wr.cell? ⟨b2, o2 + i * 6, none⟩ = some (.int .i64 (R.getD i rw0).off) := hc2 i hlt 0 (by decide)
          have y1 : wr.cell? ⟨b2, o2 + i * 6 + 1, none⟩ = some (.int .i64 (R.getD i rw0).prod) := hc2 i hlt 1 (by decide)
          have y2 : wr.cell? ⟨b2, o2 + i * 6 + 2, none⟩ = some (.bool (R.getD i rw0).tx) := hc2 i hlt 2 (by decide)
          have y3 : wr.cell? ⟨b2, o2 + i * 6 + 3, none⟩ = some (.string (R.getD i rw0).rc.key) := hc2 i hlt 3 (by decide)
          have y4 : wr.cell? ⟨b2, o2 + i * 6 + 4, none⟩ = some (.string (R.getD i rw0).rc.val) := hc2 i hlt 4 (by decide)
          have y5 : wr.cell? ⟨b2, o2 + i * 6 + 5, none⟩ = some (.bool (R.getD i rw0).rc.dead) := hc2 i hlt 5 (by decide)
          clear hc1 hc2
          generalize R.getD i rw0 = y at *
          obtain ⟨ro, rp, rt, ⟨rk, rv, rd⟩⟩ := y
          dsimp only at x0 x1 x2 x3 x4 x5 y0 y1 y2 y3 y4 y5
          have hn := row_same ro rp rt rk rv rd
          have hg := row_guard
          go_wp2
          go_quiet (fail)
          go_wp2
          go_roundw
          case rel => exact ⟨i + 1, by omega, by go_num, below_drewN' HBi.out _, HAi.out.later (below_drewN' (Below.refl _ _) _), HCi.out.later (below_drewN' (Below.refl _ _) _)⟩
          case measure => simp [intOf]; omega
        · obtain rfl : i = mR := by omega
          go_wp2
          go_ret
          exact ⟨rfl, HBi.out⟩
end Go.Proofs.YtfgamkcnnijloaaGreat
