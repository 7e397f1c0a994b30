/- P1306 over plain data: page by page a fetch has what one fetch of all has. The walk of LedgerPages. -/
import Derived.Test.YtfgamkcnnijloaaGreatPZGa
import Derived.Test.YtfgamkcnnijloaaGreatPZRp
namespace Go.Proofs.YtfgamkcnnijloaaGreat
open Go.RowKit

theorem choose_take {α : Type} (p : α → Bool) : ∀ (l : List α) (m : Nat), chooseN p m l = (l.filter p).take m
  | [], m => by cases m <;> rfl
  | r :: l, 0 => by simp [chooseN]
  | r :: l, m + 1 => by
    show (if p r = true then r :: chooseN p m l else chooseN p (m + 1) l) = _
    rw [choose_take p l m, choose_take p l (m + 1), List.filter_cons]
    split <;> rfl
/-- Which rows a fetch tells. -/
def Lg.told (g : Lg) (c : Bool) (r : Rw) : Bool := !c || (decide (r.off < g.stable) && !g.dead r)
/-- All that a fetch can tell, and where it ends. -/
def Lg.all (g : Lg) (c : Bool) : List Rw := g.rows.filter (g.told c)
def Lg.far (g : Lg) (c : Bool) : Int := if c = true then g.stable else g.fin
theorem all_rise {g : Lg} (h : LgOk g) (c : Bool) : (g.all c).Pairwise (fun a b => a.off < b.off) := h.rise.filter _
theorem all_in {g : Lg} (h : LgOk g) (c : Bool) : ∀ r ∈ g.all c, g.start ≤ r.off ∧ r.off < g.far c := fun r hr => by
  obtain ⟨h1, h2⟩ := List.mem_filter.1 hr
  have h3 := h.rows r h1
  refine ⟨h3.1, ?_⟩
  unfold Lg.far
  cases c with
  | false => exact h3.2
  | true =>
    unfold Lg.told at h2
    simp only [Bool.not_true, Bool.false_or, Bool.and_eq_true, decide_eq_true_eq] at h2
    exact h2.1
theorem far_in {g : Lg} (h : LgOk g) (c : Bool) : g.start ≤ g.far c ∧ g.far c ≤ g.fin := by
  obtain ⟨h1, h2, -⟩ := stable_first h
  have h3 := h.start
  unfold Lg.far
  cases c with
  | false => exact ⟨h3.2, Int.le_refl _⟩
  | true => exact ⟨h1, h2⟩
/-- The rows from a place on. -/
def fromN (a : Int) (l : List Rw) : List Rw := l.filter (fun r => decide (a ≤ r.off))
def uptoN (a : Int) (l : List Rw) : List Rw := l.filter (fun r => decide (r.off < a))
theorem cut_rise : ∀ (l : List Rw) (a : Int), l.Pairwise (fun x y => x.off < y.off) → uptoN a l ++ fromN a l = l
  | [], a, _ => rfl
  | r :: l, a, h => by
    obtain ⟨h1, h2⟩ := List.pairwise_cons.1 h
    have ih := cut_rise l a h2
    by_cases hr : r.off < a
    · have e1 : uptoN a (r :: l) = r :: uptoN a l := by unfold uptoN; rw [List.filter_cons, if_pos (by simpa using hr)]
      have e2 : fromN a (r :: l) = fromN a l := by unfold fromN; rw [List.filter_cons, if_neg (by simp; omega)]
      rw [e1, e2, List.cons_append, ih]
    · have e1 : uptoN a l = [] := by
        unfold uptoN
        rw [List.filter_eq_nil_iff]
        intro x hx
        have := h1 x hx
        simp
        omega
      have e2 : uptoN a (r :: l) = [] := by unfold uptoN at e1 ⊢; rw [List.filter_cons, if_neg (by simp; omega), e1]
      have e3 : fromN a (r :: l) = r :: fromN a l := by unfold fromN; rw [List.filter_cons, if_pos (by simp; omega)]
      rw [e1, List.nil_append] at ih
      rw [e2, e3, List.nil_append, ih]
theorem fet_any {g : Lg} (h : LgOk g) (a : Int) (m : Nat) (c : Bool) (h0 : g.start ≤ a) (h1 : a ≤ g.fin) (hm : 0 < m) :
    fetG g a (m : Int) c = if ((fromN a (g.all c)).take m).length = m then ((fromN a (g.all c)).take m, ((((fromN a (g.all c)).take m).getLast?.map (·.off)).getD 0) + 1, 0) else ((fromN a (g.all c)).take m, if a < g.far c then g.far c else a, 0) := by
  have hs := h.start.1
  have e : chooseN (fun r => !c || (decide (r.off < g.stable) && !g.dead r)) m (g.rows.filter (fun r => decide (a ≤ r.off))) = (fromN a (g.all c)).take m := by
    rw [choose_take]
    unfold fromN Lg.all
    rw [List.filter_filter, List.filter_filter]
    congr 2
    funext r
    rw [Bool.and_comm]
    rfl
  unfold fetG
  rw [if_neg (by omega), if_neg (by omega), if_neg (by omega), if_neg (by omega)]
  dsimp only
  rw [Int.toNat_natCast, e]
  rfl
/-- One fetch of all. -/
theorem fet_all {g : Lg} (h : LgOk g) (c : Bool) (hl : g.rows.length < 1073741824) : fetG g g.start 1073741824 c = (g.all c, g.far c, 0) := by
  have hs := h.start
  have hf := far_in h c
  have e1 : fromN g.start (g.all c) = g.all c := by
    unfold fromN
    rw [List.filter_eq_self]
    intro r hr
    have := (all_in h c r hr).1
    simpa using this
  have e2 : (g.all c).length ≤ g.rows.length := List.length_filter_le _ _
  have hq := fet_any h g.start 1073741824 c (Int.le_refl _) hs.2 (by omega)
  rw [show (((1073741824 : Nat) : Nat) : Int) = 1073741824 from rfl] at hq
  rw [hq, e1, List.take_of_length_le (by omega), if_neg (by omega)]
  by_cases he : g.start < g.far c
  · rw [if_pos he]
  · rw [if_neg he, show g.far c = g.start by omega]
theorem last_rise : ∀ (l : List Rw) (x : Rw), l.Pairwise (fun a b => a.off < b.off) → l.getLast? = some x → ∀ r ∈ l, r.off ≤ x.off
  | [], x, _, h, _, _ => by cases h
  | y :: l, x, hp, h, r, hr => by
    obtain ⟨h1, h2⟩ := List.pairwise_cons.1 hp
    cases l with
    | nil =>
      simp at h hr
      subst h hr
      exact Int.le_refl _
    | cons z l =>
      have h3 : (z :: l).getLast? = some x := by simpa [List.getLast?_cons_cons] using h
      have ih := last_rise (z :: l) x h2 h3
      rcases List.mem_cons.1 hr with rfl | hr
      · have := h1 x (List.mem_of_getLast? h3)
        omega
      · exact ih r hr
/-- A page: what it has follows on what was had, and its end is further on. -/
theorem page {g : Lg} (h : LgOk g) (a : Int) (m : Nat) (c : Bool) (h0 : g.start ≤ a) (h1 : a < g.far c) (hm : 0 < m) :
    ∃ r nx, fetG g a (m : Int) c = (r, nx, 0) ∧ r.length ≤ m ∧ uptoN nx (g.all c) = uptoN a (g.all c) ++ r ∧ a < nx ∧ nx ≤ g.far c ∧ (nx = g.far c ∨ 1 ≤ r.length) := by
  have hf := far_in h c
  have hr := all_rise h c
  have hcut := cut_rise (g.all c) a hr
  obtain ⟨B, hB⟩ : ∃ B, fromN a (g.all c) = B := ⟨_, rfl⟩
  have hBm : ∀ r ∈ B, a ≤ r.off ∧ r.off < g.far c := fun r hr => by
    rw [← hB] at hr
    obtain ⟨k1, k2⟩ := List.mem_filter.1 hr
    exact ⟨by simpa using k2, (all_in h c r k1).2⟩
  have hBr : B.Pairwise (fun x y => x.off < y.off) := by rw [← hB]; exact hr.filter _
  have hup : ∀ nx, a ≤ nx → uptoN nx (g.all c) = uptoN a (g.all c) ++ uptoN nx B := fun nx hn => by
    have e0 : uptoN nx (g.all c) = uptoN nx (uptoN a (g.all c) ++ fromN a (g.all c)) := congrArg (uptoN nx) hcut.symm
    have e1 : uptoN nx (uptoN a (g.all c) ++ fromN a (g.all c)) = uptoN nx (uptoN a (g.all c)) ++ uptoN nx (fromN a (g.all c)) := List.filter_append ..
    have e2 : uptoN nx (uptoN a (g.all c)) = uptoN a (g.all c) := by
      refine List.filter_eq_self.2 (fun r hr2 => ?_)
      have := (List.mem_filter.1 hr2).2
      simp at this ⊢
      omega
    rw [e0, e1, e2, hB]
  rw [hB] at hcut
  rw [fet_any h a m c h0 (by omega) hm, hB]
  by_cases hfull : (B.take m).length = m
  · rw [if_pos hfull]
    have hne : B.take m ≠ [] := by intro e; rw [e] at hfull; simp at hfull; omega
    obtain ⟨x, hx⟩ : ∃ x, (B.take m).getLast? = some x := by
      cases hq : (B.take m).getLast? with
      | none => exact absurd (List.getLast?_eq_none_iff.1 hq) hne
      | some x => exact ⟨x, rfl⟩
    have hxm := List.mem_of_getLast? hx
    have hxB := hBm x (List.mem_of_mem_take hxm)
    refine ⟨_, _, rfl, by omega, ?_, ?_, ?_, Or.inr (by omega)⟩
    · rw [hx]
      show uptoN (x.off + 1) (g.all c) = _
      rw [hup _ (by omega)]
      congr 1
      have hd : B.take m ++ B.drop m = B := List.take_append_drop m B
      have hdr : ∀ r ∈ B.drop m, x.off < r.off := fun r hr2 => by
        have hp := hBr
        rw [← hd] at hp
        exact (List.pairwise_append.1 hp).2.2 x hxm r hr2
      have htk : ∀ r ∈ B.take m, r.off ≤ x.off := last_rise _ x (hBr.sublist (List.take_sublist _ _)) hx
      conv => lhs; rw [← hd]
      unfold uptoN
      rw [List.filter_append, List.filter_eq_self.2 (fun r hr2 => by have := htk r hr2; simp; omega), List.filter_eq_nil_iff.2 (fun r hr2 => by have := hdr r hr2; simp; omega), List.append_nil]
    · rw [hx]; show a < x.off + 1; omega
    · rw [hx]; show x.off + 1 ≤ g.far c; omega
  · rw [if_neg hfull, if_pos h1]
    have hlt : B.length < m := by
      rw [List.length_take] at hfull
      omega
    rw [List.take_of_length_le (by omega)]
    refine ⟨B, g.far c, rfl, by omega, ?_, h1, Int.le_refl _, Or.inl rfl⟩
    rw [hup _ (by omega)]
    congr 1
    unfold uptoN
    rw [List.filter_eq_self]
    intro r hr2
    have := (hBm r hr2).2
    simpa using this
end Go.Proofs.YtfgamkcnnijloaaGreat
namespace Go.Proofs.YtfgamkcnnijloaaGreat
open Go.RowKit Go.Shelf
variable {w W : World} {ad : Option Addr} {len cap : Nat} {f : Nat → EnL} {B L n : Nat} {g : Lg}

theorem LOf.fetchC (h : LOf B W L n g) (hrb : g.rows.length * 64 ≤ 140737488355328) (c : Bool) (a : Int) (mo : Nat) (hAs : g.start ≤ a) (hAf : a ≤ g.fin) (hM0 : 0 < mo) (hmo : mo ≤ 9223372036854775807) : Calls Tryz.prog 14 #[.pointer (some ⟨L, 0, none⟩), .int .i64 a, .int .i64 (mo : Int), .bool c] W fun x w' => ∃ v, x = .returned (fetV v (fetG g a (mo : Int) c)) ∧ OwnK kRw w' W.heap.size v (fetG g a (mo : Int) c).1 ∧ Below W.heap.size W w' := by
  have h0 := h.ok.start.1
  obtain ⟨t, M, vr, vo, va, n', k0, h1, h2, h3⟩ := h.ex
  cases c with
  | true => exact Fetch_true h1 hrb a mo (by omega) hAs _ _ rfl rfl hAf hM0 hmo
  | false => exact Fetch_false h1 hrb a mo (by omega) hAs _ _ rfl rfl hAf hM0 hmo
theorem rem7 (x : Int) : ∃ mo : Nat, 1 ≤ mo ∧ mo ≤ 7 ∧ 1 + Int.tmod (Int.tmod x 7 + 7) 7 = (mo : Int) ∧ -7 < Int.tmod x 7 ∧ Int.tmod x 7 < 7 ∧ -7 < Int.tmod (Int.tmod x 7 + 7) 7 ∧ Int.tmod (Int.tmod x 7 + 7) 7 < 7 := by
  have h1 := Int.tmod_lt_of_pos x (show (0 : Int) < 7 by omega)
  have h2 := Int.lt_tmod_of_pos x (show (0 : Int) < 7 by omega)
  have h3 := Int.tmod_lt_of_pos (Int.tmod x 7 + 7) (show (0 : Int) < 7 by omega)
  have h4 := Int.tmod_nonneg (a := Int.tmod x 7 + 7) 7 (by omega)
  obtain ⟨m, hm⟩ := Int.eq_ofNat_of_zero_le h4
  exact ⟨m + 1, by omega, by omega, by omega, by omega, by omega, by omega, by omega⟩
set_option maxRecDepth 100000 in
set_option maxHeartbeats 16000000 in
theorem pagesL_walk (mst : Int) (cm : Bool) (ho : EntsL w f ad len) (hm : len ≤ 1048576) :
    Calls Tryz.prog 5 #[.slice ad len cap, .int .i64 mst, .bool cm] w fun r w' => r = .returned (.bool true) ∧ Below w.heap.size w w' := by
  have HE := hid ho
  have HN := hid (LOf.new w)
  clear ho
  go_enter Tryz.func5, Tryz.ntmps5
  go_wp2_with (first
    | (go_at_call 7; (with_reducible_and_instances (refine HN.out.mono ?_)); rintro r w1 ⟨L, rfl, hL, hb1⟩; have HL := hid hL; have HB1 := hid hb1; have HK := hid (knows13 w1); clear hL hb1)
    | (go_at_call 8; (with_reducible_and_instances (refine HK.out.mono ?_)); rintro r w2 ⟨rfl, hb2⟩; have HL2 := hid (HL.out.later hb2); have HB2 := hid (HB1.out.trans (hb2.mono HB1.out.size)); clear hb2))
  go_loopw [8] (fun i wr => ∃ j : Nat, j ≤ len ∧ i = .int .i64 (j : Int) ∧ Hid (LOf w.heap.size wr L j (ledN f j)) ∧ Hid (Below w.heap.size w wr)) (fun i _ => len - (intOf i).toNat)
  case atStart => exact ⟨0, Nat.zero_le _, rfl, HL2, HB2⟩
  case round =>
    clear HL HL2 HB1 HB2 HK HN
    obtain ⟨j, hj, rfl, HLj, HBj⟩ := hrel
    by_cases hlt : j < len
    · have hne : len ≠ 0 := by omega
      rcases HE.out with h | ⟨b, off, rfl, hb, hc⟩
      · exact absurd h hne
      obtain ⟨hcs, hok⟩ := hc j hlt
      have HOk := hid (hok.later HBj.out)
      have HCc : Hid (∀ W, Below w.heap.size w W → ∀ i, i < 8 → W.cell? ⟨b, off + j * 8 + i, none⟩ = (enA (f j))[i]?) := hid (fun W hW i hi => (hW.cell (p := ⟨b, off + j * 8 + i, none⟩) hb).trans (hcs i hi))
      have HF := hid (ledN_few f j)
      have HNx : Hid (ledN f (j + 1) = appG (ledN f j) (f j).et) := rfl
      obtain ⟨G, hG⟩ : ∃ G, appG (ledN f j) (f j).et = G := ⟨_, rfl⟩
      rw [hG] at HNx
      have HGe := hid hG
      clear hG hcs hok hc
      generalize hgj : ledN f j = g at *
      have hjl : j ≤ 1048576 := by omega
      generalize f j = o at *
      obtain ⟨kd, nn, k, p, e, q, tx, rs, ar, lr, cr⟩ := o
      have r0 := HCc.out wr HBj.out 0 (by omega)
      have r1 := HCc.out wr HBj.out 1 (by omega)
      have r2 := HCc.out wr HBj.out 2 (by omega)
      have r3 := HCc.out wr HBj.out 3 (by omega)
      have r4 := HCc.out wr HBj.out 4 (by omega)
      have r5 := HCc.out wr HBj.out 5 (by omega)
      have r6 := HCc.out wr HBj.out 6 (by omega)
      have r7 := HCc.out wr HBj.out 7 (by omega)
      simp only [enA, List.getElem?_toArray, List.getElem?_cons_zero, List.getElem?_cons_succ, Nat.add_zero] at r0 r1 r2 r3 r4 r5 r6 r7
      have HOw := hid (own13_any kd nn k p e q tx rs ar lr cr wr HOk.out.arg (by have := HOk.out.size; dsimp only at this; omega))
      go_wp2_with (first
        | (go_at_call 9; (with_reducible_and_instances (refine HOw.out.mono ?_)); rintro r W3 ⟨ad3, c3, rfl, hA3, hT3, hb3⟩; have HB3 := hid (HBj.out.trans (hb3.mono HBj.out.size)); have HAp := hid ((HLj.out.later hb3).applyA HF.out hjl kd nn k p e q tx rs ad3 lr c3 hA3 hT3 G HGe.out.symm); clear hA3 hT3 hb3)
        | (go_at_call 12; (with_reducible_and_instances (refine HAp.out.mono ?_)); rintro r W4 ⟨rfl, hL4, hb4⟩; have HL4 := hid hL4; have HB4 := hid (HB3.out.trans hb4); clear hL4 hb4))
      refine ⟨⟨j + 1, by omega, by go_num, (by rw [HNx.out]; exact HL4.out), HB4.out⟩, by simp [intOf]; omega⟩
    · obtain rfl : j = len := by omega
      have hfw := ledN_few f j
      have hrw := hfw.rows
      generalize ledN f j = g at *
      have hok := HLj.out.ok
      obtain ⟨mo, hm1, hm7, hmo, t1, t2, t3, t4⟩ := rem7 mst
      have q1 : IntKind.i64.wrap (Int.tmod mst 7 + 7) = Int.tmod mst 7 + 7 := by rw [IntKind.wrap_i64]; omega
      have q2 : IntKind.i64.wrap (1 + Int.tmod (Int.tmod mst 7 + 7) 7) = (mo : Int) := by rw [hmo, IntKind.wrap_i64]; omega
      have HRw : Hid (g.rows.length * 64 ≤ 140737488355328 ∧ g.rows.length < 1073741824) := hid (by omega)
      have HOk := hid hok
      have HFar := hid (far_in hok cm)
      have HS0 := hid HLj.out.start
      have hfa := fet_all hok cm HRw.out.2
      have hF0 := HLj.out.fetchC HRw.out.1 cm g.start 1073741824 (Int.le_refl _) hok.start.2 (by omega) (by omega)
      rw [show ((1073741824 : Nat) : Int) = 1073741824 from rfl, hfa] at hF0
      unfold fetV at hF0
      dsimp only at hF0
      have HF0 := hid hF0
      obtain ⟨mA, hmA⟩ : ∃ mA, (g.all cm).length = mA := ⟨_, rfl⟩
      have HmA := hid hmA
      have hmAl : mA ≤ 1073741824 := by have h1 : (g.all cm).length ≤ g.rows.length := List.length_filter_le _ _; have := HRw.out.2; omega
      have HFull : Hid (uptoN (g.far cm) (g.all cm) = g.all cm) := hid (List.filter_eq_self.2 (fun r hr => by have := (all_in hok cm r hr).2; simpa using this))
      have HZero : Hid (uptoN g.start (g.all cm) = []) := hid (List.filter_eq_nil_iff.2 (fun r hr => by have := (all_in hok cm r hr).1; simp; omega))
      have HPg := hid (fun (x : Int) (h0 : g.start ≤ x) (h1 : x < g.far cm) => page hok x mo cm h0 h1 (by omega))
      have HUl : Hid (∀ x, (uptoN x (g.all cm)).length ≤ mA) := hid (fun x => by rw [← hmA]; exact List.length_filter_le _ _)
      clear hfw hrw hok hF0 hfa hmA hmo t1 t2 t3 t4
      go_wp2_with (first
        | (go_at_call 18; (with_reducible_and_instances (refine HS0.out.mono ?_)); rintro r w9 ⟨rfl, hw9⟩; obtain rfl := hw9.symm)
        | (go_at_call 14; (with_reducible_and_instances (refine HF0.out.mono ?_)); rintro r W1 ⟨v1, rfl, hO1, hb1⟩; obtain ⟨a1, c1, hv1, hA1⟩ := hO1.form kRw_ok.tofit; rw [HmA.out] at hv1 hA1; subst hv1; have HA1 := hid hA1; have HB1 := hid (HBj.out.trans (hb1.mono HBj.out.size)); have HL1 := hid (HLj.out.later hb1); have HS1 := hid HL1.out.start; clear hO1 hA1 hb1)
        | (go_at_call 18; (with_reducible_and_instances (refine HS1.out.mono ?_)); rintro r w9 ⟨rfl, hw9⟩; obtain rfl := hw9.symm))
      generalize hE : g.far cm = E at *
      generalize hA : g.all cm = A at *
      go_loopw [12, 13, 14] (fun v a i wr => ∃ (n k : Nat) (x : Int), i = .int .i64 (n : Int) ∧ a = .int .i64 x ∧ (∃ av cv, v = .slice av k cv) ∧ g.start ≤ x ∧ x ≤ E ∧ n ≤ mA + 2 ∧ (x = E ∨ n ≤ k) ∧ Hid ((uptoN x A).length = k) ∧ Hid (OwnK kRw wr W1.heap.size v (uptoN x A)) ∧ Hid (Below W1.heap.size W1 wr)) (fun _ _ i _ => mA + 2 - (intOf i).toNat)
      case atStart => exact ⟨0, 0, g.start, rfl, rfl, ⟨none, 0, rfl⟩, Int.le_refl _, HFar.out.1, by omega, Or.inr (by omega), hid (by rw [HZero.out]; rfl), hid (by rw [HZero.out]; exact OwnK.nil _ _), hid (Below.refl _ _)⟩
      case round =>
        obtain ⟨n, k, x, rfl, rfl, ⟨av, cv, rfl⟩, hx0, hxE, hn, hpr, HK, HO, HB⟩ := hrel
        have hkA : k ≤ mA := by have := HUl.out x; rw [HK.out] at this; exact this
        have w1' : IntKind.i64.wrap ((mA : Int) + 1) = (mA : Int) + 1 := by rw [IntKind.wrap_i64]; omega
        by_cases hcnd : x < E
        · have hnk : n ≤ k := by rcases hpr with h | h; omega; exact h
          have g1 : decide ((n : Int) ≤ (mA : Int) + 1) = true := decide_eq_true (by omega)
          have g2 : decide (x < E) = true := decide_eq_true hcnd
          obtain ⟨r, nx, hfet, hrl, hup, hlt2, hnE, hpr2⟩ := HPg.out x hx0 hcnd
          have hLr := HL1.out.later HB.out
          have hFt := hLr.fetchC HRw.out.1 cm x mo hx0 (by have := HFar.out.2; omega) (by omega) (by omega)
          rw [hfet] at hFt
          unfold fetV at hFt
          dsimp only at hFt
          have HFt := hid hFt
          have HUp := hid hup
          obtain ⟨mr, hmr⟩ : ∃ mr, r.length = mr := ⟨_, rfl⟩
          rw [hmr] at hrl hpr2
          have Hmr := hid hmr
          have g3 : decide (nx < x) = false := decide_eq_false (by omega)
          have g4 : decide ((mo : Int) < (mr : Int)) = false := decide_eq_false (by omega)
          have g5 : (nx == x) = false := by simp; omega
          have HKn : Hid ((uptoN nx A).length = k + mr) := hid (by rw [hup, List.length_append, HK.out, hmr])
          have hkn : k + mr ≤ mA := by have := HUl.out nx; rw [HKn.out] at this; exact this
          have hs1 := HB.out.size
          clear hfet hup hLr hFt hmr
          go_wp2_with (first
            | (go_at_call 14; (with_reducible_and_instances (refine HFt.out.mono ?_)); rintro r2 W5 ⟨v5, rfl, hO5, hb5⟩; obtain ⟨a5, c5, hv5, hA5⟩ := hO5.form kRw_ok.tofit; rw [Hmr.out] at hv5 hA5; subst hv5; have HA5 := hid hA5; have HB5 := hid (HB.out.trans (hb5.mono HB.out.size)); have HO5 := hid (HO.out.later hb5); have hs5 := HB5.out.size; clear hO5 hA5 hb5)
            | (go_at_call 13; (with_reducible_and_instances (refine (num13_any _ _).mono ?_)); rintro r w99 ⟨rfl, hw99⟩; obtain rfl := hw99.symm)
            | (at_builtin; refine app_kd kRw_ok rfl (.tmp 105) (.tmp 106) rfl W1.heap.size (.slice av k cv) (uptoN x A) rfl HO5.out a5 mr c5 r rfl Hmr.out HA5.out.nil HA5.out.row (by rw [HK.out]; unfold maxLen; omega) (by rw [HK.out]; show (k + mr) * 64 ≤ _; omega) hs5 ?_; intro v6 w6 hO6 hg6; rw [← HUp.out] at hO6; obtain ⟨a6, c6, hv6⟩ := slice_own hO6; rw [HKn.out] at hv6; subst hv6; have HO6 := hid hO6; have HB6 := hid (HB5.out.grown hg6 hs5 (fun b hb => (HO5.out.block b hb).1)); clear hO6 hg6))
          refine ⟨⟨n + 1, k + mr, nx, by go_num, rfl, ⟨a6, c6, rfl⟩, by omega, hnE, by omega, ?_, HKn, HO6, HB6⟩, by simp [intOf]; omega⟩
          rcases hpr2 with h | h
          · exact Or.inl h
          · exact Or.inr (by omega)
        · have hxe : x = E := by omega
          subst hxe
          have g2 : decide (x < x) = false := decide_eq_false (by omega)
          have hke : k = mA := by rw [← HK.out, HFull.out]; exact HmA.out
          subst hke
          have hxx : (x != x) = false := by simp
          have hkk : ((k : Int) != (k : Int)) = false := by simp
          have HOA : Hid (OwnK kRw wr W1.heap.size (.slice av k cv) A) := hid (by have h := HO.out; rw [HFull.out] at h; exact h)
          obtain ⟨av', cv', hv', hAr⟩ := HOA.out.form kRw_ok.tofit
          rw [HmA.out] at hv' hAr
          cases hv'
          have HAr := hid hAr
          have HA1r := hid (HA1.out.later HB.out)
          have HBr := hid (HB1.out.trans (HB.out.mono HB1.out.size))
          clear hAr
          by_cases hnn : (n : Int) ≤ (k : Int) + 1
          · have g1 : decide ((n : Int) ≤ (k : Int) + 1) = true := decide_eq_true hnn
            go_wp2_with (go_at_call 13; (with_reducible_and_instances (refine (num13_any _ _).mono ?_)); rintro r w99 ⟨rfl, hw99⟩; obtain rfl := hw99.symm)
            go_loopw [18] (fun i wr => ∃ j : Nat, j ≤ k ∧ i = .int .i64 (j : Int) ∧ Hid (Below w.heap.size w wr) ∧ Hid (ArgK kRw wr A av k cv) ∧ Hid (ArgK kRw wr A a1 k c1)) (fun i _ => k - (intOf i).toNat)
            case atStart => exact ⟨0, Nat.zero_le _, rfl, HBr, HAr, HA1r⟩
            case round =>
              clear HBr HAr HA1r HOA HO HB HA1 HB1 HL1 HS1
              obtain ⟨i, hi, rfl, HBi, HAi, HCi⟩ := hrel
              by_cases hlt : i < k
              · obtain ⟨b1, o1, rfl, hs1, hc1⟩ := HAi.out.cells (by omega)
                obtain ⟨b2, o2, rfl, hs2, hc2⟩ := HCi.out.cells (by omega)
                have x0 : wr.cell? ⟨b1, o1 + i * 6, none⟩ = some (.int .i64 (A.getD i rw0).off) := hc1 i hlt 0 (by decide)
                have x1 : wr.cell? ⟨b1, o1 + i * 6 + 1, none⟩ = some (.int .i64 (A.getD i rw0).prod) := hc1 i hlt 1 (by decide)
                have x2 : wr.cell? ⟨b1, o1 + i * 6 + 2, none⟩ = some (.bool (A.getD i rw0).tx) := hc1 i hlt 2 (by decide)
                have x3 : wr.cell? ⟨b1, o1 + i * 6 + 3, none⟩ = some (.string (A.getD i rw0).rc.key) := hc1 i hlt 3 (by decide)
                have x4 : wr.cell? ⟨b1, o1 + i * 6 + 4, none⟩ = some (.string (A.getD i rw0).rc.val) := hc1 i hlt 4 (by decide)
                have x5 : wr.cell? ⟨b1, o1 + i * 6 + 5, none⟩ = some (.bool (A.getD i rw0).rc.dead) := hc1 i hlt 5 (by decide)
                have y0 : wr.cell? ⟨b2, o2 + i * 6, none⟩ = some (.int .i64 (A.getD i rw0).off) := hc2 i hlt 0 (by decide)
                have y1 : wr.cell? ⟨b2, o2 + i * 6 + 1, none⟩ = some (.int .i64 (A.getD i rw0).prod) := hc2 i hlt 1 (by decide)
                have y2 : wr.cell? ⟨b2, o2 + i * 6 + 2, none⟩ = some (.bool (A.getD i rw0).tx) := hc2 i hlt 2 (by decide)
                have y3 : wr.cell? ⟨b2, o2 + i * 6 + 3, none⟩ = some (.string (A.getD i rw0).rc.key) := hc2 i hlt 3 (by decide)
                have y4 : wr.cell? ⟨b2, o2 + i * 6 + 4, none⟩ = some (.string (A.getD i rw0).rc.val) := hc2 i hlt 4 (by decide)
                have y5 : wr.cell? ⟨b2, o2 + i * 6 + 5, none⟩ = some (.bool (A.getD i rw0).rc.dead) := hc2 i hlt 5 (by decide)
                clear hc1 hc2
                generalize A.getD i rw0 = y at *
                obtain ⟨ro, rp, rt, ⟨rk, rv, rd⟩⟩ := y
                dsimp only at x0 x1 x2 x3 x4 x5 y0 y1 y2 y3 y4 y5
                have hn := row_same ro rp rt rk rv rd
                have hg := row_guard
                go_wp2
                go_quiet (fail)
                go_wp2
                go_roundw
                case rel => exact ⟨i + 1, by omega, by go_num, below_drewN' HBi.out _, HAi.out.later (below_drewN' (Below.refl _ _) _), HCi.out.later (below_drewN' (Below.refl _ _) _)⟩
                case measure => simp [intOf]; omega
              · obtain rfl : i = k := by omega
                go_wp2
                go_ret
                exact ⟨rfl, HBi.out⟩
          · have g1 : decide ((n : Int) ≤ (k : Int) + 1) = false := decide_eq_false hnn
            go_wp2_with (go_at_call 13; (with_reducible_and_instances (refine (num13_any _ _).mono ?_)); rintro r w99 ⟨rfl, hw99⟩; obtain rfl := hw99.symm)
            go_loopw [18] (fun i wr => ∃ j : Nat, j ≤ k ∧ i = .int .i64 (j : Int) ∧ Hid (Below w.heap.size w wr) ∧ Hid (ArgK kRw wr A av k cv) ∧ Hid (ArgK kRw wr A a1 k c1)) (fun i _ => k - (intOf i).toNat)
            case atStart => exact ⟨0, Nat.zero_le _, rfl, HBr, HAr, HA1r⟩
            case round =>
              clear HBr HAr HA1r HOA HO HB HA1 HB1 HL1 HS1
              obtain ⟨i, hi, rfl, HBi, HAi, HCi⟩ := hrel
              by_cases hlt : i < k
              · obtain ⟨b1, o1, rfl, hs1, hc1⟩ := HAi.out.cells (by omega)
                obtain ⟨b2, o2, rfl, hs2, hc2⟩ := HCi.out.cells (by omega)
                have x0 : wr.cell? ⟨b1, o1 + i * 6, none⟩ = some (.int .i64 (A.getD i rw0).off) := hc1 i hlt 0 (by decide)
                have x1 : wr.cell? ⟨b1, o1 + i * 6 + 1, none⟩ = some (.int .i64 (A.getD i rw0).prod) := hc1 i hlt 1 (by decide)
                have x2 : wr.cell? ⟨b1, o1 + i * 6 + 2, none⟩ = some (.bool (A.getD i rw0).tx) := hc1 i hlt 2 (by decide)
                have x3 : wr.cell? ⟨b1, o1 + i * 6 + 3, none⟩ = some (.string (A.getD i rw0).rc.key) := hc1 i hlt 3 (by decide)
                have x4 : wr.cell? ⟨b1, o1 + i * 6 + 4, none⟩ = some (.string (A.getD i rw0).rc.val) := hc1 i hlt 4 (by decide)
                have x5 : wr.cell? ⟨b1, o1 + i * 6 + 5, none⟩ = some (.bool (A.getD i rw0).rc.dead) := hc1 i hlt 5 (by decide)
                have y0 : wr.cell? ⟨b2, o2 + i * 6, none⟩ = some (.int .i64 (A.getD i rw0).off) := hc2 i hlt 0 (by decide)
                have y1 : wr.cell? ⟨b2, o2 + i * 6 + 1, none⟩ = some (.int .i64 (A.getD i rw0).prod) := hc2 i hlt 1 (by decide)
                have y2 : wr.cell? ⟨b2, o2 + i * 6 + 2, none⟩ = some (.bool (A.getD i rw0).tx) := hc2 i hlt 2 (by decide)
                have y3 : wr.cell? ⟨b2, o2 + i * 6 + 3, none⟩ = some (.string (A.getD i rw0).rc.key) := hc2 i hlt 3 (by decide)
                have y4 : wr.cell? ⟨b2, o2 + i * 6 + 4, none⟩ = some (.string (A.getD i rw0).rc.val) := hc2 i hlt 4 (by decide)
                have y5 : wr.cell? ⟨b2, o2 + i * 6 + 5, none⟩ = some (.bool (A.getD i rw0).rc.dead) := hc2 i hlt 5 (by decide)
                clear hc1 hc2
                generalize A.getD i rw0 = y at *
                obtain ⟨ro, rp, rt, ⟨rk, rv, rd⟩⟩ := y
                dsimp only at x0 x1 x2 x3 x4 x5 y0 y1 y2 y3 y4 y5
                have hn := row_same ro rp rt rk rv rd
                have hg := row_guard
                go_wp2
                go_quiet (fail)
                go_wp2
                go_roundw
                case rel => exact ⟨i + 1, by omega, by go_num, below_drewN' HBi.out _, HAi.out.later (below_drewN' (Below.refl _ _) _), HCi.out.later (below_drewN' (Below.refl _ _) _)⟩
                case measure => simp [intOf]; omega
              · obtain rfl : i = k := by omega
                go_wp2
                go_ret
                exact ⟨rfl, HBi.out⟩
end Go.Proofs.YtfgamkcnnijloaaGreat
