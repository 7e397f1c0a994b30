/- What the Go function batch.read answers. -/
import Derived.Test.YtfgamkcnnijloaaGreatPZRd
import Derived.Laws.ResultCell
namespace Go.Proofs.YtfgamkcnnijloaaGreat
open Go.RowKit

theorem flag_two : ∀ n, n < 256 → (bits .and .i64 (n : Nat) 2 != 0) = (n / 2 % 2 == 1) := by decide +kernel
theorem flag_one : ∀ n, n < 256 → (bits .and .i64 (n : Nat) 1 == 0) = (n % 2 == 0) := by decide +kernel
/-- The parts, as an array of methods of the reader. -/
def parts (R : Nat) : Array Value := #[.func (.func 93) #[.pointer (some ⟨R, 0, none⟩)] #[], .func (.func 94) #[.pointer (some ⟨R, 0, none⟩)] #[], .func (.func 95) #[.pointer (some ⟨R, 0, none⟩)] #[], .func (.func 96) #[.pointer (some ⟨R, 0, none⟩)] #[], .func (.func 97) #[.pointer (some ⟨R, 0, none⟩)] #[], .func (.func 98) #[.pointer (some ⟨R, 0, none⟩)] #[]]
theorem parts_at0 (R : Nat) (w : World) : (Instr.index 163 (.agg (parts R)) (.int .i64 0)).run Tryz.prog w = .ok (.func (.func 93) #[.pointer (some ⟨R, 0, none⟩)] #[]) w := by kernel_rfl
theorem parts_at1 (R : Nat) (w : World) : (Instr.index 163 (.agg (parts R)) (.int .i64 1)).run Tryz.prog w = .ok (.func (.func 94) #[.pointer (some ⟨R, 0, none⟩)] #[]) w := by kernel_rfl
theorem parts_at2 (R : Nat) (w : World) : (Instr.index 163 (.agg (parts R)) (.int .i64 2)).run Tryz.prog w = .ok (.func (.func 95) #[.pointer (some ⟨R, 0, none⟩)] #[]) w := by kernel_rfl
theorem parts_at3 (R : Nat) (w : World) : (Instr.index 163 (.agg (parts R)) (.int .i64 3)).run Tryz.prog w = .ok (.func (.func 96) #[.pointer (some ⟨R, 0, none⟩)] #[]) w := by kernel_rfl
theorem parts_at4 (R : Nat) (w : World) : (Instr.index 163 (.agg (parts R)) (.int .i64 4)).run Tryz.prog w = .ok (.func (.func 97) #[.pointer (some ⟨R, 0, none⟩)] #[]) w := by kernel_rfl
theorem parts_at5 (R : Nat) (w : World) : (Instr.index 163 (.agg (parts R)) (.int .i64 5)).run Tryz.prog w = .ok (.func (.func 98) #[.pointer (some ⟨R, 0, none⟩)] #[]) w := by kernel_rfl
def flK (l : List Nat) : Bool := bits .and .i64 (l.getD 1 0 : Nat) 2 != 0
def prK (l : List Nat) : Int := if bits .and .i64 (l.getD 1 0 : Nat) 1 == 0 then -1 else ((valN ((l.drop 2).take 6) : Nat) : Int)
/-- What the reader is ahead of the part number j. -/
def RInv (P : Part) (R N : Nat) (wr : World) (j : Nat) : Prop :=
  match j with
  | 0 => Blk wr R (rdV P 0 0 0 0 0 0 false (.slice none 0 0)) 161
  | 1 => 1 ≤ P.len ∧ Blk wr R (rdV P ((1 : Nat) : Int) 0 (P.l.getD 0 0 : Nat) 0 0 0 false (.slice none 0 0)) 161
  | 2 => 2 ≤ P.len ∧ Blk wr R (rdV P ((2 : Nat) : Int) (P.l.getD 1 0 : Nat) (P.l.getD 0 0 : Nat) 0 0 0 (flK P.l) (.slice none 0 0)) 161
  | 3 => 8 ≤ P.len ∧ Blk wr R (rdV P ((8 : Nat) : Int) (P.l.getD 1 0 : Nat) (P.l.getD 0 0 : Nat) (prK P.l) 0 0 (flK P.l) (.slice none 0 0)) 161
  | 4 => 12 ≤ P.len ∧ Blk wr R (rdV P ((12 : Nat) : Int) (P.l.getD 1 0 : Nat) (P.l.getD 0 0 : Nat) (prK P.l) (valN ((P.l.drop 8).take 4) : Nat) 0 (flK P.l) (.slice none 0 0)) 161
  | 5 => 16 ≤ P.len ∧ Blk wr R (rdV P ((16 : Nat) : Int) (P.l.getD 1 0 : Nat) (P.l.getD 0 0 : Nat) (prK P.l) (valN ((P.l.drop 8).take 4) : Nat) (valN ((P.l.drop 12).take 4) : Nat) (flK P.l) (.slice none 0 0)) 161
  | _ => 18 ≤ P.len ∧ ∃ rs q v, readN1 P.l 18 (toldRecs P.l) = some (rs, q) ∧ Blk wr R (rdV P (q : Nat) (P.l.getD 1 0 : Nat) (P.l.getD 0 0 : Nat) (prK P.l) (valN ((P.l.drop 8).take 4) : Nat) (valN ((P.l.drop 12).take 4) : Nat) (flK P.l) v) 161 ∧ OwnR wr N v rs
theorem ret_batch {fn : Func} {p u : Tmp} (h : fn.results = #[.cell p 30, .tmp u]) (tmps : Array Value) (w : World) (g : Nat) (k q e s : Int) (t : Bool) (v : Value)
    (hp : tmps.getD p undef = .pointer (some ⟨g, 0, none⟩)) (hg : BBox w g k q e s t v) :
    (results fn tmps).run Tryz.prog w = .ok (.tuple #[.agg #[.int .i64 k, .int .i64 q, .int .i64 e, .int .i64 s, .bool t, v], tmps.getD u undef]) w := by
  rw [results_cell_tmp h, hp]
  have hl := run_loadVar_row (P := Tryz.prog) w g 30 30 _ (0, 0) _ hg Tryz.underlying30 rfl (by kernel_rfl)
  simp only [asAddr, Sem.run_pure, Result.andThen_ok]
  rw [hl]
  rfl
/-- The batch of nothing, as a value. -/
def zeroB : Value := .agg #[.int .i64 0, .int .i64 0, .int .i64 0, .int .i64 0, .bool false, .slice none 0 0]
theorem BBox.below {w w' : World} {B N : Nat} {k p e s : Int} {t : Bool} {v : Value} (h : BBox w B k p e s t v) (hb : Below N w w') (hN : B < N) : BBox w' B k p e s t v := (hb.block B hN).trans h
/-- Records lie in a block of Records. -/
def RTyq (w : World) (ad : Option Addr) (len : Nat) : Prop := 0 < len → ∃ b off cur, ad = some ⟨b, off, none⟩ ∧ w.heap[b]? = some (.cells cur 43 (0, 0))
theorem OwnR.typq {w : World} {base : Nat} {a : Option Addr} {n c : Nat} {rs : List Rec} (h : OwnR w base (.slice a n c) rs) : RTyq w a n := by
  intro hn
  rcases h.2 with ⟨hv, h0⟩ | ⟨g, cap, cur, hv, hb, hg, -⟩
  · cases hv; omega
  · cases hv; exact ⟨g, 0, cur, rfl, hg⟩
set_option maxRecDepth 100000 in
set_option maxHeartbeats 4000000 in
theorem bread_any (ad : Option Addr) (len cap : Nat) (l : List Nat) (w : World) (hp : Part.ok w ⟨ad, len, cap, l⟩) (hlc : len ≤ cap) (hm : len ≤ 1000000000000000) :
    Calls Tryz.prog 66 #[.slice ad len cap] w fun x w' => ((len < 18 ∨ readN1 l 18 (toldRecs l) = none) ∧ x = .returned (.tuple #[zeroB, .int .i64 20]) ∧ Below w.heap.size w w') ∨
      ∃ rs q a n c, 18 ≤ len ∧ readN1 l 18 (toldRecs l) = some (rs, q) ∧ x = .returned (.tuple #[.agg #[.int .i64 (l.getD 0 0 : Nat), .int .i64 (prK l), .int .i64 (valN ((l.drop 8).take 4) : Nat), .int .i64 (valN ((l.drop 12).take 4) : Nat), .bool (flK l), .slice a n c], .int .i64 0]) ∧ n = rs.length ∧ (a = none → n = 0 ∧ c = 0) ∧ n ≤ c ∧ c ≤ maxLen ∧ RRow w' a rs ∧ RTyq w' a n ∧ Below w.heap.size w w' := by
  have hmf : ∀ (fn : Fn) (first cap : Array Value) (w : World), (Instr.makeFunc fn first cap).run Tryz.prog w = .ok (.func fn first cap) w := fun _ _ _ _ => rfl
  have HLn : Hid (l.length = len) := hp.1
  have H256 : Hid (∀ x ∈ l, x < 256) := hp.2.2.1
  have hPb : Hid (1 ≤ len → ∀ b off, ad = some ⟨b, off, none⟩ → b < (w.heap.size + 1)) := fun h1 b off e => by
    have hr : Row w ad l := hp.2.2
    rcases hr.2 with h0 | ⟨b2, off2, e2, hs, -⟩
    · have := hp.1; rw [show l = [] from h0] at this; simp at this; omega
    · rw [e2] at e; cases e; omega
  have b0 : Below w.heap.size w ((w.alloc (.cells #[.int .i64 0, .int .i64 0, .int .i64 0, .int .i64 0, .bool false, .slice none 0 0] 30)).alloc (.cells #[.slice ad len cap, .int .i64 0, .int .i64 0, .int .i64 0, .int .i64 0, .int .i64 0, .int .i64 0, .bool false, .slice none 0 0] 161)) := ((Below.refl _ _).alloc (Nat.le_refl _) _).alloc (by simp) _
  have R0 : Hid (Blk ((w.alloc (.cells #[.int .i64 0, .int .i64 0, .int .i64 0, .int .i64 0, .bool false, .slice none 0 0] 30)).alloc (.cells #[.slice ad len cap, .int .i64 0, .int .i64 0, .int .i64 0, .int .i64 0, .int .i64 0, .int .i64 0, .bool false, .slice none 0 0] 161)) (w.heap.size + 1) (rdV ⟨ad, len, cap, l⟩ 0 0 0 0 0 0 false (.slice none 0 0)) 161) := heap_alloc2_new _ _ _
  have Q0 : Hid (BBox ((w.alloc (.cells #[.int .i64 0, .int .i64 0, .int .i64 0, .int .i64 0, .bool false, .slice none 0 0] 30)).alloc (.cells #[.slice ad len cap, .int .i64 0, .int .i64 0, .int .i64 0, .int .i64 0, .int .i64 0, .int .i64 0, .bool false, .slice none 0 0] 161)) w.heap.size 0 0 0 0 false (.slice none 0 0)) := heap_alloc2_old _ _ _
  have P0 : Hid (Part.ok ((w.alloc (.cells #[.int .i64 0, .int .i64 0, .int .i64 0, .int .i64 0, .bool false, .slice none 0 0] 30)).alloc (.cells #[.slice ad len cap, .int .i64 0, .int .i64 0, .int .i64 0, .int .i64 0, .int .i64 0, .int .i64 0, .bool false, .slice none 0 0] 161)) ⟨ad, len, cap, l⟩) := hp.later b0
  have B0 : Hid (Below w.heap.size w ((w.alloc (.cells #[.int .i64 0, .int .i64 0, .int .i64 0, .int .i64 0, .bool false, .slice none 0 0] 30)).alloc (.cells #[.slice ad len cap, .int .i64 0, .int .i64 0, .int .i64 0, .int .i64 0, .int .i64 0, .int .i64 0, .bool false, .slice none 0 0] 161))) := b0
  have PW : Hid (∀ wr, 1 ≤ len → Below (w.heap.size + 1) ((w.alloc (.cells #[.int .i64 0, .int .i64 0, .int .i64 0, .int .i64 0, .bool false, .slice none 0 0] 30)).alloc (.cells #[.slice ad len cap, .int .i64 0, .int .i64 0, .int .i64 0, .int .i64 0, .int .i64 0, .int .i64 0, .bool false, .slice none 0 0] 161)) wr → Part.ok wr ⟨ad, len, cap, l⟩) := fun wr h1 hb => Part.below P0.out hb (hPb.out h1)
  have PE : Hid (∀ wr, ¬ 1 ≤ len → Below (w.heap.size + 1) ((w.alloc (.cells #[.int .i64 0, .int .i64 0, .int .i64 0, .int .i64 0, .bool false, .slice none 0 0] 30)).alloc (.cells #[.slice ad len cap, .int .i64 0, .int .i64 0, .int .i64 0, .int .i64 0, .int .i64 0, .int .i64 0, .bool false, .slice none 0 0] 161)) wr → Part.ok wr ⟨ad, len, cap, l⟩) := fun wr h1 hb => by
    have hl : l = [] := List.eq_nil_of_length_eq_zero (by rw [HLn.out]; omega)
    refine ⟨HLn.out, P0.out.2.1, fun x hx => H256.out x hx, Or.inl hl⟩
  have HSz : Hid ((w.heap.size + 1) ≤ ((w.alloc (.cells #[.int .i64 0, .int .i64 0, .int .i64 0, .int .i64 0, .bool false, .slice none 0 0] 30)).alloc (.cells #[.slice ad len cap, .int .i64 0, .int .i64 0, .int .i64 0, .int .i64 0, .int .i64 0, .int .i64 0, .bool false, .slice none 0 0] 161)).heap.size) := by
    show _ ≤ _
    simp
  have HZ : Hid (zeroB = .agg #[.int .i64 0, .int .i64 0, .int .i64 0, .int .i64 0, .bool false, .slice none 0 0]) := rfl
  clear hp b0
  go_enter Tryz.func66, Tryz.ntmps66
  go_wp2_with fail
  go_loopw [17] (fun i wr => ∃ j : Nat, j ≤ 6 ∧ i = .int .i64 j ∧ Hid (RInv ⟨ad, len, cap, l⟩ (w.heap.size + 1) (w.heap.size + 1) wr j) ∧ Hid (Below (w.heap.size + 1) ((w.alloc (.cells #[.int .i64 0, .int .i64 0, .int .i64 0, .int .i64 0, .bool false, .slice none 0 0] 30)).alloc (.cells #[.slice ad len cap, .int .i64 0, .int .i64 0, .int .i64 0, .int .i64 0, .int .i64 0, .int .i64 0, .bool false, .slice none 0 0] 161)) wr)) (fun i _ => 6 - (intOf i).toNat)
  case atStart => exact ⟨0, by omega, rfl, R0, (show Hid _ from Below.refl _ _)⟩
  case round =>
    obtain ⟨j, hj, rfl, HI, HB⟩ := hrel
    have XQ : Hid (BBox wr w.heap.size 0 0 0 0 false (.slice none 0 0)) := BBox.below Q0.out HB.out (by omega)
    rcases (show j = 0 ∨ j = 1 ∨ j = 2 ∨ j = 3 ∨ j = 4 ∨ j = 5 ∨ j = 6 by omega) with rfl | rfl | rfl | rfl | rfl | rfl | rfl
    · have HI' : Blk wr (w.heap.size + 1) _ 161 := HI.out
      have HPi := parts_at0 (w.heap.size + 1)
      unfold parts at HPi
      by_cases hlt : 1 ≤ len
      · have PP : Part.ok wr ⟨ad, len, cap, l⟩ := PW.out wr (by omega) HB.out
        have HC := bkind_any (P := ⟨ad, len, cap, l⟩) (q := 0) HI' PP hlc hm (by show 0 ≤ len; omega)
        simp only at HC
        have g1 := getN_one l 0 (by rw [HLn.out]; omega)
        rw [show getN l ((0 : Nat) : Int) ((1 : Nat) : Int) = _ from g1] at HC
        clear g1 PP
        go_wp2_with (go_at_call 93; refine HC.mono ?_; rintro x w1 ⟨rfl, R1, K1⟩; have HI1 : Hid (RInv ⟨ad, len, cap, l⟩ (w.heap.size + 1) (w.heap.size + 1) w1 1) := (show _ ∧ _ from ⟨hlt, R1⟩); have B1 : Hid (Below (w.heap.size + 1) ((w.alloc (.cells #[.int .i64 0, .int .i64 0, .int .i64 0, .int .i64 0, .bool false, .slice none 0 0] 30)).alloc (.cells #[.slice ad len cap, .int .i64 0, .int .i64 0, .int .i64 0, .int .i64 0, .int .i64 0, .int .i64 0, .bool false, .slice none 0 0] 161)) w1) := HB.out.trans (K1.below (by intro k hk; simp at hk; omega) (Nat.le_trans HSz.out HB.out.size)); clear R1 K1)
        go_roundw
        case rel => exact ⟨1, by omega, by go_num, HI1, B1⟩
        case measure => simp [intOf]
      · have PP : Part.ok wr ⟨ad, len, cap, l⟩ := PE.out wr (by omega) HB.out
        have HC := bkind_any (P := ⟨ad, len, cap, l⟩) (q := 0) HI' PP hlc hm (by show 0 ≤ len; omega)
        simp only at HC
        have g1 := getN_end l 0 1 (by omega) (by rw [HLn.out]; omega)
        rw [show getN l ((0 : Nat) : Int) ((1 : Nat) : Int) = (0, 0, 20) from g1] at HC
        clear g1 PP HI'
        go_wp2_with (go_at_call 93; refine HC.mono ?_; rintro x w1 ⟨rfl, R1, K1⟩; have B1 : Hid (Below (w.heap.size + 1) ((w.alloc (.cells #[.int .i64 0, .int .i64 0, .int .i64 0, .int .i64 0, .bool false, .slice none 0 0] 30)).alloc (.cells #[.slice ad len cap, .int .i64 0, .int .i64 0, .int .i64 0, .int .i64 0, .int .i64 0, .int .i64 0, .bool false, .slice none 0 0] 161)) w1) := HB.out.trans (K1.below (by intro k hk; simp at hk; omega) (Nat.le_trans HSz.out HB.out.size)); clear R1 K1; have XQ1 : Hid (BBox w1 w.heap.size 0 0 0 0 false (.slice none 0 0)) := BBox.below Q0.out B1.out (by omega); have c0 := XQ1.out.c0; have c1 := XQ1.out.c1; have c2 := XQ1.out.c2; have c3 := XQ1.out.c3; have c4 := XQ1.out.c4; have c5 := XQ1.out.c5; have f0 := XQ1.out.free 0; have f1 := XQ1.out.free 1; have f2 := XQ1.out.free 2; have f3 := XQ1.out.free 3; have f4 := XQ1.out.free 4; have f5 := XQ1.out.free 5)
        refine bodyPost_ret (ret_batch Tryz.results66 _ _ w.heap.size 0 0 0 0 false (.slice none 0 0) rfl (XQ1.out.set6 0 0 0 0 false (.slice none 0 0))) rfl (Or.inl ⟨Or.inl (by omega), rfl, ?_⟩)
        exact set6_below (B0.out.trans (B1.out.mono (by omega))) (Nat.le_refl _) _ _ _ _ _ _
    · obtain ⟨hl0, HI'⟩ : 1 ≤ len ∧ Blk wr (w.heap.size + 1) _ 161 := HI.out
      have HPi := parts_at1 (w.heap.size + 1)
      unfold parts at HPi
      by_cases hlt : 2 ≤ len
      · have PP : Part.ok wr ⟨ad, len, cap, l⟩ := PW.out wr (by omega) HB.out
        have HC := bflag_any (P := ⟨ad, len, cap, l⟩) (q := 1) HI' PP hlc hm (by show 1 ≤ len; omega)
        simp only at HC
        have g1 := getN_one l 1 (by rw [HLn.out]; omega)
        rw [show getN l ((1 : Nat) : Int) ((1 : Nat) : Int) = _ from g1] at HC
        clear g1 PP
        go_wp2_with (go_at_call 94; refine HC.mono ?_; rintro x w1 ⟨rfl, R1, K1⟩; have HI1 : Hid (RInv ⟨ad, len, cap, l⟩ (w.heap.size + 1) (w.heap.size + 1) w1 2) := (show _ ∧ _ from ⟨hlt, R1⟩); have B1 : Hid (Below (w.heap.size + 1) ((w.alloc (.cells #[.int .i64 0, .int .i64 0, .int .i64 0, .int .i64 0, .bool false, .slice none 0 0] 30)).alloc (.cells #[.slice ad len cap, .int .i64 0, .int .i64 0, .int .i64 0, .int .i64 0, .int .i64 0, .int .i64 0, .bool false, .slice none 0 0] 161)) w1) := HB.out.trans (K1.below (by intro k hk; simp at hk; omega) (Nat.le_trans HSz.out HB.out.size)); clear R1 K1)
        go_roundw
        case rel => exact ⟨2, by omega, by go_num, HI1, B1⟩
        case measure => simp [intOf]
      · have PP : Part.ok wr ⟨ad, len, cap, l⟩ := PW.out wr (by omega) HB.out
        have HC := bflag_any (P := ⟨ad, len, cap, l⟩) (q := 1) HI' PP hlc hm (by show 1 ≤ len; omega)
        simp only at HC
        have g1 := getN_end l 1 1 (by omega) (by rw [HLn.out]; omega)
        rw [show getN l ((1 : Nat) : Int) ((1 : Nat) : Int) = (0, 0, 20) from g1] at HC
        clear g1 PP HI'
        go_wp2_with (go_at_call 94; refine HC.mono ?_; rintro x w1 ⟨rfl, R1, K1⟩; have B1 : Hid (Below (w.heap.size + 1) ((w.alloc (.cells #[.int .i64 0, .int .i64 0, .int .i64 0, .int .i64 0, .bool false, .slice none 0 0] 30)).alloc (.cells #[.slice ad len cap, .int .i64 0, .int .i64 0, .int .i64 0, .int .i64 0, .int .i64 0, .int .i64 0, .bool false, .slice none 0 0] 161)) w1) := HB.out.trans (K1.below (by intro k hk; simp at hk; omega) (Nat.le_trans HSz.out HB.out.size)); clear R1 K1; have XQ1 : Hid (BBox w1 w.heap.size 0 0 0 0 false (.slice none 0 0)) := BBox.below Q0.out B1.out (by omega); have c0 := XQ1.out.c0; have c1 := XQ1.out.c1; have c2 := XQ1.out.c2; have c3 := XQ1.out.c3; have c4 := XQ1.out.c4; have c5 := XQ1.out.c5; have f0 := XQ1.out.free 0; have f1 := XQ1.out.free 1; have f2 := XQ1.out.free 2; have f3 := XQ1.out.free 3; have f4 := XQ1.out.free 4; have f5 := XQ1.out.free 5)
        refine bodyPost_ret (ret_batch Tryz.results66 _ _ w.heap.size 0 0 0 0 false (.slice none 0 0) rfl (XQ1.out.set6 0 0 0 0 false (.slice none 0 0))) rfl (Or.inl ⟨Or.inl (by omega), rfl, ?_⟩)
        exact set6_below (B0.out.trans (B1.out.mono (by omega))) (Nat.le_refl _) _ _ _ _ _ _
    · obtain ⟨hl0, HI'⟩ : 2 ≤ len ∧ Blk wr (w.heap.size + 1) _ 161 := HI.out
      have HPi := parts_at2 (w.heap.size + 1)
      unfold parts at HPi
      by_cases hlt : 8 ≤ len
      · have PP : Part.ok wr ⟨ad, len, cap, l⟩ := PW.out wr (by omega) HB.out
        have HC := bproducer_any (P := ⟨ad, len, cap, l⟩) (q := 2) HI' PP hlc hm (by show 2 ≤ len; omega)
        simp only at HC
        have g1 := getN_ok l 2 6 (by omega) (by rw [HLn.out]; omega)
        rw [show getN l ((2 : Nat) : Int) ((6 : Nat) : Int) = _ from g1] at HC
        clear g1 PP
        go_wp2_with (go_at_call 95; refine HC.mono ?_; rintro x w1 ⟨rfl, R1, K1⟩; have HI1 : Hid (RInv ⟨ad, len, cap, l⟩ (w.heap.size + 1) (w.heap.size + 1) w1 3) := (show _ ∧ _ from ⟨hlt, R1⟩); have B1 : Hid (Below (w.heap.size + 1) ((w.alloc (.cells #[.int .i64 0, .int .i64 0, .int .i64 0, .int .i64 0, .bool false, .slice none 0 0] 30)).alloc (.cells #[.slice ad len cap, .int .i64 0, .int .i64 0, .int .i64 0, .int .i64 0, .int .i64 0, .int .i64 0, .bool false, .slice none 0 0] 161)) w1) := HB.out.trans (K1.below (by intro k hk; simp at hk; omega) (Nat.le_trans HSz.out HB.out.size)); clear R1 K1)
        go_roundw
        case rel => exact ⟨3, by omega, by go_num, HI1, B1⟩
        case measure => simp [intOf]
      · have PP : Part.ok wr ⟨ad, len, cap, l⟩ := PW.out wr (by omega) HB.out
        have HC := bproducer_any (P := ⟨ad, len, cap, l⟩) (q := 2) HI' PP hlc hm (by show 2 ≤ len; omega)
        simp only at HC
        have g1 := getN_end l 2 6 (by omega) (by rw [HLn.out]; omega)
        rw [show getN l ((2 : Nat) : Int) ((6 : Nat) : Int) = (0, 0, 20) from g1] at HC
        clear g1 PP HI'
        go_wp2_with (go_at_call 95; refine HC.mono ?_; rintro x w1 ⟨rfl, R1, K1⟩; have B1 : Hid (Below (w.heap.size + 1) ((w.alloc (.cells #[.int .i64 0, .int .i64 0, .int .i64 0, .int .i64 0, .bool false, .slice none 0 0] 30)).alloc (.cells #[.slice ad len cap, .int .i64 0, .int .i64 0, .int .i64 0, .int .i64 0, .int .i64 0, .int .i64 0, .bool false, .slice none 0 0] 161)) w1) := HB.out.trans (K1.below (by intro k hk; simp at hk; omega) (Nat.le_trans HSz.out HB.out.size)); clear R1 K1; have XQ1 : Hid (BBox w1 w.heap.size 0 0 0 0 false (.slice none 0 0)) := BBox.below Q0.out B1.out (by omega); have c0 := XQ1.out.c0; have c1 := XQ1.out.c1; have c2 := XQ1.out.c2; have c3 := XQ1.out.c3; have c4 := XQ1.out.c4; have c5 := XQ1.out.c5; have f0 := XQ1.out.free 0; have f1 := XQ1.out.free 1; have f2 := XQ1.out.free 2; have f3 := XQ1.out.free 3; have f4 := XQ1.out.free 4; have f5 := XQ1.out.free 5)
        refine bodyPost_ret (ret_batch Tryz.results66 _ _ w.heap.size 0 0 0 0 false (.slice none 0 0) rfl (XQ1.out.set6 0 0 0 0 false (.slice none 0 0))) rfl (Or.inl ⟨Or.inl (by omega), rfl, ?_⟩)
        exact set6_below (B0.out.trans (B1.out.mono (by omega))) (Nat.le_refl _) _ _ _ _ _ _
    · obtain ⟨hl0, HI'⟩ : 8 ≤ len ∧ Blk wr (w.heap.size + 1) _ 161 := HI.out
      have HPi := parts_at3 (w.heap.size + 1)
      unfold parts at HPi
      by_cases hlt : 12 ≤ len
      · have PP : Part.ok wr ⟨ad, len, cap, l⟩ := PW.out wr (by omega) HB.out
        have HC := bepoch_any (P := ⟨ad, len, cap, l⟩) (q := 8) HI' PP hlc hm (by show 8 ≤ len; omega)
        simp only at HC
        have g1 := getN_ok l 8 4 (by omega) (by rw [HLn.out]; omega)
        rw [show getN l ((8 : Nat) : Int) ((4 : Nat) : Int) = _ from g1] at HC
        clear g1 PP
        go_wp2_with (go_at_call 96; refine HC.mono ?_; rintro x w1 ⟨rfl, R1, K1⟩; have HI1 : Hid (RInv ⟨ad, len, cap, l⟩ (w.heap.size + 1) (w.heap.size + 1) w1 4) := (show _ ∧ _ from ⟨hlt, R1⟩); have B1 : Hid (Below (w.heap.size + 1) ((w.alloc (.cells #[.int .i64 0, .int .i64 0, .int .i64 0, .int .i64 0, .bool false, .slice none 0 0] 30)).alloc (.cells #[.slice ad len cap, .int .i64 0, .int .i64 0, .int .i64 0, .int .i64 0, .int .i64 0, .int .i64 0, .bool false, .slice none 0 0] 161)) w1) := HB.out.trans (K1.below (by intro k hk; simp at hk; omega) (Nat.le_trans HSz.out HB.out.size)); clear R1 K1)
        go_roundw
        case rel => exact ⟨4, by omega, by go_num, HI1, B1⟩
        case measure => simp [intOf]
      · have PP : Part.ok wr ⟨ad, len, cap, l⟩ := PW.out wr (by omega) HB.out
        have HC := bepoch_any (P := ⟨ad, len, cap, l⟩) (q := 8) HI' PP hlc hm (by show 8 ≤ len; omega)
        simp only at HC
        have g1 := getN_end l 8 4 (by omega) (by rw [HLn.out]; omega)
        rw [show getN l ((8 : Nat) : Int) ((4 : Nat) : Int) = (0, 0, 20) from g1] at HC
        clear g1 PP HI'
        go_wp2_with (go_at_call 96; refine HC.mono ?_; rintro x w1 ⟨rfl, R1, K1⟩; have B1 : Hid (Below (w.heap.size + 1) ((w.alloc (.cells #[.int .i64 0, .int .i64 0, .int .i64 0, .int .i64 0, .bool false, .slice none 0 0] 30)).alloc (.cells #[.slice ad len cap, .int .i64 0, .int .i64 0, .int .i64 0, .int .i64 0, .int .i64 0, .int .i64 0, .bool false, .slice none 0 0] 161)) w1) := HB.out.trans (K1.below (by intro k hk; simp at hk; omega) (Nat.le_trans HSz.out HB.out.size)); clear R1 K1; have XQ1 : Hid (BBox w1 w.heap.size 0 0 0 0 false (.slice none 0 0)) := BBox.below Q0.out B1.out (by omega); have c0 := XQ1.out.c0; have c1 := XQ1.out.c1; have c2 := XQ1.out.c2; have c3 := XQ1.out.c3; have c4 := XQ1.out.c4; have c5 := XQ1.out.c5; have f0 := XQ1.out.free 0; have f1 := XQ1.out.free 1; have f2 := XQ1.out.free 2; have f3 := XQ1.out.free 3; have f4 := XQ1.out.free 4; have f5 := XQ1.out.free 5)
        refine bodyPost_ret (ret_batch Tryz.results66 _ _ w.heap.size 0 0 0 0 false (.slice none 0 0) rfl (XQ1.out.set6 0 0 0 0 false (.slice none 0 0))) rfl (Or.inl ⟨Or.inl (by omega), rfl, ?_⟩)
        exact set6_below (B0.out.trans (B1.out.mono (by omega))) (Nat.le_refl _) _ _ _ _ _ _
    · obtain ⟨hl0, HI'⟩ : 12 ≤ len ∧ Blk wr (w.heap.size + 1) _ 161 := HI.out
      have HPi := parts_at4 (w.heap.size + 1)
      unfold parts at HPi
      by_cases hlt : 16 ≤ len
      · have PP : Part.ok wr ⟨ad, len, cap, l⟩ := PW.out wr (by omega) HB.out
        have HC := bseq_any (P := ⟨ad, len, cap, l⟩) (q := 12) HI' PP hlc hm (by show 12 ≤ len; omega)
        simp only at HC
        have g1 := getN_ok l 12 4 (by omega) (by rw [HLn.out]; omega)
        rw [show getN l ((12 : Nat) : Int) ((4 : Nat) : Int) = _ from g1] at HC
        clear g1 PP
        go_wp2_with (go_at_call 97; refine HC.mono ?_; rintro x w1 ⟨rfl, R1, K1⟩; have HI1 : Hid (RInv ⟨ad, len, cap, l⟩ (w.heap.size + 1) (w.heap.size + 1) w1 5) := (show _ ∧ _ from ⟨hlt, R1⟩); have B1 : Hid (Below (w.heap.size + 1) ((w.alloc (.cells #[.int .i64 0, .int .i64 0, .int .i64 0, .int .i64 0, .bool false, .slice none 0 0] 30)).alloc (.cells #[.slice ad len cap, .int .i64 0, .int .i64 0, .int .i64 0, .int .i64 0, .int .i64 0, .int .i64 0, .bool false, .slice none 0 0] 161)) w1) := HB.out.trans (K1.below (by intro k hk; simp at hk; omega) (Nat.le_trans HSz.out HB.out.size)); clear R1 K1)
        go_roundw
        case rel => exact ⟨5, by omega, by go_num, HI1, B1⟩
        case measure => simp [intOf]
      · have PP : Part.ok wr ⟨ad, len, cap, l⟩ := PW.out wr (by omega) HB.out
        have HC := bseq_any (P := ⟨ad, len, cap, l⟩) (q := 12) HI' PP hlc hm (by show 12 ≤ len; omega)
        simp only at HC
        have g1 := getN_end l 12 4 (by omega) (by rw [HLn.out]; omega)
        rw [show getN l ((12 : Nat) : Int) ((4 : Nat) : Int) = (0, 0, 20) from g1] at HC
        clear g1 PP HI'
        go_wp2_with (go_at_call 97; refine HC.mono ?_; rintro x w1 ⟨rfl, R1, K1⟩; have B1 : Hid (Below (w.heap.size + 1) ((w.alloc (.cells #[.int .i64 0, .int .i64 0, .int .i64 0, .int .i64 0, .bool false, .slice none 0 0] 30)).alloc (.cells #[.slice ad len cap, .int .i64 0, .int .i64 0, .int .i64 0, .int .i64 0, .int .i64 0, .int .i64 0, .bool false, .slice none 0 0] 161)) w1) := HB.out.trans (K1.below (by intro k hk; simp at hk; omega) (Nat.le_trans HSz.out HB.out.size)); clear R1 K1; have XQ1 : Hid (BBox w1 w.heap.size 0 0 0 0 false (.slice none 0 0)) := BBox.below Q0.out B1.out (by omega); have c0 := XQ1.out.c0; have c1 := XQ1.out.c1; have c2 := XQ1.out.c2; have c3 := XQ1.out.c3; have c4 := XQ1.out.c4; have c5 := XQ1.out.c5; have f0 := XQ1.out.free 0; have f1 := XQ1.out.free 1; have f2 := XQ1.out.free 2; have f3 := XQ1.out.free 3; have f4 := XQ1.out.free 4; have f5 := XQ1.out.free 5)
        refine bodyPost_ret (ret_batch Tryz.results66 _ _ w.heap.size 0 0 0 0 false (.slice none 0 0) rfl (XQ1.out.set6 0 0 0 0 false (.slice none 0 0))) rfl (Or.inl ⟨Or.inl (by omega), rfl, ?_⟩)
        exact set6_below (B0.out.trans (B1.out.mono (by omega))) (Nat.le_refl _) _ _ _ _ _ _
    · obtain ⟨hl0, HI'⟩ : 16 ≤ len ∧ Blk wr (w.heap.size + 1) (rdV ⟨ad, len, cap, l⟩ ((16 : Nat) : Int) (l.getD 1 0 : Nat) (l.getD 0 0 : Nat) (prK l) (valN ((l.drop 8).take 4) : Nat) (valN ((l.drop 12).take 4) : Nat) (flK l) (.slice none 0 0)) 161 := HI.out
      have HPi := parts_at5 (w.heap.size + 1)
      unfold parts at HPi
      have PP : Part.ok wr ⟨ad, len, cap, l⟩ := PW.out wr (by omega) HB.out
      by_cases hlt : 18 ≤ len
      · cases hrd : readN1 l 18 (toldRecs l) with
        | none =>
          have HC := brecords_none (w.heap.size + 1) ⟨ad, len, cap, l⟩ _ _ _ _ _ _ wr (w.heap.size + 1) HI' (Nat.le_refl _) PP (hPb.out (by omega)) hlc hm hlt hrd
          clear PP HI'
          go_wp2_with (go_at_call 98; refine HC.mono ?_; rintro x w1 ⟨rfl, b1⟩; have B1 : Hid (Below (w.heap.size + 1) ((w.alloc (.cells #[.int .i64 0, .int .i64 0, .int .i64 0, .int .i64 0, .bool false, .slice none 0 0] 30)).alloc (.cells #[.slice ad len cap, .int .i64 0, .int .i64 0, .int .i64 0, .int .i64 0, .int .i64 0, .int .i64 0, .bool false, .slice none 0 0] 161)) w1) := HB.out.trans b1; clear b1; have XQ1 : Hid (BBox w1 w.heap.size 0 0 0 0 false (.slice none 0 0)) := BBox.below Q0.out B1.out (by omega); have c0 := XQ1.out.c0; have c1 := XQ1.out.c1; have c2 := XQ1.out.c2; have c3 := XQ1.out.c3; have c4 := XQ1.out.c4; have c5 := XQ1.out.c5; have f0 := XQ1.out.free 0; have f1 := XQ1.out.free 1; have f2 := XQ1.out.free 2; have f3 := XQ1.out.free 3; have f4 := XQ1.out.free 4; have f5 := XQ1.out.free 5)
          refine bodyPost_ret (ret_batch Tryz.results66 _ _ w.heap.size 0 0 0 0 false (.slice none 0 0) rfl (XQ1.out.set6 0 0 0 0 false (.slice none 0 0))) rfl (Or.inl ⟨Or.inr hrd, rfl, ?_⟩)
          exact set6_below (B0.out.trans (B1.out.mono (by omega))) (Nat.le_refl _) _ _ _ _ _ _
        | some y =>
          obtain ⟨rs, q⟩ := y
          have HC := brecords_some (w.heap.size + 1) ⟨ad, len, cap, l⟩ _ _ _ _ _ _ wr (w.heap.size + 1) HI' (Nat.le_refl _) PP (hPb.out (by omega)) hlc hm hlt rs q hrd
          clear PP HI'
          go_wp2_with (go_at_call 98; refine HC.mono ?_; rintro x w1 ⟨v1, rfl, R1, O1, b1⟩; have HI1 : Hid (RInv ⟨ad, len, cap, l⟩ (w.heap.size + 1) (w.heap.size + 1) w1 6) := (show _ ∧ _ from ⟨hlt, rs, q, v1, hrd, R1, O1⟩); have B1 : Hid (Below (w.heap.size + 1) ((w.alloc (.cells #[.int .i64 0, .int .i64 0, .int .i64 0, .int .i64 0, .bool false, .slice none 0 0] 30)).alloc (.cells #[.slice ad len cap, .int .i64 0, .int .i64 0, .int .i64 0, .int .i64 0, .int .i64 0, .int .i64 0, .bool false, .slice none 0 0] 161)) w1) := HB.out.trans b1; clear R1 O1 b1)
          go_roundw
          case rel => exact ⟨6, by omega, by go_num, HI1, B1⟩
          case measure => simp [intOf]
      · have HC := brecords_short (w.heap.size + 1) ⟨ad, len, cap, l⟩ _ _ _ _ _ _ wr (w.heap.size + 1) HI' (Nat.le_refl _) PP hlc hm hlt
        clear PP HI'
        go_wp2_with (go_at_call 98; refine HC.mono ?_; rintro x w1 ⟨rfl, b1⟩; have B1 : Hid (Below (w.heap.size + 1) ((w.alloc (.cells #[.int .i64 0, .int .i64 0, .int .i64 0, .int .i64 0, .bool false, .slice none 0 0] 30)).alloc (.cells #[.slice ad len cap, .int .i64 0, .int .i64 0, .int .i64 0, .int .i64 0, .int .i64 0, .int .i64 0, .bool false, .slice none 0 0] 161)) w1) := HB.out.trans b1; clear b1; have XQ1 : Hid (BBox w1 w.heap.size 0 0 0 0 false (.slice none 0 0)) := BBox.below Q0.out B1.out (by omega); have c0 := XQ1.out.c0; have c1 := XQ1.out.c1; have c2 := XQ1.out.c2; have c3 := XQ1.out.c3; have c4 := XQ1.out.c4; have c5 := XQ1.out.c5; have f0 := XQ1.out.free 0; have f1 := XQ1.out.free 1; have f2 := XQ1.out.free 2; have f3 := XQ1.out.free 3; have f4 := XQ1.out.free 4; have f5 := XQ1.out.free 5)
        refine bodyPost_ret (ret_batch Tryz.results66 _ _ w.heap.size 0 0 0 0 false (.slice none 0 0) rfl (XQ1.out.set6 0 0 0 0 false (.slice none 0 0))) rfl (Or.inl ⟨Or.inl (by omega), rfl, ?_⟩)
        exact set6_below (B0.out.trans (B1.out.mono (by omega))) (Nat.le_refl _) _ _ _ _ _ _
    · obtain ⟨hl0, rs, q, v, hrd, HR, HO⟩ := HI.out
      simp only at hl0 hrd HR
      obtain ⟨a9, n9, hv9, z1, z2, z3, z4⟩ := HO.form
      have HRD : Hid (readN1 l 18 (toldRecs l) = some (rs, q)) := hrd
      obtain ⟨m9, hm9⟩ : ∃ m, rs.length = m := ⟨_, rfl⟩
      rw [hm9] at hv9 z1 z2
      subst hv9
      have HR' : Hid (Blk wr (w.heap.size + 1) (rdV ⟨ad, len, cap, l⟩ (q : Nat) (l.getD 1 0 : Nat) (l.getD 0 0 : Nat) (prK l) (valN ((l.drop 8).take 4) : Nat) (valN ((l.drop 12).take 4) : Nat) (flK l) (.slice a9 m9 n9)) 161) := HR
      have HO' : Hid (OwnR wr (w.heap.size + 1) (.slice a9 m9 n9) rs) := HO
      have Z : Hid ((a9 = none → m9 = 0 ∧ n9 = 0) ∧ m9 ≤ n9 ∧ n9 ≤ maxLen) := ⟨z1, z2, z3⟩
      have HM : Hid (rs.length = m9) := hm9
      clear HR HO z1 z2 z3 z4 hrd hm9 HI
      obtain ⟨kk, hkk⟩ : ∃ x, ((l.getD 0 0 : Nat) : Int) = x := ⟨_, rfl⟩
      obtain ⟨pp, hpp⟩ : ∃ x, prK l = x := ⟨_, rfl⟩
      obtain ⟨ee, hee⟩ : ∃ x, ((valN ((l.drop 8).take 4) : Nat) : Int) = x := ⟨_, rfl⟩
      obtain ⟨ss, hss⟩ : ∃ x, ((valN ((l.drop 12).take 4) : Nat) : Int) = x := ⟨_, rfl⟩
      obtain ⟨tt, htt⟩ : ∃ x, flK l = x := ⟨_, rfl⟩
      rw [hkk, hpp, hee, hss, htt] at HR'
      have HE1 : Hid (((l.getD 0 0 : Nat) : Int) = kk) := hkk
      have HE2 : Hid (prK l = pp) := hpp
      have HE3 : Hid (((valN ((l.drop 8).take 4) : Nat) : Int) = ee) := hee
      have HE4 : Hid (((valN ((l.drop 12).take 4) : Nat) : Int) = ss) := hss
      have HE5 : Hid (flK l = tt) := htt
      clear hkk hpp hee hss htt
      have x3 := HR'.out.cell 3
      have x4 := HR'.out.cell 4
      have x5 := HR'.out.cell 5
      have x6 := HR'.out.cell 6
      have x7 := HR'.out.cell 7
      have x8 := HR'.out.cell 8
      simp [rdV] at x3 x4 x5 x6 x7 x8
      have c0 := XQ.out.c0
      have c1 := XQ.out.c1
      have c2 := XQ.out.c2
      have c3 := XQ.out.c3
      have c4 := XQ.out.c4
      have c5 := XQ.out.c5
      have f0 := XQ.out.free 0
      have f1 := XQ.out.free 1
      have f2 := XQ.out.free 2
      have f3 := XQ.out.free 3
      have f4 := XQ.out.free 4
      have f5 := XQ.out.free 5
      go_wp2
      refine bodyPost_ret (ret_batch Tryz.results66 _ _ w.heap.size kk pp ee ss tt (.slice a9 m9 n9) rfl (XQ.out.set6 kk pp ee ss tt (.slice a9 m9 n9))) rfl (Or.inr ⟨rs, q, a9, m9, n9, hl0, HRD.out, ?_, HM.out.symm, Z.out.1, Z.out.2.1, Z.out.2.2, ?_, OwnR.typq (HO'.out.set6 (B := w.heap.size) (by omega) kk pp ee ss tt (.slice a9 m9 n9)), ?_⟩)
      · rw [HE1.out, HE2.out, HE3.out, HE4.out, HE5.out]; rfl
      · obtain ⟨a8, n8, e8, -, -, -, z8⟩ := OwnR.form (HO'.out.set6 (B := w.heap.size) (by omega) kk pp ee ss tt (.slice a9 m9 n9))
        cases e8
        exact z8
      · exact set6_below (B0.out.trans (HB.out.mono (by omega))) (Nat.le_refl _) _ _ _ _ _ _
end Go.Proofs.YtfgamkcnnijloaaGreat
