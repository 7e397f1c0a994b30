/- StoreApart, walked (written by wip/genapart.py). -/
import Derived.Test.YtikomnbhmmjfnaaGreatSKt
import Derived.Test.YtikomnbhmmjfnaaGreatSOps4
import Derived.Test.YtikomnbhmmjfnaaGreatSToldEq
namespace Go.Proofs.YtikomnbhmmjfnaaGreat
open Go.RowKit Go.Shelf Crcm

abbrev TO5 : TypeId := 31
def Apt (w : World) (S T i : Nat) (wr : World) : Prop := ∃ s t, Alike i s t ∧ KT w wr S T s t []
theorem eq_str6 (d0 d1 d2 d3 d4 d5 : ByteArray) (w : World) : (binOp .eql 59 (.agg #[.string d0, .string d1, .string d2, .string d3, .string d4, .string d5]) (.agg #[.string d0, .string d1, .string d2, .string d3, .string d4, .string d5])).run Tryz.prog w = .ok (.bool true) w := by
  obtain ⟨k1, -⟩ := cells1S
  obtain ⟨is, his⟩ := info_some (e := 9) (by kernel_rfl)
  have hE := arr_self 59 9 6 is Tryz.underlying59 his 9999 #[.string d0, .string d1, .string d2, .string d3, .string d4, .string d5] w (fun q hq => by
    rw [k1, Nat.mul_one]
    have h6 : q = 0 ∨ q = 1 ∨ q = 2 ∨ q = 3 ∨ q = 4 ∨ q = 5 := by omega
    rcases h6 with rfl | rfl | rfl | rfl | rfl | rfl
    · exact ⟨.string d0, part_str Tryz.underlying9 rfl w, by rw [run_equalIn_string w 9998 _ _ _ Tryz.underlying9]; simp⟩
    · exact ⟨.string d1, part_str Tryz.underlying9 rfl w, by rw [run_equalIn_string w 9998 _ _ _ Tryz.underlying9]; simp⟩
    · exact ⟨.string d2, part_str Tryz.underlying9 rfl w, by rw [run_equalIn_string w 9998 _ _ _ Tryz.underlying9]; simp⟩
    · exact ⟨.string d3, part_str Tryz.underlying9 rfl w, by rw [run_equalIn_string w 9998 _ _ _ Tryz.underlying9]; simp⟩
    · exact ⟨.string d4, part_str Tryz.underlying9 rfl w, by rw [run_equalIn_string w 9998 _ _ _ Tryz.underlying9]; simp⟩
    · exact ⟨.string d5, part_str Tryz.underlying9 rfl w, by rw [run_equalIn_string w 9998 _ _ _ Tryz.underlying9]; simp⟩)
  rw [run_eql_struct, show (10000 : Nat) = 9999 + 1 from rfl, hE]
  rfl
theorem eq_bool6 (e0 e1 e2 e3 e4 e5 : Bool) (w : World) : (binOp .eql 61 (.agg #[.bool e0, .bool e1, .bool e2, .bool e3, .bool e4, .bool e5]) (.agg #[.bool e0, .bool e1, .bool e2, .bool e3, .bool e4, .bool e5])).run Tryz.prog w = .ok (.bool true) w := by
  obtain ⟨-, k1, -⟩ := cells1S
  obtain ⟨is, his⟩ := info_some (e := 4) (by kernel_rfl)
  have hE := arr_self 61 4 6 is Tryz.underlying61 his 9999 #[.bool e0, .bool e1, .bool e2, .bool e3, .bool e4, .bool e5] w (fun q hq => by
    rw [k1, Nat.mul_one]
    have h6 : q = 0 ∨ q = 1 ∨ q = 2 ∨ q = 3 ∨ q = 4 ∨ q = 5 := by omega
    rcases h6 with rfl | rfl | rfl | rfl | rfl | rfl
    · exact ⟨.bool e0, part_bool Tryz.underlying4 rfl w, by rw [run_equalIn_bool w 9998 _ _ _ Tryz.underlying4]; simp⟩
    · exact ⟨.bool e1, part_bool Tryz.underlying4 rfl w, by rw [run_equalIn_bool w 9998 _ _ _ Tryz.underlying4]; simp⟩
    · exact ⟨.bool e2, part_bool Tryz.underlying4 rfl w, by rw [run_equalIn_bool w 9998 _ _ _ Tryz.underlying4]; simp⟩
    · exact ⟨.bool e3, part_bool Tryz.underlying4 rfl w, by rw [run_equalIn_bool w 9998 _ _ _ Tryz.underlying4]; simp⟩
    · exact ⟨.bool e4, part_bool Tryz.underlying4 rfl w, by rw [run_equalIn_bool w 9998 _ _ _ Tryz.underlying4]; simp⟩
    · exact ⟨.bool e5, part_bool Tryz.underlying4 rfl w, by rw [run_equalIn_bool w 9998 _ _ _ Tryz.underlying4]; simp⟩)
  rw [run_eql_struct, show (10000 : Nat) = 9999 + 1 from rfl, hE]
  rfl
theorem guard6 : Tryz.prog.eqGuardType Tryz.prog.depth 59 = false ∧ Tryz.prog.eqGuardType Tryz.prog.depth 61 = false := ⟨by kernel_rfl, by kernel_rfl⟩
theorem told_row_at {W : World} {B : Nat} {g : Nat → Nat → List Nat × Int} {sl : Nat → Bool} {tr : Nat → Nat} (h : Blk W B (toldL (toldG g sl tr)).toArray TT) (i : Nat) (hi : i < 3) : (∀ j, j < 6 → W.cell? ⟨B, i * 6 + j, none⟩ = some (.string (bstr (g i j).1))) ∧ (∀ j, j < 6 → W.cell? ⟨B, 18 + i * 6 + j, none⟩ = some (.bool (decide ((g i j).2 = 0)))) ∧ W.cell? ⟨B, 36 + i, none⟩ = some (.bool (sl i)) ∧ W.cell? ⟨B, 39 + i, none⟩ = some (.int .i64 ((tr i : Nat) : Int)) := by
  refine ⟨fun j hj => ?_, fun j hj => ?_, ?_, ?_⟩
  · rw [h.cell, List.getElem?_toArray, toldL_at _ _ (by omega), cellT_dat _ i j hi hj]; rfl
  · rw [h.cell, List.getElem?_toArray, toldL_at _ _ (by omega), cellT_there _ i j hi hj]; rfl
  · rw [h.cell, List.getElem?_toArray, toldL_at _ _ (by omega), cellT_sealed _ i hi]; rfl
  · rw [h.cell, List.getElem?_toArray, toldL_at _ _ (by omega), cellT_trim]; rfl
/-- What is compared in the end. -/
theorem apart_facts {w : World} {S T i bA bB : Nat} {s t : SSt} (hi : i < 3) (hA : Alike i s t) : ∃ (d0 d1 d2 d3 d4 d5 : ByteArray) (e0 e1 e2 e3 e4 e5 se : Bool) (tr : Nat), ∀ W, KT w W S T s t [(bB, (toldL (toldOf t)).toArray, TT), (bA, (toldL (toldOf s)).toArray, TT)] → W.cell? ⟨bA, i * 6, none⟩ = some (.string d0) ∧ W.cell? ⟨bA, i * 6 + 1, none⟩ = some (.string d1) ∧ W.cell? ⟨bA, i * 6 + 2, none⟩ = some (.string d2) ∧ W.cell? ⟨bA, i * 6 + 3, none⟩ = some (.string d3) ∧ W.cell? ⟨bA, i * 6 + 4, none⟩ = some (.string d4) ∧ W.cell? ⟨bA, i * 6 + 5, none⟩ = some (.string d5) ∧ W.cell? ⟨bA, 18 + i * 6, none⟩ = some (.bool e0) ∧ W.cell? ⟨bA, 18 + i * 6 + 1, none⟩ = some (.bool e1) ∧ W.cell? ⟨bA, 18 + i * 6 + 2, none⟩ = some (.bool e2) ∧ W.cell? ⟨bA, 18 + i * 6 + 3, none⟩ = some (.bool e3) ∧ W.cell? ⟨bA, 18 + i * 6 + 4, none⟩ = some (.bool e4) ∧ W.cell? ⟨bA, 18 + i * 6 + 5, none⟩ = some (.bool e5) ∧ W.cell? ⟨bA, 36 + i, none⟩ = some (.bool se) ∧ W.cell? ⟨bA, 39 + i, none⟩ = some (.int .i64 (tr : Int)) ∧ W.cell? ⟨bB, i * 6, none⟩ = some (.string d0) ∧ W.cell? ⟨bB, i * 6 + 1, none⟩ = some (.string d1) ∧ W.cell? ⟨bB, i * 6 + 2, none⟩ = some (.string d2) ∧ W.cell? ⟨bB, i * 6 + 3, none⟩ = some (.string d3) ∧ W.cell? ⟨bB, i * 6 + 4, none⟩ = some (.string d4) ∧ W.cell? ⟨bB, i * 6 + 5, none⟩ = some (.string d5) ∧ W.cell? ⟨bB, 18 + i * 6, none⟩ = some (.bool e0) ∧ W.cell? ⟨bB, 18 + i * 6 + 1, none⟩ = some (.bool e1) ∧ W.cell? ⟨bB, 18 + i * 6 + 2, none⟩ = some (.bool e2) ∧ W.cell? ⟨bB, 18 + i * 6 + 3, none⟩ = some (.bool e3) ∧ W.cell? ⟨bB, 18 + i * 6 + 4, none⟩ = some (.bool e4) ∧ W.cell? ⟨bB, 18 + i * 6 + 5, none⟩ = some (.bool e5) ∧ W.cell? ⟨bB, 36 + i, none⟩ = some (.bool se) ∧ W.cell? ⟨bB, 39 + i, none⟩ = some (.int .i64 (tr : Int)) := by
  refine ⟨bstr (getF t i 0).1, bstr (getF t i 1).1, bstr (getF t i 2).1, bstr (getF t i 3).1, bstr (getF t i 4).1, bstr (getF t i 5).1, decide ((getF t i 0).2 = 0), decide ((getF t i 1).2 = 0), decide ((getF t i 2).2 = 0), decide ((getF t i 3).2 = 0), decide ((getF t i 4).2 = 0), decide ((getF t i 5).2 = 0), (t.log i).sealed, (t.log i).trim, fun W hK => ?_⟩
  have hb := hK.box _ List.mem_cons_self
  have ha := hK.box _ (List.mem_cons_of_mem _ List.mem_cons_self)
  unfold toldOf at ha hb
  obtain ⟨b1, b2, b3, b4⟩ := told_row_at hb i hi
  obtain ⟨a1, a2, a3, a4⟩ := told_row_at ha i hi
  simp only at a1 a2 a3 a4 b1 b2 b3 b4
  rw [hA.log] at a3 a4
  have g := fun j hj => hA.get hi j hj
  refine ⟨(a1 0 (by omega)).trans (by rw [g 0 (by omega)]), (a1 1 (by omega)).trans (by rw [g 1 (by omega)]), (a1 2 (by omega)).trans (by rw [g 2 (by omega)]), (a1 3 (by omega)).trans (by rw [g 3 (by omega)]), (a1 4 (by omega)).trans (by rw [g 4 (by omega)]), (a1 5 (by omega)).trans (by rw [g 5 (by omega)]), (a2 0 (by omega)).trans (by rw [g 0 (by omega)]), (a2 1 (by omega)).trans (by rw [g 1 (by omega)]), (a2 2 (by omega)).trans (by rw [g 2 (by omega)]), (a2 3 (by omega)).trans (by rw [g 3 (by omega)]), (a2 4 (by omega)).trans (by rw [g 4 (by omega)]), (a2 5 (by omega)).trans (by rw [g 5 (by omega)]), a3, a4, b1 0 (by omega), b1 1 (by omega), b1 2 (by omega), b1 3 (by omega), b1 4 (by omega), b1 5 (by omega), b2 0 (by omega), b2 1 (by omega), b2 2 (by omega), b2 3 (by omega), b2 4 (by omega), b2 5 (by omega), b3, b4⟩
set_option maxRecDepth 100000 in
set_option maxHeartbeats 16000000 in
theorem apart_walk (ad : Option Addr) (len cap : Nat) (f : Nat → OpS) (id : Int) (w : World) (ho : OpsS w f ad len) :
    Calls Tryz.prog 7 #[.slice ad len cap, .int .i64 id] w fun e w' => e = .returned (.bool true) ∧ Below w.heap.size w w' := by
  obtain ⟨i, li, ei, fi, gi⟩ := modS id 3 (by omega)
  have ti := tmodS id 3 (by omega)
  simp only [Int.cast_ofNat_Int] at ei fi gi ti
  have wi : IntKind.i64.wrap (id.tmod 3 + 3) = id.tmod 3 + 3 := by rw [IntKind.wrap_i64]; omega
  have hnew := new_ok 200 w (by omega) (by omega)
  have HN2 : Hid (∀ (w1 : World) (F : List Nat) (D : Nat), Dk w1 F D (newD (200 : Int).toNat) → (∀ g ∈ F, w.heap.size ≤ g) → Below w.heap.size w w1 → Calls Tryz.prog 23 #[.int .i64 200] w1 fun x w2 => ∃ C, x = .returned (.tuple #[.pointer (some ⟨C, 0, none⟩), .int .i64 0]) ∧ Hid (Two2 w w2 D C 200)) := hide (fun w1 F D hd hF hb => by
    refine (new_ok 200 w1 (by omega) (by omega)).mono ?_
    rintro x w2 ⟨G, C, rfl, hc, hG, hb2⟩
    exact ⟨C, rfl, hide (Two2.make hd hF hb hc hG hb2)⟩)
  have HLS : Hid (∀ (W : World) (S T : Nat) (s t : SSt) (X : List BxS), KT w W S T s t X → Calls Tryz.prog 28 #[.pointer (some ⟨S, 0, none⟩)] W fun x w' => x = .returned (.tuple #[.agg (toldL (toldOf s)).toArray, .bool true]) ∧ Hid (KT w w' S T s t X)) := hide (fun W S T s t X hK => (look_any hK.saS).mono fun x w' hx => ⟨hx.1, hide (hK.later hx.2)⟩)
  have HLT : Hid (∀ (W : World) (S T : Nat) (s t : SSt) (X : List BxS), KT w W S T s t X → Calls Tryz.prog 28 #[.pointer (some ⟨T, 0, none⟩)] W fun x w' => x = .returned (.tuple #[.agg (toldL (toldOf t)).toArray, .bool true]) ∧ Hid (KT w w' S T s t X)) := hide (fun W S T s t X hK => (look_any hK.saT).mono fun x w' hx => ⟨hx.1, hide (hK.later hx.2)⟩)
  have HO : Hid (OpsS w f ad len) := hide ho
  clear ho
  go_enter Tryz.func7, Tryz.ntmps7
  go_wp2_with (first
    | (go_at_call 23; (with_reducible_and_instances (refine hnew.mono ?_)); rintro e w1 ⟨F, D, rfl, hd, hF, hb⟩; have HN3 := hide (HN2.out w1 F D hd hF hb); clear hd hF hb hnew HN2)
    | (go_at_call 23; (with_reducible_and_instances (refine HN3.out.mono ?_)); rintro e w2 ⟨C, rfl, T2⟩; have HO1 := hide T2.out.open; clear HN3 T2)
    | (go_at_call 12; (with_reducible_and_instances (refine HO1.out.mono ?_)); rintro e w3 ⟨S, rfl, H3⟩; have HO2 := hide H3.out.open; clear HO1 H3)
    | (go_at_call 12; (with_reducible_and_instances (refine HO2.out.mono ?_)); rintro e w4 ⟨T, rfl, K4⟩; clear HO2)
    | (go_at_call 13; refine (num4_any _ _).mono ?_; rintro e w' ⟨rfl, hw'⟩; obtain rfl := hw'.symm)
    | (go_at_call 9; refine (knows4 _).mono ?_; rintro e w5 ⟨rfl, b5⟩; have K5 : Hid (Apt w S T i w5) := hide ⟨_, _, alike0 i 200, K4.out.later b5⟩; clear b5 K4))
  go_loopw [13] (fun j wr => ∃ m : Nat, m ≤ len ∧ m ≤ 60 ∧ j = .int .i64 m ∧ Hid (Apt w S T i wr)) (fun j _ => len - (intOf j).toNat)
  case atStart => exact ⟨0, by omega, by omega, rfl, K5⟩
  case round =>
    obtain ⟨m, hm, hm60, rfl, HI⟩ := hrel
    clear K5
    by_cases hin : m < len ∧ m < 60
    · obtain ⟨hlt, h60⟩ := hin
      obtain ⟨s, t, hA, hK⟩ := HI.out
      obtain ⟨b, off, rfl, hbb, hall⟩ := HO.out.resolve_left (by omega)
      obtain ⟨hcell, hok⟩ := hall m hlt
      obtain ⟨o, hfo⟩ : ∃ o, f m = o := ⟨_, rfl⟩
      rw [hfo] at hcell hok
      have hbl := hK.below
      have qc := fun j (hj : j < 8) => (hbl.cell (p := ⟨b, off + m * 8 + j, none⟩) hbb).trans (hcell j hj)
      obtain ⟨k, l, p, n, rep, ⟨ba, bl, bc, bs⟩, size, la, ll, lc⟩ := o
      have q0 := qc 0 (by omega)
      have q1 := qc 1 (by omega)
      have q2 := qc 2 (by omega)
      have q3 := qc 3 (by omega)
      have q4 := qc 4 (by omega)
      have q5 := qc 5 (by omega)
      have q6 := qc 6 (by omega)
      have q7 := qc 7 (by omega)
      simp only [opS, List.getElem?_toArray, List.getElem?_cons_zero, List.getElem?_cons_succ, Nat.add_zero] at q0 q1 q2 q3 q4 q5 q6 q7
      have K6 : Hid (KT w (wr.alloc (.cells #[.int .i64 k, .int .i64 l, .int .i64 p, .int .i64 n, .bool rep, .slice ba bl bc, .int .i64 (size.tmod 500), .slice la ll lc] TO5)) S T s t [(wr.heap.size, #[.int .i64 k, .int .i64 l, .int .i64 p, .int .i64 n, .bool rep, .slice ba bl bc, .int .i64 (size.tmod 500), .slice la ll lc], TO5)]) := hide (hK.alloc _ _)
      obtain ⟨L, P, data, lL, lP, eL, fL, gL, HC⟩ := call_fn ⟨k, l, p, n, rep, ⟨ba, bl, bc, bs⟩, size.tmod 500, la, ll, lc⟩
      have hok6 : OpS.ok ⟨k, l, p, n, rep, ⟨ba, bl, bc, bs⟩, size.tmod 500, la, ll, lc⟩ (wr.alloc (.cells #[.int .i64 k, .int .i64 l, .int .i64 p, .int .i64 n, .bool rep, .slice ba bl bc, .int .i64 (size.tmod 500), .slice la ll lc] TO5)) := ⟨hok.text.later K6.out.below, hok.cap, hok.big⟩
      have HAl := hide hA
      have HIW : Hid (Apt w S T i (wr.alloc (.cells #[.int .i64 k, .int .i64 l, .int .i64 p, .int .i64 n, .bool rep, .slice ba bl bc, .int .i64 (size.tmod 500), .slice la ll lc] TO5))) := hide ⟨s, t, hA, K6.out.sub (fun y hy => by cases hy)⟩
      have tl := tmodS l 3 (by omega)
      have wl : IntKind.i64.wrap (l.tmod 3 + 3) = l.tmod 3 + 3 := by rw [IntKind.wrap_i64]; omega
      unfold opS at HC
      simp only at HC eL fL gL
      have HCS := hide (K6.out.movS (v := .agg #[.int .i64 k, .int .i64 l, .int .i64 p, .int .i64 n, .bool rep, .slice ba bl bc, .int .i64 (size.tmod 500), .slice la ll lc]) (fun F hu => HC _ F S s hu hok6))
      have HOK : Hid (∀ W, Below w.heap.size w W → OpS.ok ⟨k, l, p, n, rep, ⟨ba, bl, bc, bs⟩, size.tmod 500, la, ll, lc⟩ W) := hide (fun W hW => ⟨hok.text.later hW, hok.cap, hok.big⟩)
      have HCC := hide HC
      clear hcell hok hfo hall hK hbl qc HI HO hok6 hA HC
      by_cases k2 : 2 < k
      · have k2d : decide ((2 : Int) < k) = true := decide_eq_true k2
        as_aux_lemma =>
          go_wp2_with fail
          go_roundw
          case rel => exact ⟨m + 1, by omega, by omega, rfl, HIW⟩
          case measure => simp [intOf]; omega
      · have k2d : decide ((2 : Int) < k) = false := decide_eq_false k2
        by_cases k0 : k < 0
        · have k0d : decide (k < 0) = true := decide_eq_true k0
          as_aux_lemma =>
            go_wp2_with fail
            go_roundw
            case rel => exact ⟨m + 1, by omega, by omega, rfl, HIW⟩
            case measure => simp [intOf]; omega
        · have k0d : decide (k < 0) = false := decide_eq_false k0
          generalize hrs : callN s L P k data rep = rs at *
          by_cases hL : L = i
          · subst hL
            as_aux_lemma =>
              have hLd : ((L : Int) == (L : Int)) = true := by simp
              have hbt := HAl.out.both P k data rep
              rw [hrs] at hbt
              generalize hrt : callN t L P k data rep = rt at *
              have HBT := hide hbt
              clear hbt
              go_upto_region 15 with (first
                | (go_at_call 26; (with_reducible_and_instances (refine HCS.out.mono ?_)); rintro x w8 ⟨rfl, K8⟩; have z0 := (K8.out.box _ List.mem_cons_self).cell 0; have z1 := (K8.out.box _ List.mem_cons_self).cell 1; have z2 := (K8.out.box _ List.mem_cons_self).cell 2; have z3 := (K8.out.box _ List.mem_cons_self).cell 3; have z4 := (K8.out.box _ List.mem_cons_self).cell 4; have z5 := (K8.out.box _ List.mem_cons_self).cell 5; have z6 := (K8.out.box _ List.mem_cons_self).cell 6; have z7 := (K8.out.box _ List.mem_cons_self).cell 7; simp only [List.getElem?_toArray, List.getElem?_cons_zero, List.getElem?_cons_succ] at z0 z1 z2 z3 z4 z5 z6 z7; clear HCS))
              have HCT : Hid (Calls Tryz.prog 26 #[.pointer (some ⟨T, 0, none⟩), .agg #[.int .i64 k, .int .i64 l, .int .i64 p, .int .i64 n, .bool rep, .slice ba bl bc, .int .i64 (size.tmod 500), .slice la ll lc]] w8 fun x w' => x = .returned (.int .i64 rt.1) ∧ Hid (KT w w' T S rt.2 rs.2 [(wr.heap.size, #[.int .i64 k, .int .i64 l, .int .i64 p, .int .i64 n, .bool rep, .slice ba bl bc, .int .i64 (size.tmod 500), .slice la ll lc], TO5)])) := hide (by have h := K8.out.swap.movS (v := .agg #[.int .i64 k, .int .i64 l, .int .i64 p, .int .i64 n, .bool rep, .slice ba bl bc, .int .i64 (size.tmod 500), .slice la ll lc]) (fun F hu => HCC.out _ F T t hu (HOK.out _ K8.out.below)); rw [hrt] at h; exact h)
              rcases HBT.out with ⟨hq, hal⟩ | ⟨h7, h0⟩
              · have hq' : (rt.1 != rs.1) = false := by simp [hq]
                go_wp2_with (first
                  | (go_at_call 26; (with_reducible_and_instances (refine HCT.out.mono ?_)); rintro x w9 ⟨rfl, K9⟩; clear HCT))
                go_roundw
                case rel => exact ⟨m + 1, by omega, by omega, rfl, hide ⟨_, _, hal, K9.out.swap.sub (fun y hy => by cases hy)⟩⟩
                case measure => simp [intOf]; omega
              · rw [h7]
                rw [h0] at HCT
                go_wp2_with (first
                  | (go_at_call 26; (with_reducible_and_instances (refine HCT.out.mono ?_)); rintro x w9 ⟨rfl, K9⟩; clear HCT))
                go_ret
                exact ⟨rfl, K9.out.below⟩
          · have hLd : ((L : Int) == (i : Int)) = false := by simp; omega
            as_aux_lemma =>
              go_wp2_with (first
                | (go_at_call 26; (with_reducible_and_instances (refine HCS.out.mono ?_)); rintro x w8 ⟨rfl, K8⟩; have z1 := (K8.out.box _ List.mem_cons_self).cell 1; simp only [List.getElem?_toArray, List.getElem?_cons_zero, List.getElem?_cons_succ] at z1; clear HCS))
              go_roundw
              case rel => exact ⟨m + 1, by omega, by omega, rfl, hide ⟨_, _, by have h := HAl.out.other hL P k data rep; rw [hrs] at h; exact h, K8.out.sub (fun y hy => by cases hy)⟩⟩
              case measure => simp [intOf]; omega
    · have HEnd := HI
      by_cases h1 : m < len
      · obtain rfl : m = 60 := by omega
        as_aux_lemma =>
          obtain ⟨s, t, hA, hK⟩ := HEnd.out
          have KH := hide hK
          have HAl := hide hA
          have HL1 := hide (HLS.out _ S T s t [] hK)
          clear hK hA HEnd HI HO
          go_upto_region 19 with (first
            | (go_at_call 28; (with_reducible_and_instances (refine HL1.out.mono ?_)); rintro x w6 ⟨rfl, K6⟩; have K7 := hide (K6.out.alloc (toldL (toldOf s)).toArray TT); have HL2 := hide (HLT.out _ S T s t _ K7.out); clear HL1 K6 KH)
            | (go_at_call 28; (with_reducible_and_instances (refine HL2.out.mono ?_)); rintro x w8 ⟨rfl, K8⟩; have K9 := hide (K8.out.alloc (toldL (toldOf t)).toArray TT); clear HL2 K8 K7)
            | (refine store_new (w0 := w8) rfl TT _ _ rfl (toldL (toldOf t)) (sizeT _) rfl rfl TT zT rfl (by rw [toldL_len]; rfl) (toldL_one _) ?_)
            | (refine store_new (w0 := w6) rfl TT _ _ rfl (toldL (toldOf s)) (sizeT _) rfl rfl TT zT rfl (by rw [toldL_len]; rfl) (toldL_one _) ?_))
          have li1 : (0 : Int) ≤ (i : Int) := by omega
          have li2 : (i : Int) < 3 := by omega
          have li4 : (i : Int) ≤ 2 := by omega
          have li5 : (i : Int) ≤ 3 := by omega
          have li3 : decide ((i : Int) < 3) = true := decide_eq_true li2
          have li6 : ¬ (i : Int) < 0 := by omega
          generalize w6.heap.size = bA at *
          generalize hbB : w8.heap.size = bB at *
          obtain ⟨W9, hW9⟩ : ∃ W9, w8.alloc (.cells (toldL (toldOf t)).toArray TT) = W9 := ⟨_, rfl⟩
          rw [hW9] at K9 ⊢
          obtain ⟨d0, d1, d2, d3, d4, d5, e0, e1, e2, e3, e4, e5, se, tr, HFs⟩ := apart_facts (w := w) (S := S) (T := T) (bA := bA) (bB := bB) li HAl.out
          have HF := hide HFs
          have K10 : Hid (KT w W9.drew S T s t [(bB, (toldL (toldOf t)).toArray, TT), (bA, (toldL (toldOf s)).toArray, TT)]) := hide (K9.out.later (Below.refl _ _).drew)
          have HTL : Hid (∀ W, KT w W S T s t [(bB, (toldL (toldOf t)).toArray, TT), (bA, (toldL (toldOf s)).toArray, TT)] → (Calls Tryz.prog 18 #[.pointer (some ⟨S, 0, none⟩), .int .i64 (i : Int)] W fun x w' => x = .returned (.int .i64 ((t.log i).tail : Nat)) ∧ Hid (KT w w' S T s t [(bB, (toldL (toldOf t)).toArray, TT), (bA, (toldL (toldOf s)).toArray, TT)])) ∧ (Calls Tryz.prog 18 #[.pointer (some ⟨T, 0, none⟩), .int .i64 (i : Int)] W fun x w' => x = .returned (.int .i64 ((t.log i).tail : Nat)) ∧ Hid (KT w w' S T s t [(bB, (toldL (toldOf t)).toArray, TT), (bA, (toldL (toldOf s)).toArray, TT)]))) := hide (fun W hW => ⟨(hW.saS.tailC (i : Int) (by omega) (by omega)).mono (fun x w' hx => ⟨by rw [hx.1, look_nat', HAl.out.log], hide (hW.later hx.2)⟩), (hW.saT.tailC (i : Int) (by omega) (by omega)).mono (fun x w' hx => ⟨by rw [hx.1, look_nat'], hide (hW.later hx.2)⟩)⟩)
          have hqs := eq_str6 d0 d1 d2 d3 d4 d5
          have hqb := eq_bool6 e0 e1 e2 e3 e4 e5
          have hg1 := guard6.1
          have hg2 := guard6.2
          generalize (t.log i).tail = tl at *
          clear hW9 hbB HFs K9 HAl
          go_region_held3 (fun W => W.cell? ⟨bA, i * 6, none⟩ = some (.string d0) ∧ W.cell? ⟨bA, i * 6 + 1, none⟩ = some (.string d1) ∧ W.cell? ⟨bA, i * 6 + 2, none⟩ = some (.string d2) ∧ W.cell? ⟨bA, i * 6 + 3, none⟩ = some (.string d3) ∧ W.cell? ⟨bA, i * 6 + 4, none⟩ = some (.string d4) ∧ W.cell? ⟨bA, i * 6 + 5, none⟩ = some (.string d5) ∧ W.cell? ⟨bA, 18 + i * 6, none⟩ = some (.bool e0) ∧ W.cell? ⟨bA, 18 + i * 6 + 1, none⟩ = some (.bool e1) ∧ W.cell? ⟨bA, 18 + i * 6 + 2, none⟩ = some (.bool e2) ∧ W.cell? ⟨bA, 18 + i * 6 + 3, none⟩ = some (.bool e3) ∧ W.cell? ⟨bA, 18 + i * 6 + 4, none⟩ = some (.bool e4) ∧ W.cell? ⟨bA, 18 + i * 6 + 5, none⟩ = some (.bool e5) ∧ W.cell? ⟨bA, 36 + i, none⟩ = some (.bool se) ∧ W.cell? ⟨bA, 39 + i, none⟩ = some (.int .i64 (tr : Int)) ∧ W.cell? ⟨bB, i * 6, none⟩ = some (.string d0) ∧ W.cell? ⟨bB, i * 6 + 1, none⟩ = some (.string d1) ∧ W.cell? ⟨bB, i * 6 + 2, none⟩ = some (.string d2) ∧ W.cell? ⟨bB, i * 6 + 3, none⟩ = some (.string d3) ∧ W.cell? ⟨bB, i * 6 + 4, none⟩ = some (.string d4) ∧ W.cell? ⟨bB, i * 6 + 5, none⟩ = some (.string d5) ∧ W.cell? ⟨bB, 18 + i * 6, none⟩ = some (.bool e0) ∧ W.cell? ⟨bB, 18 + i * 6 + 1, none⟩ = some (.bool e1) ∧ W.cell? ⟨bB, 18 + i * 6 + 2, none⟩ = some (.bool e2) ∧ W.cell? ⟨bB, 18 + i * 6 + 3, none⟩ = some (.bool e3) ∧ W.cell? ⟨bB, 18 + i * 6 + 4, none⟩ = some (.bool e4) ∧ W.cell? ⟨bB, 18 + i * 6 + 5, none⟩ = some (.bool e5) ∧ W.cell? ⟨bB, 36 + i, none⟩ = some (.bool se) ∧ W.cell? ⟨bB, 39 + i, none⟩ = some (.int .i64 (tr : Int)))
            (first | (with_reducible exact HF.out _ K10.out) | (with_reducible exact HF.out _ K11.out) | (with_reducible exact HF.out _ K12.out))
            (first
              | (go_at_call 18; (with_reducible_and_instances (refine (HTL.out _ K10.out).1.mono ?_)); rintro x w11 ⟨rfl, K11⟩)
              | (go_at_call 18; (with_reducible_and_instances (refine (HTL.out _ K10.out).2.mono ?_)); rintro x w11 ⟨rfl, K11⟩)
              | (go_at_call 18; (with_reducible_and_instances (refine (HTL.out _ K11.out).1.mono ?_)); rintro x w12 ⟨rfl, K12⟩)
              | (go_at_call 18; (with_reducible_and_instances (refine (HTL.out _ K11.out).2.mono ?_)); rintro x w12 ⟨rfl, K12⟩))
          all_goals go_wp2_with fail
          all_goals go_ret
          all_goals exact ⟨by simp, K12.out.below⟩
      · obtain rfl : m = len := by omega
        as_aux_lemma =>
          obtain ⟨s, t, hA, hK⟩ := HEnd.out
          have KH := hide hK
          have HAl := hide hA
          have HL1 := hide (HLS.out _ S T s t [] hK)
          clear hK hA HEnd HI HO
          go_upto_region 19 with (first
            | (go_at_call 28; (with_reducible_and_instances (refine HL1.out.mono ?_)); rintro x w6 ⟨rfl, K6⟩; have K7 := hide (K6.out.alloc (toldL (toldOf s)).toArray TT); have HL2 := hide (HLT.out _ S T s t _ K7.out); clear HL1 K6 KH)
            | (go_at_call 28; (with_reducible_and_instances (refine HL2.out.mono ?_)); rintro x w8 ⟨rfl, K8⟩; have K9 := hide (K8.out.alloc (toldL (toldOf t)).toArray TT); clear HL2 K8 K7)
            | (refine store_new (w0 := w8) rfl TT _ _ rfl (toldL (toldOf t)) (sizeT _) rfl rfl TT zT rfl (by rw [toldL_len]; rfl) (toldL_one _) ?_)
            | (refine store_new (w0 := w6) rfl TT _ _ rfl (toldL (toldOf s)) (sizeT _) rfl rfl TT zT rfl (by rw [toldL_len]; rfl) (toldL_one _) ?_))
          have li1 : (0 : Int) ≤ (i : Int) := by omega
          have li2 : (i : Int) < 3 := by omega
          have li4 : (i : Int) ≤ 2 := by omega
          have li5 : (i : Int) ≤ 3 := by omega
          have li3 : decide ((i : Int) < 3) = true := decide_eq_true li2
          have li6 : ¬ (i : Int) < 0 := by omega
          generalize w6.heap.size = bA at *
          generalize hbB : w8.heap.size = bB at *
          obtain ⟨W9, hW9⟩ : ∃ W9, w8.alloc (.cells (toldL (toldOf t)).toArray TT) = W9 := ⟨_, rfl⟩
          rw [hW9] at K9 ⊢
          obtain ⟨d0, d1, d2, d3, d4, d5, e0, e1, e2, e3, e4, e5, se, tr, HFs⟩ := apart_facts (w := w) (S := S) (T := T) (bA := bA) (bB := bB) li HAl.out
          have HF := hide HFs
          have K10 : Hid (KT w W9.drew S T s t [(bB, (toldL (toldOf t)).toArray, TT), (bA, (toldL (toldOf s)).toArray, TT)]) := hide (K9.out.later (Below.refl _ _).drew)
          have HTL : Hid (∀ W, KT w W S T s t [(bB, (toldL (toldOf t)).toArray, TT), (bA, (toldL (toldOf s)).toArray, TT)] → (Calls Tryz.prog 18 #[.pointer (some ⟨S, 0, none⟩), .int .i64 (i : Int)] W fun x w' => x = .returned (.int .i64 ((t.log i).tail : Nat)) ∧ Hid (KT w w' S T s t [(bB, (toldL (toldOf t)).toArray, TT), (bA, (toldL (toldOf s)).toArray, TT)])) ∧ (Calls Tryz.prog 18 #[.pointer (some ⟨T, 0, none⟩), .int .i64 (i : Int)] W fun x w' => x = .returned (.int .i64 ((t.log i).tail : Nat)) ∧ Hid (KT w w' S T s t [(bB, (toldL (toldOf t)).toArray, TT), (bA, (toldL (toldOf s)).toArray, TT)]))) := hide (fun W hW => ⟨(hW.saS.tailC (i : Int) (by omega) (by omega)).mono (fun x w' hx => ⟨by rw [hx.1, look_nat', HAl.out.log], hide (hW.later hx.2)⟩), (hW.saT.tailC (i : Int) (by omega) (by omega)).mono (fun x w' hx => ⟨by rw [hx.1, look_nat'], hide (hW.later hx.2)⟩)⟩)
          have hqs := eq_str6 d0 d1 d2 d3 d4 d5
          have hqb := eq_bool6 e0 e1 e2 e3 e4 e5
          have hg1 := guard6.1
          have hg2 := guard6.2
          generalize (t.log i).tail = tl at *
          clear hW9 hbB HFs K9 HAl
          go_region_held3 (fun W => W.cell? ⟨bA, i * 6, none⟩ = some (.string d0) ∧ W.cell? ⟨bA, i * 6 + 1, none⟩ = some (.string d1) ∧ W.cell? ⟨bA, i * 6 + 2, none⟩ = some (.string d2) ∧ W.cell? ⟨bA, i * 6 + 3, none⟩ = some (.string d3) ∧ W.cell? ⟨bA, i * 6 + 4, none⟩ = some (.string d4) ∧ W.cell? ⟨bA, i * 6 + 5, none⟩ = some (.string d5) ∧ W.cell? ⟨bA, 18 + i * 6, none⟩ = some (.bool e0) ∧ W.cell? ⟨bA, 18 + i * 6 + 1, none⟩ = some (.bool e1) ∧ W.cell? ⟨bA, 18 + i * 6 + 2, none⟩ = some (.bool e2) ∧ W.cell? ⟨bA, 18 + i * 6 + 3, none⟩ = some (.bool e3) ∧ W.cell? ⟨bA, 18 + i * 6 + 4, none⟩ = some (.bool e4) ∧ W.cell? ⟨bA, 18 + i * 6 + 5, none⟩ = some (.bool e5) ∧ W.cell? ⟨bA, 36 + i, none⟩ = some (.bool se) ∧ W.cell? ⟨bA, 39 + i, none⟩ = some (.int .i64 (tr : Int)) ∧ W.cell? ⟨bB, i * 6, none⟩ = some (.string d0) ∧ W.cell? ⟨bB, i * 6 + 1, none⟩ = some (.string d1) ∧ W.cell? ⟨bB, i * 6 + 2, none⟩ = some (.string d2) ∧ W.cell? ⟨bB, i * 6 + 3, none⟩ = some (.string d3) ∧ W.cell? ⟨bB, i * 6 + 4, none⟩ = some (.string d4) ∧ W.cell? ⟨bB, i * 6 + 5, none⟩ = some (.string d5) ∧ W.cell? ⟨bB, 18 + i * 6, none⟩ = some (.bool e0) ∧ W.cell? ⟨bB, 18 + i * 6 + 1, none⟩ = some (.bool e1) ∧ W.cell? ⟨bB, 18 + i * 6 + 2, none⟩ = some (.bool e2) ∧ W.cell? ⟨bB, 18 + i * 6 + 3, none⟩ = some (.bool e3) ∧ W.cell? ⟨bB, 18 + i * 6 + 4, none⟩ = some (.bool e4) ∧ W.cell? ⟨bB, 18 + i * 6 + 5, none⟩ = some (.bool e5) ∧ W.cell? ⟨bB, 36 + i, none⟩ = some (.bool se) ∧ W.cell? ⟨bB, 39 + i, none⟩ = some (.int .i64 (tr : Int)))
            (first | (with_reducible exact HF.out _ K10.out) | (with_reducible exact HF.out _ K11.out) | (with_reducible exact HF.out _ K12.out))
            (first
              | (go_at_call 18; (with_reducible_and_instances (refine (HTL.out _ K10.out).1.mono ?_)); rintro x w11 ⟨rfl, K11⟩)
              | (go_at_call 18; (with_reducible_and_instances (refine (HTL.out _ K10.out).2.mono ?_)); rintro x w11 ⟨rfl, K11⟩)
              | (go_at_call 18; (with_reducible_and_instances (refine (HTL.out _ K11.out).1.mono ?_)); rintro x w12 ⟨rfl, K12⟩)
              | (go_at_call 18; (with_reducible_and_instances (refine (HTL.out _ K11.out).2.mono ?_)); rintro x w12 ⟨rfl, K12⟩))
          all_goals go_wp2_with fail
          all_goals go_ret
          all_goals exact ⟨by simp, K12.out.below⟩
end Go.Proofs.YtikomnbhmmjfnaaGreat
