/- StoreOnce, walked (written by wip/genonce.py). -/
import Derived.Test.YtikomnbhmmjfnaaGreatSToldEq
import Derived.Test.YtikomnbhmmjfnaaGreatSOps4
import Derived.BigQuiet
import Derived.Deep.DeepCutAuto
namespace Go.Proofs.YtikomnbhmmjfnaaGreat
open Go.RowKit Go.Shelf Crcm

abbrev TO4 : TypeId := 31
/-- The store and what was told of it, between two rounds. -/
def Onc (w : World) (S bw : Nat) (wr : World) : Prop := ∃ s, KS w wr S s [(bw, (toldL (toldOf s)).toArray, TT)]
theorem told_cells {W : World} {B : Nat} {t : Tld} (h : Blk W B (toldL t).toArray TT) (a b : Nat) (ha : a < 3) (hb : b < 6) : W.cell? ⟨B, 18 + a * 6 + b, none⟩ = some (.bool (t.there a b)) ∧ W.cell? ⟨B, a * 6 + b, none⟩ = some (.string (bstr (t.dat a b))) ∧ W.cell? ⟨B, 36 + a, none⟩ = some (.bool (t.sealed a)) ∧ W.cell? ⟨B, 39 + a, none⟩ = some (.int .i64 ((t.trim a : Nat) : Int)) := by
  refine ⟨?_, ?_, ?_, ?_⟩
  · rw [h.cell, List.getElem?_toArray, toldL_at _ _ (by omega), cellT_there _ a b ha hb]
  · rw [h.cell, List.getElem?_toArray, toldL_at _ _ (by omega), cellT_dat _ a b ha hb]
  · rw [h.cell, List.getElem?_toArray, toldL_at _ _ (by omega), cellT_sealed _ a ha]
  · rw [h.cell, List.getElem?_toArray, toldL_at _ _ (by omega), cellT_trim]
theorem toldG_there (g : Nat → Nat → List Nat × Int) (sl : Nat → Bool) (tr : Nat → Nat) (a b : Nat) : (toldG g sl tr).there a b = decide ((g a b).2 = 0) := rfl
theorem toldG_dat (g : Nat → Nat → List Nat × Int) (sl : Nat → Bool) (tr : Nat → Nat) (a b : Nat) : (toldG g sl tr).dat a b = (g a b).1 := rfl
theorem toldG_sealed (g : Nat → Nat → List Nat × Int) (sl : Nat → Bool) (tr : Nat → Nat) (a : Nat) : (toldG g sl tr).sealed a = sl a := rfl
theorem toldG_trim (g : Nat → Nat → List Nat × Int) (sl : Nat → Bool) (tr : Nat → Nat) (a : Nat) : (toldG g sl tr).trim a = tr a := rfl
theorem dec_true {z : Int} (h : decide (z = 0) = true) : z = 0 := of_decide_eq_true h
theorem dec_false {z : Int} (h : decide (z = 0) = false) : z ≠ 0 := of_decide_eq_false h
/-- What two tables say of one place, as the statement compares them. -/
structure OF (W : World) (bw bn a b : Nat) (rep T U se sn : Bool) (tw tn : ByteArray) (iw it : Nat) : Prop where
  c1 : W.cell? ⟨bw, 18 + a * 6 + b, none⟩ = some (.bool T)
  c2 : W.cell? ⟨bn, 18 + a * 6 + b, none⟩ = some (.bool U)
  c3 : W.cell? ⟨bw, a * 6 + b, none⟩ = some (.string tw)
  c4 : W.cell? ⟨bn, a * 6 + b, none⟩ = some (.string tn)
  c5 : W.cell? ⟨bw, 36 + a, none⟩ = some (.bool se)
  c6 : W.cell? ⟨bn, 36 + a, none⟩ = some (.bool sn)
  c7 : W.cell? ⟨bw, 39 + a, none⟩ = some (.int .i64 (iw : Int))
  c8 : W.cell? ⟨bn, 39 + a, none⟩ = some (.int .i64 (it : Int))
  same : T = true → U = true → tw = tn
  gone : T = true → U = false → b < it
  shut : se = true → rep = false → T = false → U = false
  ends : se = true → sn = true
  trim : iw ≤ it
theorem once_facts {W : World} {bw bn : Nat} {s t : SSt} {rep : Bool} (hg : Goes rep s t) (hw : Blk W bw (toldL (toldOf s)).toArray TT) (hn : Blk W bn (toldL (toldOf t)).toArray TT) (a b : Nat) (ha : a < 3) (hb : b < 6) : ∃ T U se sn tw tn iw it, OF W bw bn a b rep T U se sn tw tn iw it := by
  have g1 := hg.same a b ha hb
  have g2 := hg.gone a b ha hb
  have g3 := hg.shut a b ha hb
  have g4 := hg.ends a ha
  have g5 := hg.trim a ha
  unfold toldOf at hw hn
  obtain ⟨w1, w2, w3, w4⟩ := told_cells hw a b ha hb
  obtain ⟨n1, n2, n3, n4⟩ := told_cells hn a b ha hb
  rw [toldG_there] at w1 n1
  rw [toldG_dat] at w2 n2
  rw [toldG_sealed] at w3 n3
  rw [toldG_trim] at w4 n4
  clear hw hn hg
  generalize getF s a b = x at *
  generalize getF t a b = y at *
  refine ⟨_, _, _, _, _, _, _, _, ⟨w1, n1, w2, n2, w3, n3, w4, n4, fun h1 h2 => ?_, fun h1 h2 => ?_, fun h1 h2 h3 => ?_, g4, g5⟩⟩
  · exact congrArg bstr (g1 (dec_true h1) (dec_true h2))
  · exact g2 (dec_true h1) (dec_false h2)
  · exact decide_eq_false (g3 h1 h2 (dec_false h3))
theorem KS.drewN {w0 w : World} {S : Nat} {s : SSt} {X : List BxS} (h : KS w0 w S s X) (n : Nat) : KS w0 (w.drewN n) S s X := h.later (below_drewN' (Below.refl _ _) n)
set_option maxRecDepth 100000 in
set_option maxHeartbeats 16000000 in
theorem once_walk (blocks : Int) (ad : Option Addr) (len cap : Nat) (f : Nat → OpS) (w : World) (ho : OpsS w f ad len) (hmax : len ≤ maxLen) :
    Calls Tryz.prog 6 #[.int .i64 blocks, .slice ad len cap] w fun e w' => e = .returned (.bool true) ∧ Below w.heap.size w w' := by
  have hm63 : len ≤ 9223372036854775807 := by unfold maxLen at hmax; omega
  clear hmax
  obtain ⟨N, lN, eN, fN, gN⟩ := modS blocks 60 (by omega)
  have tN := tmodS blocks 60 (by omega)
  simp only [Int.cast_ofNat_Int] at eN fN gN tN
  have wN : IntKind.i64.wrap (blocks.tmod 60 + 60) = blocks.tmod 60 + 60 := by rw [IntKind.wrap_i64]; omega
  have hnew := new_ok (2 + (N : Int)) w (by omega) (by omega)
  have HOp : Hid (∀ (w1 : World) (F : List Nat) (D : Nat), Dk w1 F D (newD (2 + (N : Int)).toNat) → (∀ g ∈ F, w.heap.size ≤ g) → Below w.heap.size w w1 → Calls Tryz.prog 12 #[.pointer (some ⟨D, 0, none⟩)] w1 fun x w2 => ∃ S, x = .returned (.tuple #[.pointer (some ⟨S, 0, none⟩), .int .i64 0]) ∧ Hid (KS w w2 S (sst0 (newD (2 + (N : Int)).toNat)) [])) := hide (fun w1 F D hd hF hb => KS.make hd hF hb)
  have HLK : Hid (∀ (W : World) (S : Nat) (s : SSt) (X : List BxS), KS w W S s X → Calls Tryz.prog 28 #[.pointer (some ⟨S, 0, none⟩)] W fun x w' => x = .returned (.tuple #[.agg (toldL (toldOf s)).toArray, .bool true]) ∧ Hid (KS w w' S s X)) := hide (fun W S s X hK => (look_any hK.sa).mono fun x w' hx => ⟨hx.1, hide (hK.later hx.2)⟩)
  have HO : Hid (OpsS w f ad len) := hide ho
  clear ho
  go_enter Tryz.func6, Tryz.ntmps6
  go_wp2_with (first
    | (go_at_call 23; refine hnew.mono ?_; rintro e w1 ⟨F, D, rfl, hd, hF, hb⟩; have HO1 := hide (HOp.out w1 F D hd hF hb); clear hd hF hb hnew)
    | (go_at_call 12; (with_reducible_and_instances (refine HO1.out.mono ?_)); rintro e w2 ⟨S, rfl, K2⟩; clear HO1 HOp)
    | (go_at_call 13; refine (num4_any _ _).mono ?_; rintro e w' ⟨rfl, hw'⟩; obtain rfl := hw'.symm)
    | (go_at_call 9; refine (knows4 _).mono ?_; rintro e w3 ⟨rfl, b3⟩; have K3 := hide (K2.out.later b3); have HL3 := hide (HLK.out _ _ _ _ K3.out); clear b3 K2)
    | (go_at_call 28; (with_reducible_and_instances (refine HL3.out.mono ?_)); rintro e w4 ⟨rfl, K4⟩; have K5 : Hid (Onc w S w4.heap.size (w4.alloc (.cells (toldL (toldOf (sst0 (newD (2 + (N : Int)).toNat)))).toArray TT))) := hide ⟨_, K4.out.alloc _ _⟩; clear K3 HL3)
    | (refine store_new (w0 := w4) rfl TT _ _ rfl (toldL (toldOf (sst0 (newD (2 + (N : Int)).toNat)))) (sizeT _) rfl rfl TT zT rfl (by rw [toldL_len]; rfl) (toldL_one _) ?_))
  generalize w4.heap.size = bw at *
  clear K4 eN fN gN tN wN lN
  go_loopw [10, 11] (fun ok i wr => ∃ m : Nat, m ≤ len ∧ ok = .bool true ∧ i = .int .i64 m ∧ Hid (Onc w S bw wr)) (fun _ i _ => len - (intOf i).toNat)
  case atStart => exact ⟨0, by omega, rfl, rfl, K5⟩
  case round =>
    obtain ⟨m, hm, rfl, rfl, HI⟩ := hrel
    clear K5
    by_cases hlt : m < len
    · obtain ⟨s, hK⟩ := HI.out
      obtain ⟨b, off, rfl, hbb, hall⟩ := HO.out.resolve_left (by omega)
      obtain ⟨hcell, hok⟩ := hall m hlt
      obtain ⟨o, hfo⟩ : ∃ o, f m = o := ⟨_, rfl⟩
      rw [hfo] at hcell hok
      have hbl := hK.below
      have qc := fun j (hj : j < 8) => (hbl.cell (p := ⟨b, off + m * 8 + j, none⟩) hbb).trans (hcell j hj)
      have HOK := hide hok
      obtain ⟨k, l, p, n, rep, ⟨ba, bl, bc, bs⟩, size, la, ll, lc⟩ := o
      have q0 := qc 0 (by omega)
      have q1 := qc 1 (by omega)
      have q2 := qc 2 (by omega)
      have q3 := qc 3 (by omega)
      have q4 := qc 4 (by omega)
      have q5 := qc 5 (by omega)
      have q6 := qc 6 (by omega)
      have q7 := qc 7 (by omega)
      simp only [opS, List.getElem?_toArray, List.getElem?_cons_zero, List.getElem?_cons_succ, Nat.add_zero] at q0 q1 q2 q3 q4 q5 q6 q7
      have K6 : Hid (KS w (wr.alloc (.cells #[.int .i64 k, .int .i64 l, .int .i64 p, .int .i64 n, .bool rep, .slice ba bl bc, .int .i64 size, .slice la ll lc] TO4)) S s [(wr.heap.size, #[.int .i64 k, .int .i64 l, .int .i64 p, .int .i64 n, .bool rep, .slice ba bl bc, .int .i64 size, .slice la ll lc], TO4), (bw, (toldL (toldOf s)).toArray, TT)]) := hide (hK.alloc _ _)
      clear hcell hok hfo hall hK hbl qc HI HO
      by_cases hk45 : k = 4 ∨ k = 5
      · rcases hk45 with hk | hk
        · subst hk
          as_aux_lemma =>
            go_wp2_with fail
            go_roundw
            case rel => exact ⟨m + 1, by omega, by rfl, by go_num, hide ⟨s, K6.out.sub (fun y hy => List.mem_cons_of_mem _ hy)⟩⟩
            case measure => simp [intOf]; omega
        · subst hk
          as_aux_lemma =>
            go_wp2_with fail
            go_roundw
            case rel => exact ⟨m + 1, by omega, by rfl, by go_num, hide ⟨s, K6.out.sub (fun y hy => List.mem_cons_of_mem _ hy)⟩⟩
            case measure => simp [intOf]; omega
      · have hk4 : (k == 4) = false := by simp; omega
        have hk5 : (k == 5) = false := by simp; omega
        obtain ⟨fr, hfr⟩ : ∃ fr : Int, (s.d.bs.length : Int) - (s.fin : Int) = fr := ⟨_, rfl⟩
        have HF6 := hide K6.out.sa.freeC
        rw [hfr] at HF6
        have HFR := hide hfr
        clear hfr hk45
        go_wp2_with (first
          | (go_at_call 21; (with_reducible_and_instances (refine HF6.out.mono ?_)); rintro x w7 ⟨rfl, b7⟩; have K7 := hide (K6.out.later b7); obtain ⟨r, hr, HC⟩ := K7.out.call (o := ⟨k, l, p, n, rep, ⟨ba, bl, bc, bs⟩, size, la, ll, lc⟩) ⟨HOK.out.text.later K7.out.below, HOK.out.cap, HOK.out.big⟩; have HR := hide hr; unfold opS at HC; simp only at HC; have HCC := hide HC; have z0 := (K7.out.box _ List.mem_cons_self).cell 0; have z1 := (K7.out.box _ List.mem_cons_self).cell 1; have z2 := (K7.out.box _ List.mem_cons_self).cell 2; have z3 := (K7.out.box _ List.mem_cons_self).cell 3; have z4 := (K7.out.box _ List.mem_cons_self).cell 4; have z5 := (K7.out.box _ List.mem_cons_self).cell 5; have z6 := (K7.out.box _ List.mem_cons_self).cell 6; have z7 := (K7.out.box _ List.mem_cons_self).cell 7; simp only [List.getElem?_toArray, List.getElem?_cons_zero, List.getElem?_cons_succ] at z0 z1 z2 z3 z4 z5 z6 z7; clear b7 HF6 hr HC K6)
          | (go_at_call 26; (with_reducible_and_instances (refine HCC.out.mono ?_)); rintro x w8 ⟨rfl, K8⟩; have HL8 := hide (HLK.out _ _ _ _ K8.out); clear HCC K7 z0 z1 z2 z3 z4 z5 z6 z7)
          | (go_at_call 28; (with_reducible_and_instances (refine HL8.out.mono ?_)); rintro x w9 ⟨rfl, K9⟩; have K10 := hide (K9.out.alloc (toldL (toldOf r.2)).toArray TT); clear K8 HL8 K9)
          | (refine store_new (w0 := w9) rfl TT _ _ rfl (toldL (toldOf r.2)) (sizeT _) rfl rfl TT zT rfl (by rw [toldL_len]; rfl) (toldL_one _) ?_))

        have NE : Hid True := hide trivial

        obtain ⟨bo, hbo⟩ : ∃ bo, wr.heap.size = bo := ⟨_, rfl⟩
        obtain ⟨bn, hbn⟩ : ∃ bn, w9.heap.size = bn := ⟨_, rfl⟩
        rw [hbo] at K10 ⊢
        rw [hbn] at K10 ⊢
        clear hbo hbn
        obtain ⟨W10, hW10⟩ : ∃ W10, w9.alloc (.cells (toldL (toldOf r.2)).toArray TT) = W10 := ⟨_, rfl⟩
        rw [hW10] at K10 ⊢
        clear hW10
        have HR2 := hide HR.out.2
        have HG := hide HR.out.1
        clear HR q0 q1 q2 q3 q4 q5 q6 q7 HOK
        go_loopw [17] (fun a wr => ∃ na : Nat, na ≤ 3 ∧ a = .int .i64 na ∧ Hid (KS w wr S r.2 [(bn, (toldL (toldOf r.2)).toArray, TT), (bo, #[.int .i64 k, .int .i64 l, .int .i64 p, .int .i64 n, .bool rep, .slice ba bl bc, .int .i64 size, .slice la ll lc], TO4), (bw, (toldL (toldOf s)).toArray, TT)])) (fun a _ => 3 - (intOf a).toNat)
        case atStart => exact ⟨0, by omega, rfl, K10⟩
        case round =>
          obtain ⟨na, hna, rfl, KA⟩ := hrel
          clear K10
          by_cases h3 : na < 3
          · have h3i : decide ((na : Int) < 3) = true := decide_eq_true (by omega)
            go_wp2_with fail
            go_loopw [18] (fun a wr => ∃ nb : Nat, nb ≤ 6 ∧ a = .int .i64 nb ∧ Hid (KS w wr S r.2 [(bn, (toldL (toldOf r.2)).toArray, TT), (bo, #[.int .i64 k, .int .i64 l, .int .i64 p, .int .i64 n, .bool rep, .slice ba bl bc, .int .i64 size, .slice la ll lc], TO4), (bw, (toldL (toldOf s)).toArray, TT)])) (fun a _ => 6 - (intOf a).toNat)
            case atStart => exact ⟨0, by omega, rfl, KA⟩
            case round =>
              obtain ⟨nb, hnb, rfl, KB⟩ := hrel
              clear KA
              by_cases h6 : nb < 6
              · obtain ⟨T, U, se, sn, tw, tn, iw, it, hOF⟩ := once_facts HG.out (KB.out.box _ (List.mem_cons_of_mem _ (List.mem_cons_of_mem _ List.mem_cons_self))) (KB.out.box _ List.mem_cons_self) na nb h3 h6
                have z4 := (KB.out.box _ (List.mem_cons_of_mem _ List.mem_cons_self)).cell 4
                simp only [List.getElem?_toArray, List.getElem?_cons_zero, List.getElem?_cons_succ] at z4
                have HOF := hide hOF
                have c1 := hOF.c1
                have c2 := hOF.c2
                have c3 := hOF.c3
                have c4 := hOF.c4
                have c5 := hOF.c5
                have c8 := hOF.c8
                clear hOF
                cases T with
                | false =>
                  cases U with
                  | false =>
                    as_aux_lemma =>
                      go_wp2_with fail
                      go_quiet (fail)
                      clear c3 c4 c8 HOF
                      cases se with
                      | false =>
                        go_wp2_with fail
                        go_roundw
                        case rel => exact ⟨nb + 1, by omega, rfl, hide (KB.out.drewN nq)⟩
                        case measure => simp [intOf]; omega
                      | true =>
                        cases rep with
                        | false =>
                          go_wp2_with fail
                          go_roundw
                          case rel => exact ⟨nb + 1, by omega, rfl, hide (KB.out.drewN nq)⟩
                          case measure => simp [intOf]; omega
                        | true =>
                          go_wp2_with fail
                          go_roundw
                          case rel => exact ⟨nb + 1, by omega, rfl, hide (KB.out.drewN nq)⟩
                          case measure => simp [intOf]; omega
                  | true =>
                    as_aux_lemma =>
                      go_wp2_with fail
                      go_quiet (fail)
                      have hsh := HOF.out.shut
                      clear c3 c4 c8 HOF
                      cases se with
                      | false =>
                        go_wp2_with fail
                        go_roundw
                        case rel => exact ⟨nb + 1, by omega, rfl, hide (KB.out.drewN nq)⟩
                        case measure => simp [intOf]; omega
                      | true =>
                        cases rep with
                        | false => exact absurd (hsh rfl rfl rfl) (by simp)
                        | true =>
                          go_wp2_with fail
                          go_roundw
                          case rel => exact ⟨nb + 1, by omega, rfl, hide (KB.out.drewN nq)⟩
                          case measure => simp [intOf]; omega
                | true =>
                  cases U with
                  | false =>
                    as_aux_lemma =>
                      have hgo : nb < it := HOF.out.gone rfl rfl
                      have hgo1 : decide (it ≤ nb) = false := decide_eq_false (by omega)
                      go_wp2_with fail
                      go_quiet (fail)
                      clear c3 c4 c8 HOF
                      cases se with
                      | false =>
                        go_wp2_with fail
                        go_roundw
                        case rel => exact ⟨nb + 1, by omega, rfl, hide (KB.out.drewN nq)⟩
                        case measure => simp [intOf]; omega
                      | true =>
                        cases rep with
                        | false =>
                          go_wp2_with fail
                          go_roundw
                          case rel => exact ⟨nb + 1, by omega, rfl, hide (KB.out.drewN nq)⟩
                          case measure => simp [intOf]; omega
                        | true =>
                          go_wp2_with fail
                          go_roundw
                          case rel => exact ⟨nb + 1, by omega, rfl, hide (KB.out.drewN nq)⟩
                          case measure => simp [intOf]; omega
                  | true =>
                    as_aux_lemma =>
                      obtain rfl := HOF.out.same rfl rfl
                      have hsq : (tw.toList == tw.toList) = true := by simp
                      go_wp2_with fail
                      go_quiet (fail)
                      clear c3 c4 c8 HOF
                      cases se with
                      | false =>
                        go_wp2_with fail
                        go_roundw
                        case rel => exact ⟨nb + 1, by omega, rfl, hide (KB.out.drewN nq)⟩
                        case measure => simp [intOf]; omega
                      | true =>
                        cases rep with
                        | false =>
                          go_wp2_with fail
                          go_roundw
                          case rel => exact ⟨nb + 1, by omega, rfl, hide (KB.out.drewN nq)⟩
                          case measure => simp [intOf]; omega
                        | true =>
                          go_wp2_with fail
                          go_roundw
                          case rel => exact ⟨nb + 1, by omega, rfl, hide (KB.out.drewN nq)⟩
                          case measure => simp [intOf]; omega
              · obtain rfl : nb = 6 := by omega
                obtain ⟨T, U, se, sn, tw, tn, iw, it, hOF⟩ := once_facts HG.out (KB.out.box _ (List.mem_cons_of_mem _ (List.mem_cons_of_mem _ List.mem_cons_self))) (KB.out.box _ List.mem_cons_self) na 0 h3 (by omega)
                have c5 := hOF.c5
                have c6 := hOF.c6
                have c7 := hOF.c7
                have c8 := hOF.c8
                have htr := hOF.trim
                have hen := hOF.ends
                have ht1 : decide (it < iw) = false := decide_eq_false (by omega)
                clear hOF
                cases se with
                | false =>
                  as_aux_lemma =>
                    go_wp2_with fail
                    go_quiet (fail)
                    go_wp2_with fail
                    go_roundw
                    case rel => exact ⟨na + 1, by omega, rfl, hide (KB.out.drewN nq)⟩
                    case measure => simp [intOf]; omega
                | true =>
                  obtain rfl := hen rfl
                  as_aux_lemma =>
                    go_wp2_with fail
                    go_quiet (fail)
                    go_wp2_with fail
                    go_roundw
                    case rel => exact ⟨na + 1, by omega, rfl, hide (KB.out.drewN nq)⟩
                    case measure => simp [intOf]; omega
          · obtain rfl : na = 3 := by omega
            by_cases hz : r.1 = 0
            · rw [hz]
              as_aux_lemma =>
                go_upto_region 30 with fail
                go_wp2_with (first
                  | (refine load_wide rfl TT _ rfl _ Tryz.underlying66 rfl (toldL (toldOf r.2)) (sizeT _) bn 0 rfl (fun j hj => by rw [Nat.zero_add, (KA.out.box _ List.mem_cons_self).cell j, List.getElem?_toArray]) ?_)
                  | (refine store_wide rfl TT _ _ rfl (toldL (toldOf r.2)) (sizeT _) bw 0 rfl rfl TT _ (KA.out.box _ (List.mem_cons_of_mem _ (List.mem_cons_of_mem _ List.mem_cons_self))) (by rw [Nat.zero_add, toldL_len, List.size_toArray, toldL_len]; omega) (toldL_one _) ?_))
                rw [told_row]
                refine ⟨⟨m + 1, by omega, rfl, by go_num, hide ⟨r.2, ?_⟩⟩, by simp [intOf]; omega⟩
                exact (KA.out.sub (Y := [(bw, (toldL (toldOf s)).toArray, TT)]) (fun y hy => by simp only [List.mem_cons, List.not_mem_nil, or_false] at hy; subst hy; simp)).row (fun x hx => (by cases hx))
            · have hz' : (r.1 != 0) = true := by simpa using hz
              have hrs : r.2 = s := HR2.out hz
              as_aux_lemma =>
                have HFz : Hid (Calls Tryz.prog 21 #[.pointer (some ⟨S, 0, none⟩)] wr fun x w' => x = .returned (.int .i64 fr) ∧ Below wr.heap.size wr w') := hide (by have h := KA.out.sa.freeC; rw [hrs, HFR.out] at h; exact h)
                rw [hrs] at KA
                clear HR2 HG
                go_upto_region 30 with (first
                  | (refine load_wideG rfl TT _ rfl _ Tryz.underlying66 rfl (toldL (toldOf s)) (sizeT _) bn 0 rfl (fun j hj => by rw [Nat.zero_add, (KA.out.box _ List.mem_cons_self).cell j, List.getElem?_toArray]) ?_)
                  | (refine load_wideG rfl TT _ rfl _ Tryz.underlying66 rfl (toldL (toldOf s)) (sizeT _) bw 0 rfl (fun j hj => by rw [Nat.zero_add, (KA.out.box _ (List.mem_cons_of_mem _ (List.mem_cons_of_mem _ List.mem_cons_self))).cell j, List.getElem?_toArray]) ?_)
                  | (refine neq_wideG rfl _ _ rfl (toldOf s) rfl rfl ?_)
                  | (go_at_call 21; (with_reducible_and_instances (refine HFz.out.mono ?_)); rintro x w11 ⟨rfl, b11⟩; have KZ := hide (KA.out.later b11); clear b11 HFz))
                go_wp2_with (first
                  | (refine load_wide rfl TT _ rfl _ Tryz.underlying66 rfl (toldL (toldOf s)) (sizeT _) bn 0 rfl (fun j hj => by rw [Nat.zero_add, (KZ.out.box _ List.mem_cons_self).cell j, List.getElem?_toArray]) ?_)
                  | (refine store_wide rfl TT _ _ rfl (toldL (toldOf s)) (sizeT _) bw 0 rfl rfl TT _ (KZ.out.box _ (List.mem_cons_of_mem _ (List.mem_cons_of_mem _ List.mem_cons_self))) (by rw [Nat.zero_add, toldL_len, List.size_toArray, toldL_len]; omega) (toldL_one _) ?_))
                refine ⟨⟨m + 1, by omega, rfl, by go_num, hide ⟨s, ?_⟩⟩, by simp [intOf]; omega⟩
                exact (KZ.out.sub (Y := [(bw, (toldL (toldOf s)).toArray, TT)]) (fun y hy => by simp only [List.mem_cons, List.not_mem_nil, or_false] at hy; subst hy; simp)).row (fun x hx => (by cases hx))
    · obtain rfl : m = len := by omega
      go_wp2_with fail
      go_ret
      obtain ⟨s, hK⟩ := HI.out
      exact ⟨rfl, hK.below⟩
end Go.Proofs.YtikomnbhmmjfnaaGreat
