/- NetMakes of the statements of layer 6. -/
import Derived.Test.YtgbjlkaaniaaaaaDoorNSide
import Derived.Deep.DeepCutAuto
import Derived.Deep.CutBlock
import Derived.BigQuiet
import Derived.Laws.StructEq
namespace Go.Proofs.YtgbjlkaaniaaaaaDoor
open Go.RowKit

/-- Between two rounds: what may still come late is what is late. -/
structure Mk (w0 wr : World) (D : Nat) (v : Value) (m : Nat) (s : NSt) (A : List Snt) : Prop where
  side : Side w0 wr D s v A []
  perm : (lives A).Perm s.late
  luck : s.luck.length ≤ m * 1048576
  late : s.late.length ≤ m
  all : A.length ≤ m
theorem lives_take (A : List Snt) (j : Nat) (h : j < A.length) : (lives (A.take (j + 1))).length = if A[j].live then (lives (A.take j)).length + 1 else (lives (A.take j)).length := by
  rw [List.take_succ_eq_append_getElem h, lives_app, List.length_append, lives_cons]
  split <;> rfl
theorem lives_le (A : List Snt) (j : Nat) : (lives (A.take j)).length ≤ (lives A).length := by
  conv => rhs; rw [← List.take_append_drop j A, lives_app, List.length_append]
  omega
/-- Where 'append(all, sent{..})' takes its one from. -/
theorem snt_src (W : World) (x : Snt) : Src (W.alloc (.cells #[.int .i64 x.m.to, .int .i64 (liveN x), .string (bstr x.m.b)] TS)) (some ⟨W.heap.size, 0, none⟩) 1 (allV [x]) :=
  Or.inr ⟨_, rfl, fun j u hu => by rw [addr_add, cell_of_row _ _ _ _ _ _ (heap_alloc_last W _), Nat.zero_add]; simpa [allV, sntV] using hu⟩
/-- One that was taken out, and the rest. -/
theorem erase_perm {α : Type} (l : List α) (k : Nat) (h : k < l.length) : (l[k] :: l.eraseIdx k).Perm l := by
  rw [List.eraseIdx_eq_take_drop_succ]
  have e : l = l.take k ++ l[k] :: l.drop (k + 1) := by rw [← List.drop_eq_getElem_cons h, List.take_append_drop]
  conv => rhs; rw [e]
  exact List.perm_middle.symm
theorem Mk.take {w0 wr : World} {D : Nat} {v : Value} {m : Nat} {s : NSt} {A : List Snt} {k : Nat} {n : Int} (hk : k < A.length) (hlive : A[k].live = true) (hn : hasD s n = true) (he : A[k].m = msgD s n) (hp : (lives A).Perm s.late) (hl : s.luck.length ≤ m * 1048576) (hl2 : s.late.length ≤ m) (ha : A.length ≤ m) (hs : Side w0 wr D (takeD s n) v (kill A k) []) : Mk w0 wr D v (m + 1) (takeD s n) (kill A k) := by
  obtain ⟨i, hi, rfl, hm⟩ := has_yes hn
  have e : takeD s (i : Int) = ⟨s.luck, s.late.eraseIdx i⟩ := by unfold takeD; rw [hn]; rfl
  refine ⟨hs, ?_, ?_, ?_, by rw [kill_len]; omega⟩
  · rw [e]
    have p1 := (lives_kill A k hk hlive).trans (hp.trans (erase_perm s.late i hi).symm)
    rw [he, hm] at p1
    exact p1.cons_inv
  · rw [e]; exact Nat.le_trans hl (Nat.mul_le_mul_right _ (by omega))
  · rw [e]; show (s.late.eraseIdx i).length ≤ _; rw [List.length_eraseIdx_of_lt hi]; omega
theorem bytes_list {a b : ByteArray} (h : a.toList = b.toList) : a = b := by
  rw [ByteArray.toList_eq, ByteArray.toList_eq] at h
  obtain ⟨⟨x⟩⟩ := a
  obtain ⟨⟨y⟩⟩ := b
  have h2 : x = y := h
  rw [h2]
set_option maxRecDepth 100000 in
set_option maxHeartbeats 8000000 in
theorem netMakes_any (ad : Option Addr) (len cap : Nat) (os : List OpD) (w : World) (ho : OArg w os ad len) (hT : Tab w) :
    Calls Tryd.prog 5 #[.slice ad len cap] w fun e w' => e = .returned (.bool true) ∧ Below w.heap.size w w' := by
  have h1 : 1 ≤ w.heap.size := hT.1
  have hnew := new_ok w
  have HO := hide ho
  have hl := ho.max
  have HT := hide hT
  have HK : Hid (∀ W, (Mk w W w.heap.size (.slice none 0 0) 0 new0 []) → Calls Tryd.prog 9 #[] W fun e W' => e = .returned (.bool true) ∧ Hid (Mk w W' w.heap.size (.slice none 0 0) 0 new0 [])) := fun W h => by
    refine (knows6 W (hT.low h1 h.side.below)).mono ?_
    rintro e W' ⟨rfl, h4⟩
    exact ⟨rfl, h.side.later h4, h.perm, h.luck, h.late, h.all⟩
  clear ho hT
  go_enter Tryd.func5, Tryd.ntmps5
  go_wp2_with (first
    | (go_at_call 7; refine hnew.mono ?_; rintro e w1 ⟨rfl, hn, hb⟩; have H0 : Hid (Mk w w1 w.heap.size (.slice none 0 0) 0 new0 []) := ⟨⟨_, ⟨_, _, hn⟩, fun g hg => (by simp at hg; omega), OffRow.nil _ _ _, fun g hg => (by cases hg), hb, fun z hz => (by cases hz)⟩, List.Perm.refl _, Nat.zero_le _, Nat.zero_le _, Nat.zero_le _⟩; clear hn hb hnew)
    | (go_at_call 9; (with_reducible_and_instances (refine (HK.out w1 H0.out).mono ?_)); rintro e w2 ⟨rfl, H1⟩; clear HK H0))
  go_loopw [4, 5] (fun all i wr => ∃ (m : Nat) (s : NSt) (A : List Snt), m ≤ len ∧ i = .int .i64 m ∧ Hid (Mk w wr w.heap.size all m s A)) (fun _ i _ => len - (intOf i).toNat)
  case atStart => exact ⟨0, new0, [], by omega, rfl, H1⟩
  case round =>
    obtain ⟨m, s, A, hm, rfl, HM⟩ := hrel
    clear H1
    obtain ⟨p, c, hv, hv1, hv2⟩ := HM.out.side.form
    subst hv
    by_cases hlt : m < len
    · obtain ⟨b, off, rfl, hbs, hok, hcell⟩ := HO.out.cells HM.out.side.below hlt
      have q0 := hcell 0 (by omega)
      have q1 := hcell 1 (by omega)
      have q2 := hcell 2 (by omega)
      have q3 := hcell 3 (by omega)
      simp only [opV, List.getElem?_cons_zero, List.getElem?_cons_succ, Nat.add_zero] at q0 q1 q2 q3
      obtain ⟨o, ho⟩ : ∃ o, o = os.getD m op0 := ⟨_, rfl⟩
      rw [← ho] at q0 q1 q2 q3 hok
      obtain ⟨kd, n, ob, obl, obc, ol, oll, olc, bs, cs⟩ := o
      simp only at q0 q1 q2 q3
      have HOK := hide hok
      obtain ⟨W0, hW0⟩ : ∃ W0, wr.alloc (.cells #[.int .i64 kd, .int .i64 n, .slice ob obl obc, .slice ol oll olc] 34) = W0 := ⟨_, rfl⟩
      have hsd : Side w W0 w.heap.size s (.slice p A.length c) A [(wr.heap.size, #[.int .i64 kd, .int .i64 n, .slice ob obl obc, .slice ol oll olc])] := by rw [← hW0]; exact HM.out.side.box _
      have z0 : W0.cell? ⟨wr.heap.size, 0, none⟩ = some (.int .i64 kd) := hsd.cellZ (List.mem_singleton.2 rfl) 0
      have z1 : W0.cell? ⟨wr.heap.size, 1, none⟩ = some (.int .i64 n) := hsd.cellZ (List.mem_singleton.2 rfl) 1
      have z2 : W0.cell? ⟨wr.heap.size, 2, none⟩ = some (.slice ob obl obc) := hsd.cellZ (List.mem_singleton.2 rfl) 2
      have z3 : W0.cell? ⟨wr.heap.size, 3, none⟩ = some (.slice ol oll olc) := hsd.cellZ (List.mem_singleton.2 rfl) 3
      have HS := hide hsd
      have HP := hide HM.out.perm
      have HA : Hid (s.luck.length ≤ m * 1048576 ∧ s.late.length ≤ m ∧ A.length ≤ m) := ⟨HM.out.luck, HM.out.late, HM.out.all⟩
      clear HM hcell hok ho hsd
      go_upto_block 2 with (fail)
      (try rw [hW0])
      clear hW0 q0 q1 q2 q3
      go_cut [4] (fun all wc => ∃ (s' : NSt) (A' : List Snt) (p' : Option Addr) (c' : Nat), all = .slice p' A'.length c' ∧ A'.length ≤ c' ∧ c' ≤ maxLen ∧ A'.length ≤ m + 1 ∧ Hid (Mk w wc w.heap.size (.slice p' A'.length c') (m + 1) s' A'))
      case rest =>
        as_aux_lemma =>
          obtain ⟨s', A', p', c', rfl, hc1, hc2, hc3, HM⟩ := hcut
          clear HS HP HA HOK z0 z1 z2 z3 hv1 hv2
          go_wp2_with fail
          go_loopw [19, 20] (fun at_ k wt => ∃ j : Nat, j ≤ A'.length ∧ k = .int .i64 j ∧ at_ = .int .i64 (lives (A'.take j)).length ∧ Hid (Mk w wt w.heap.size (.slice p' A'.length c') (m + 1) s' A')) (fun _ k _ => A'.length - (intOf k).toNat)
          case atStart => exact ⟨0, by omega, rfl, rfl, HM⟩
          case round =>
            obtain ⟨j, hj, rfl, rfl, HM2⟩ := hrel
            clear HM
            by_cases hjl : j < A'.length
            · obtain ⟨g, o, cp, hv, hv1, hv2, k0, k1, k2, k3⟩ := HM2.out.side.cell j hjl
              cases hv
              have htk := lives_take A' j hjl
              have hle := lives_le A' (j + 1)
              have hpl := HM2.out.perm.length_eq
              have hll := HM2.out.late
              cases hlv : A'[j].live with
              | false =>
                rw [show liveN A'[j] = 0 by unfold liveN; rw [hlv]; rfl] at k1
                rw [hlv] at htk
                have HTK := hide htk
                clear htk hle hpl hll k0 k2
                go_wp2_with fail
                refine ⟨⟨j + 1, by omega, by go_num, by rw [HTK.out]; rfl, HM2⟩, by simp [intOf]; omega⟩
              | true =>
                rw [show liveN A'[j] = 1 by unfold liveN; rw [hlv]; rfl] at k1
                rw [hlv, if_pos rfl] at htk
                obtain ⟨q, hq⟩ : ∃ q, (lives (A'.take j)).length = q := ⟨_, rfl⟩
                rw [hq] at htk ⊢
                have hhas : hasD s' (q : Int) = true := by
                  simp [hasD]
                  omega
                have HMs : Hid (∀ k : Int, hasD s' k = true → Calls Tryd.prog 13 #[.pointer (some ⟨w.heap.size, 0, none⟩), .int .i64 k] wr fun e W => ∃ z pp ll cc, e = .returned (.tuple #[.int .i64 z, .slice pp ll cc, .bool true]) ∧ Hid (Mk w W w.heap.size (.slice (some ⟨g, o, none⟩) A'.length c') (m + 1) s' A')) := fun k hk => by
                  refine (HM2.out.side.messageC k).mono ?_
                  rintro e W ⟨⟨Q, rfl, -⟩, hs, -⟩
                  rw [hk]
                  exact ⟨_, _, _, _, rfl, hs, HM2.out.perm, HM2.out.luck, HM2.out.late, HM2.out.all⟩
                have HC := hide (HMs.out (q : Int) hhas)
                have HTK := hide htk
                have hqb : q ≤ 2097152 := by omega
                clear htk hle hpl hll k0 k2 hhas HMs hq
                go_wp2_with (go_at_call 13; (with_reducible_and_instances (refine HC.out.mono ?_)); rintro e w9 ⟨z9, p9, l9, c9, rfl, H9⟩; clear HC)
                refine ⟨⟨j + 1, by omega, by go_num, by rw [HTK.out]; go_num, H9⟩, by simp [intOf]; omega⟩
            · obtain rfl : j = A'.length := by omega
              have hlt2 := HM2.out.side.lateC
              have hpl := HM2.out.perm.length_eq
              rw [← hpl] at hlt2
              rw [List.take_length]
              generalize (lives A').length = q at *
              clear hpl
              go_wp2_with (go_at_call 16; refine hlt2.mono ?_; rintro e w' ⟨rfl, hw'⟩; obtain rfl := hw'.symm)
              refine ⟨⟨m + 1, s', A', by omega, by go_num, HM2⟩, by simp [intOf]; omega⟩
      case first =>
        have hlb : s.late.length ≤ 1048576 := by have := HA.out; omega
        have hab : A.length ≤ 1048576 := by have := HA.out; omega
        by_cases hk0 : kd = 0
        · subst hk0
          as_aux_lemma =>
            have hi : IArg W0 cs ol oll := HOK.out.nums.later HS.out.below
            have hlu := HS.out.luckC ol oll olc cs hi.1 hi.rng (hi.src HOK.out.lnone) (by have := HA.out; have h2 : oll ≤ 1048576 := HOK.out.ll; omega)
            have HCS : Hid (cs.length ≤ 1048576) := by have h2 : oll ≤ 1048576 := HOK.out.ll; rw [← hi.1] at h2; exact h2
            clear hi
            go_wp2_with (go_at_call 11; refine hlu.mono ?_; rintro e w3 ⟨rfl, hs3⟩; have H3 := hide hs3; clear hs3)
            go_meet
            case rel =>
              have hh := HA.out
              have hcs := HCS.out
              exact ⟨luckD s cs, A, p, c, rfl, hv1, hv2, by omega, H3.out.bare, HP.out, by show (s.luck ++ cs).length ≤ _; rw [List.length_append]; omega, by show s.late.length ≤ _; omega, by omega⟩
        · have hn0 : (kd == 0) = false := by simpa using hk0
          by_cases hk1 : kd = 1
          · subst hk1
            have hla := HS.out.lateC
            have hfl := fateD_lt s
            obtain ⟨i0, hi0, hz0, hz1, hz2⟩ := info_parts Tryd.infoS
            have HZ : Hid (∀ W, Below W0.heap.size W0 W → W.cell? ⟨wr.heap.size, 1, none⟩ = some (.int .i64 n) ∧ W.cell? ⟨wr.heap.size, 2, none⟩ = some (.slice ob obl obc)) := fun W hb => ⟨(HS.out.later hb).cellZ (List.mem_singleton.2 rfl) 1, (HS.out.later hb).cellZ (List.mem_singleton.2 rfl) 2⟩
            have HE : Hid ((W0.alloc (.cells #[] 5)).drew.ownsRow W0.heap.size 5 1 (.slice (some ⟨W0.heap.size, 0, none⟩) 0 0) 0 (([] : List Nat).map bv)) := empty_own W0.drew W0.heap.size (Nat.le_refl _)
            have HR : Hid (Row (W0.alloc (.cells #[] 5)).drew ob bs) := ((HOK.out.text.later HS.out.below).later (((Below.refl _ W0).alloc (Nat.le_refl _) _).drew)).2.2
            rcases (show fateD s = 0 ∨ fateD s = 1 ∨ fateD s = 2 ∨ fateD s = 3 ∨ fateD s = 4 by omega) with hf | hf | hf | hf | hf
            · have hs1 : sendD s n bs = ⟨s.luck.tail, s.late⟩ := by unfold sendD; rw [hf]; rfl
              have HSe : Hid (∀ W1, Below W0.heap.size W0 W1 → ∀ pp nn cc, Part.ok W1 ⟨pp, nn, cc, bs⟩ → (∀ b off, pp = some ⟨b, off, none⟩ → W0.heap.size ≤ b) → Calls Tryd.prog 12 #[.pointer (some ⟨w.heap.size, 0, none⟩), .int .i64 n, .slice pp nn cc] W1 fun e W' => e = .returned (.tuple #[.int .i64 1, .bool true]) ∧ Hid (Side w W' w.heap.size ⟨s.luck.tail, s.late⟩ (.slice p A.length c) A [(wr.heap.size, #[.int .i64 1, .int .i64 n, .slice ob obl obc, .slice ol oll olc])])) := fun W1 hb pp nn cc hq hq2 => by
                refine (HS.out.sendC hb HT.out n HOK.out.n pp nn cc bs hq hq2 (by omega)).mono ?_
                rintro e W' ⟨rfl, h4⟩
                rw [hf]
                rw [hs1] at h4
                exact ⟨rfl, h4⟩
              have HLt : Hid (∀ W, Side w W w.heap.size ⟨s.luck.tail, s.late⟩ (.slice p A.length c) A [(wr.heap.size, #[.int .i64 1, .int .i64 n, .slice ob obl obc, .slice ol oll olc])] → Calls Tryd.prog 16 #[.pointer (some ⟨w.heap.size, 0, none⟩)] W fun e W' => e = .returned (.int .i64 ((s.late.length : Nat))) ∧ W' = W) := fun W h2 => by
                have := h2.lateC
                exact this
              have hL1 : ¬ ((s.late.length : Int) + 1 < (s.late.length : Int)) := by omega
              clear hf hs1 hfl --aux
              as_aux_lemma =>
                go_wp2_with (go_at_call 16; refine hla.mono ?_; rintro e w' ⟨rfl, hw'⟩; obtain rfl := hw'.symm)
                go_region_held3 (fun W => W.cell? ⟨wr.heap.size, 1, none⟩ = some (.int .i64 n) ∧ W.cell? ⟨wr.heap.size, 2, none⟩ = some (.slice ob obl obc)) (first | exact HZ.out _ ((Below.refl _ _).drew) | exact HZ.out _ (((Below.refl _ _).alloc (Nat.le_refl _) _).drew) | exact HZ.out _ hw4 | exact ⟨H5.out.cellZ (List.mem_singleton.2 rfl) 1, H5.out.cellZ (List.mem_singleton.2 rfl) 2⟩)
                  (first
                    | (refine step_app_any (by rfl) _ _ (by rfl) W0.heap.size (.slice (some ⟨W0.heap.size, 0, none⟩) 0 0) 0 [] (by rfl) HE.out ob obl obc bs (by rfl) HOK.out.text.1 HOK.out.text.2.1 HR.out (by have h2 : obl ≤ 1048576 := HOK.out.bl; omega) (by simp) ?_; intro v4 w4 o4 g4; have hw4 : Below W0.heap.size W0 w4 := (((Below.refl _ W0).alloc (Nat.le_refl _) _).drew).grown g4 (by simp) (fun k hk => (by simp [Value.ownBlock] at hk; omega)); obtain ⟨p4, c4, hv4, hq4, hq5⟩ : ∃ p c, v4 = .slice p obl c ∧ Part.ok w4 ⟨p, obl, c, bs⟩ ∧ (∀ b off, p = some ⟨b, off, none⟩ → W0.heap.size ≤ b) := part_of HOK.out.text.1 HOK.out.text.2.2.1 o4; subst hv4; have HQ := hide (HSe.out w4 hw4 p4 obl c4 hq4 hq5); clear o4 g4 hq4 hq5)
                    | (go_at_call 12; (with_reducible_and_instances (refine HQ.out.mono ?_)); rintro e w5 ⟨rfl, H5⟩))
                all_goals have y1 : w5.cell? ⟨wr.heap.size, 1, none⟩ = some (.int .i64 n) := H5.out.cellZ (List.mem_singleton.2 rfl) 1
                all_goals have y2 : w5.cell? ⟨wr.heap.size, 2, none⟩ = some (.slice ob obl obc) := H5.out.cellZ (List.mem_singleton.2 rfl) 2
                all_goals have hlz := HLt.out w5 H5.out
                all_goals go_wp2_with (go_at_call 16; refine hlz.mono ?_; rintro e w' ⟨rfl, hw'⟩; obtain rfl := hw'.symm)
                all_goals go_meet
                all_goals
                  have hh := HA.out
                  exact ⟨⟨s.luck.tail, s.late⟩, A, p, c, rfl, hv1, hv2, by omega, H5.out.bare, HP.out, by show s.luck.tail.length ≤ _; rw [List.length_tail]; omega, by show s.late.length ≤ _; omega, by omega⟩
            · have hs1 : sendD s n bs = ⟨s.luck.tail, s.late⟩ := by unfold sendD; rw [hf]; rfl
              have HSe : Hid (∀ W1, Below W0.heap.size W0 W1 → ∀ pp nn cc, Part.ok W1 ⟨pp, nn, cc, bs⟩ → (∀ b off, pp = some ⟨b, off, none⟩ → W0.heap.size ≤ b) → Calls Tryd.prog 12 #[.pointer (some ⟨w.heap.size, 0, none⟩), .int .i64 n, .slice pp nn cc] W1 fun e W' => e = .returned (.tuple #[.int .i64 0, .bool false]) ∧ Hid (Side w W' w.heap.size ⟨s.luck.tail, s.late⟩ (.slice p A.length c) A [(wr.heap.size, #[.int .i64 1, .int .i64 n, .slice ob obl obc, .slice ol oll olc])])) := fun W1 hb pp nn cc hq hq2 => by
                refine (HS.out.sendC hb HT.out n HOK.out.n pp nn cc bs hq hq2 (by omega)).mono ?_
                rintro e W' ⟨rfl, h4⟩
                rw [hf]
                rw [hs1] at h4
                exact ⟨rfl, h4⟩
              have HLt : Hid (∀ W, Side w W w.heap.size ⟨s.luck.tail, s.late⟩ (.slice p A.length c) A [(wr.heap.size, #[.int .i64 1, .int .i64 n, .slice ob obl obc, .slice ol oll olc])] → Calls Tryd.prog 16 #[.pointer (some ⟨w.heap.size, 0, none⟩)] W fun e W' => e = .returned (.int .i64 ((s.late.length : Nat))) ∧ W' = W) := fun W h2 => by
                have := h2.lateC
                exact this
              have hL1 : ¬ ((s.late.length : Int) + 1 < (s.late.length : Int)) := by omega
              clear hf hs1 hfl --aux
              as_aux_lemma =>
                go_wp2_with (go_at_call 16; refine hla.mono ?_; rintro e w' ⟨rfl, hw'⟩; obtain rfl := hw'.symm)
                go_region_held3 (fun W => W.cell? ⟨wr.heap.size, 1, none⟩ = some (.int .i64 n) ∧ W.cell? ⟨wr.heap.size, 2, none⟩ = some (.slice ob obl obc)) (first | exact HZ.out _ ((Below.refl _ _).drew) | exact HZ.out _ (((Below.refl _ _).alloc (Nat.le_refl _) _).drew) | exact HZ.out _ hw4 | exact ⟨H5.out.cellZ (List.mem_singleton.2 rfl) 1, H5.out.cellZ (List.mem_singleton.2 rfl) 2⟩)
                  (first
                    | (refine step_app_any (by rfl) _ _ (by rfl) W0.heap.size (.slice (some ⟨W0.heap.size, 0, none⟩) 0 0) 0 [] (by rfl) HE.out ob obl obc bs (by rfl) HOK.out.text.1 HOK.out.text.2.1 HR.out (by have h2 : obl ≤ 1048576 := HOK.out.bl; omega) (by simp) ?_; intro v4 w4 o4 g4; have hw4 : Below W0.heap.size W0 w4 := (((Below.refl _ W0).alloc (Nat.le_refl _) _).drew).grown g4 (by simp) (fun k hk => (by simp [Value.ownBlock] at hk; omega)); obtain ⟨p4, c4, hv4, hq4, hq5⟩ : ∃ p c, v4 = .slice p obl c ∧ Part.ok w4 ⟨p, obl, c, bs⟩ ∧ (∀ b off, p = some ⟨b, off, none⟩ → W0.heap.size ≤ b) := part_of HOK.out.text.1 HOK.out.text.2.2.1 o4; subst hv4; have HQ := hide (HSe.out w4 hw4 p4 obl c4 hq4 hq5); clear o4 g4 hq4 hq5)
                    | (go_at_call 12; (with_reducible_and_instances (refine HQ.out.mono ?_)); rintro e w5 ⟨rfl, H5⟩))
                all_goals have y1 : w5.cell? ⟨wr.heap.size, 1, none⟩ = some (.int .i64 n) := H5.out.cellZ (List.mem_singleton.2 rfl) 1
                all_goals have y2 : w5.cell? ⟨wr.heap.size, 2, none⟩ = some (.slice ob obl obc) := H5.out.cellZ (List.mem_singleton.2 rfl) 2
                all_goals have hlz := HLt.out w5 H5.out
                all_goals go_wp2_with (go_at_call 16; refine hlz.mono ?_; rintro e w' ⟨rfl, hw'⟩; obtain rfl := hw'.symm)
                all_goals go_meet
                all_goals
                  have hh := HA.out
                  exact ⟨⟨s.luck.tail, s.late⟩, A, p, c, rfl, hv1, hv2, by omega, H5.out.bare, HP.out, by show s.luck.tail.length ≤ _; rw [List.length_tail]; omega, by show s.late.length ≤ _; omega, by omega⟩
            · have hs1 : sendD s n bs = ⟨s.luck.tail, s.late⟩ := by unfold sendD; rw [hf]; rfl
              have HSe : Hid (∀ W1, Below W0.heap.size W0 W1 → ∀ pp nn cc, Part.ok W1 ⟨pp, nn, cc, bs⟩ → (∀ b off, pp = some ⟨b, off, none⟩ → W0.heap.size ≤ b) → Calls Tryd.prog 12 #[.pointer (some ⟨w.heap.size, 0, none⟩), .int .i64 n, .slice pp nn cc] W1 fun e W' => e = .returned (.tuple #[.int .i64 1, .bool false]) ∧ Hid (Side w W' w.heap.size ⟨s.luck.tail, s.late⟩ (.slice p A.length c) A [(wr.heap.size, #[.int .i64 1, .int .i64 n, .slice ob obl obc, .slice ol oll olc])])) := fun W1 hb pp nn cc hq hq2 => by
                refine (HS.out.sendC hb HT.out n HOK.out.n pp nn cc bs hq hq2 (by omega)).mono ?_
                rintro e W' ⟨rfl, h4⟩
                rw [hf]
                rw [hs1] at h4
                exact ⟨rfl, h4⟩
              have HLt : Hid (∀ W, Side w W w.heap.size ⟨s.luck.tail, s.late⟩ (.slice p A.length c) A [(wr.heap.size, #[.int .i64 1, .int .i64 n, .slice ob obl obc, .slice ol oll olc])] → Calls Tryd.prog 16 #[.pointer (some ⟨w.heap.size, 0, none⟩)] W fun e W' => e = .returned (.int .i64 ((s.late.length : Nat))) ∧ W' = W) := fun W h2 => by
                have := h2.lateC
                exact this
              have hL1 : ¬ ((s.late.length : Int) + 1 < (s.late.length : Int)) := by omega
              clear hf hs1 hfl --aux
              as_aux_lemma =>
                go_wp2_with (go_at_call 16; refine hla.mono ?_; rintro e w' ⟨rfl, hw'⟩; obtain rfl := hw'.symm)
                go_region_held3 (fun W => W.cell? ⟨wr.heap.size, 1, none⟩ = some (.int .i64 n) ∧ W.cell? ⟨wr.heap.size, 2, none⟩ = some (.slice ob obl obc)) (first | exact HZ.out _ ((Below.refl _ _).drew) | exact HZ.out _ (((Below.refl _ _).alloc (Nat.le_refl _) _).drew) | exact HZ.out _ hw4 | exact ⟨H5.out.cellZ (List.mem_singleton.2 rfl) 1, H5.out.cellZ (List.mem_singleton.2 rfl) 2⟩)
                  (first
                    | (refine step_app_any (by rfl) _ _ (by rfl) W0.heap.size (.slice (some ⟨W0.heap.size, 0, none⟩) 0 0) 0 [] (by rfl) HE.out ob obl obc bs (by rfl) HOK.out.text.1 HOK.out.text.2.1 HR.out (by have h2 : obl ≤ 1048576 := HOK.out.bl; omega) (by simp) ?_; intro v4 w4 o4 g4; have hw4 : Below W0.heap.size W0 w4 := (((Below.refl _ W0).alloc (Nat.le_refl _) _).drew).grown g4 (by simp) (fun k hk => (by simp [Value.ownBlock] at hk; omega)); obtain ⟨p4, c4, hv4, hq4, hq5⟩ : ∃ p c, v4 = .slice p obl c ∧ Part.ok w4 ⟨p, obl, c, bs⟩ ∧ (∀ b off, p = some ⟨b, off, none⟩ → W0.heap.size ≤ b) := part_of HOK.out.text.1 HOK.out.text.2.2.1 o4; subst hv4; have HQ := hide (HSe.out w4 hw4 p4 obl c4 hq4 hq5); clear o4 g4 hq4 hq5)
                    | (go_at_call 12; (with_reducible_and_instances (refine HQ.out.mono ?_)); rintro e w5 ⟨rfl, H5⟩))
                all_goals have y1 : w5.cell? ⟨wr.heap.size, 1, none⟩ = some (.int .i64 n) := H5.out.cellZ (List.mem_singleton.2 rfl) 1
                all_goals have y2 : w5.cell? ⟨wr.heap.size, 2, none⟩ = some (.slice ob obl obc) := H5.out.cellZ (List.mem_singleton.2 rfl) 2
                all_goals have hlz := HLt.out w5 H5.out
                all_goals go_wp2_with (go_at_call 16; refine hlz.mono ?_; rintro e w' ⟨rfl, hw'⟩; obtain rfl := hw'.symm)
                all_goals go_meet
                all_goals
                  have hh := HA.out
                  exact ⟨⟨s.luck.tail, s.late⟩, A, p, c, rfl, hv1, hv2, by omega, H5.out.bare, HP.out, by show s.luck.tail.length ≤ _; rw [List.length_tail]; omega, by show s.late.length ≤ _; omega, by omega⟩
            · have hs1 : sendD s n bs = ⟨s.luck.tail, s.late ++ [⟨n, bs⟩]⟩ := by unfold sendD; rw [hf]; rfl
              have HSe : Hid (∀ W1, Below W0.heap.size W0 W1 → ∀ pp nn cc, Part.ok W1 ⟨pp, nn, cc, bs⟩ → (∀ b off, pp = some ⟨b, off, none⟩ → W0.heap.size ≤ b) → Calls Tryd.prog 12 #[.pointer (some ⟨w.heap.size, 0, none⟩), .int .i64 n, .slice pp nn cc] W1 fun e W' => e = .returned (.tuple #[.int .i64 0, .bool false]) ∧ Hid (Side w W' w.heap.size ⟨s.luck.tail, s.late ++ [⟨n, bs⟩]⟩ (.slice p A.length c) A [(wr.heap.size, #[.int .i64 1, .int .i64 n, .slice ob obl obc, .slice ol oll olc])])) := fun W1 hb pp nn cc hq hq2 => by
                refine (HS.out.sendC hb HT.out n HOK.out.n pp nn cc bs hq hq2 (by omega)).mono ?_
                rintro e W' ⟨rfl, h4⟩
                rw [hf]
                rw [hs1] at h4
                exact ⟨rfl, h4⟩
              have HLt : Hid (∀ W, Side w W w.heap.size ⟨s.luck.tail, s.late ++ [⟨n, bs⟩]⟩ (.slice p A.length c) A [(wr.heap.size, #[.int .i64 1, .int .i64 n, .slice ob obl obc, .slice ol oll olc])] → Calls Tryd.prog 16 #[.pointer (some ⟨w.heap.size, 0, none⟩)] W fun e W' => e = .returned (.int .i64 ((s.late.length : Int) + 1)) ∧ W' = W) := fun W h2 => by
                have := h2.lateC
                simpa using this
              have hL1 : ¬ ((s.late.length : Int) + 1 < (s.late.length : Int)) := by omega
              clear hf hs1 hfl --aux
              as_aux_lemma =>
                go_wp2_with (go_at_call 16; refine hla.mono ?_; rintro e w' ⟨rfl, hw'⟩; obtain rfl := hw'.symm)
                go_region_held3 (fun W => W.cell? ⟨wr.heap.size, 1, none⟩ = some (.int .i64 n) ∧ W.cell? ⟨wr.heap.size, 2, none⟩ = some (.slice ob obl obc)) (first | exact HZ.out _ ((Below.refl _ _).drew) | exact HZ.out _ (((Below.refl _ _).alloc (Nat.le_refl _) _).drew) | exact HZ.out _ hw4 | exact ⟨H5.out.cellZ (List.mem_singleton.2 rfl) 1, H5.out.cellZ (List.mem_singleton.2 rfl) 2⟩)
                  (first
                    | (refine step_app_any (by rfl) _ _ (by rfl) W0.heap.size (.slice (some ⟨W0.heap.size, 0, none⟩) 0 0) 0 [] (by rfl) HE.out ob obl obc bs (by rfl) HOK.out.text.1 HOK.out.text.2.1 HR.out (by have h2 : obl ≤ 1048576 := HOK.out.bl; omega) (by simp) ?_; intro v4 w4 o4 g4; have hw4 : Below W0.heap.size W0 w4 := (((Below.refl _ W0).alloc (Nat.le_refl _) _).drew).grown g4 (by simp) (fun k hk => (by simp [Value.ownBlock] at hk; omega)); obtain ⟨p4, c4, hv4, hq4, hq5⟩ : ∃ p c, v4 = .slice p obl c ∧ Part.ok w4 ⟨p, obl, c, bs⟩ ∧ (∀ b off, p = some ⟨b, off, none⟩ → W0.heap.size ≤ b) := part_of HOK.out.text.1 HOK.out.text.2.2.1 o4; subst hv4; have HQ := hide (HSe.out w4 hw4 p4 obl c4 hq4 hq5); clear o4 g4 hq4 hq5)
                    | (go_at_call 12; (with_reducible_and_instances (refine HQ.out.mono ?_)); rintro e w5 ⟨rfl, H5⟩))
                all_goals have y1 : w5.cell? ⟨wr.heap.size, 1, none⟩ = some (.int .i64 n) := H5.out.cellZ (List.mem_singleton.2 rfl) 1
                all_goals have y2 : w5.cell? ⟨wr.heap.size, 2, none⟩ = some (.slice ob obl obc) := H5.out.cellZ (List.mem_singleton.2 rfl) 2
                all_goals have hlz := HLt.out w5 H5.out
                all_goals have cv := conv_any (HOK.out.text.later H5.out.below).2.2 obl obc HOK.out.text.1
                all_goals simp only at cv
                all_goals go_wp2_with (first
                  | (go_at_call 16; refine hlz.mono ?_; rintro e w' ⟨rfl, hw'⟩; obtain rfl := hw'.symm)
                  | (at_builtin; refine app_off rfl _ _ 51 rfl i0 (.agg #[.int .i64 0, .int .i64 0, .string ⟨#[]⟩]) 32 Tryd.underlying51 hi0 hz0 hz1 hz2 rfl (by decide) (H5.out.row.below ((Below.refl _ _).alloc (Nat.le_refl _) _)) _ 1 1 (allV [⟨⟨n, bs⟩, true⟩]) rfl rfl rfl (snt_src w5 ⟨⟨n, bs⟩, true⟩) (allV_one _) (by unfold maxLen; omega) (by omega) ?_; intro u6 w6 hr6 hg6 hu6; have H6 := hide (H5.out.grow ((Below.refl _ _).alloc (Nat.le_refl _) _) hr6 hg6 hu6); obtain ⟨p6, c6, hv6, hv7, hv8⟩ := hr6.form; subst hv6; clear hr6 hg6 hu6))
                all_goals go_meet
                all_goals
                  have hh := HA.out
                  refine ⟨⟨s.luck.tail, s.late ++ [⟨n, bs⟩]⟩, A ++ [⟨⟨n, bs⟩, true⟩], p6, c6, by rw [List.length_append]; rfl, by rw [List.length_append]; exact hv7, hv8, by rw [List.length_append]; simp; omega, ?_⟩
                  have h6 := H6.out.bare
                  rw [show A.length + 1 = (A ++ [(⟨⟨n, bs⟩, true⟩ : Snt)]).length by simp] at h6
                  exact ⟨h6, by rw [lives_app]; exact HP.out.append_right _, by show s.luck.tail.length ≤ _; rw [List.length_tail]; omega, by show (s.late ++ [_]).length ≤ _; rw [List.length_append]; simp; omega, by rw [List.length_append]; simp; omega⟩
            · have hs1 : sendD s n bs = ⟨s.luck.tail, s.late⟩ := by unfold sendD; rw [hf]; rfl
              have HSe : Hid (∀ W1, Below W0.heap.size W0 W1 → ∀ pp nn cc, Part.ok W1 ⟨pp, nn, cc, bs⟩ → (∀ b off, pp = some ⟨b, off, none⟩ → W0.heap.size ≤ b) → Calls Tryd.prog 12 #[.pointer (some ⟨w.heap.size, 0, none⟩), .int .i64 n, .slice pp nn cc] W1 fun e W' => e = .returned (.tuple #[.int .i64 2, .bool true]) ∧ Hid (Side w W' w.heap.size ⟨s.luck.tail, s.late⟩ (.slice p A.length c) A [(wr.heap.size, #[.int .i64 1, .int .i64 n, .slice ob obl obc, .slice ol oll olc])])) := fun W1 hb pp nn cc hq hq2 => by
                refine (HS.out.sendC hb HT.out n HOK.out.n pp nn cc bs hq hq2 (by omega)).mono ?_
                rintro e W' ⟨rfl, h4⟩
                rw [hf]
                rw [hs1] at h4
                exact ⟨rfl, h4⟩
              have HLt : Hid (∀ W, Side w W w.heap.size ⟨s.luck.tail, s.late⟩ (.slice p A.length c) A [(wr.heap.size, #[.int .i64 1, .int .i64 n, .slice ob obl obc, .slice ol oll olc])] → Calls Tryd.prog 16 #[.pointer (some ⟨w.heap.size, 0, none⟩)] W fun e W' => e = .returned (.int .i64 ((s.late.length : Nat))) ∧ W' = W) := fun W h2 => by
                have := h2.lateC
                exact this
              have hL1 : ¬ ((s.late.length : Int) + 1 < (s.late.length : Int)) := by omega
              clear hf hs1 hfl --aux
              as_aux_lemma =>
                go_wp2_with (go_at_call 16; refine hla.mono ?_; rintro e w' ⟨rfl, hw'⟩; obtain rfl := hw'.symm)
                go_region_held3 (fun W => W.cell? ⟨wr.heap.size, 1, none⟩ = some (.int .i64 n) ∧ W.cell? ⟨wr.heap.size, 2, none⟩ = some (.slice ob obl obc)) (first | exact HZ.out _ ((Below.refl _ _).drew) | exact HZ.out _ (((Below.refl _ _).alloc (Nat.le_refl _) _).drew) | exact HZ.out _ hw4 | exact ⟨H5.out.cellZ (List.mem_singleton.2 rfl) 1, H5.out.cellZ (List.mem_singleton.2 rfl) 2⟩)
                  (first
                    | (refine step_app_any (by rfl) _ _ (by rfl) W0.heap.size (.slice (some ⟨W0.heap.size, 0, none⟩) 0 0) 0 [] (by rfl) HE.out ob obl obc bs (by rfl) HOK.out.text.1 HOK.out.text.2.1 HR.out (by have h2 : obl ≤ 1048576 := HOK.out.bl; omega) (by simp) ?_; intro v4 w4 o4 g4; have hw4 : Below W0.heap.size W0 w4 := (((Below.refl _ W0).alloc (Nat.le_refl _) _).drew).grown g4 (by simp) (fun k hk => (by simp [Value.ownBlock] at hk; omega)); obtain ⟨p4, c4, hv4, hq4, hq5⟩ : ∃ p c, v4 = .slice p obl c ∧ Part.ok w4 ⟨p, obl, c, bs⟩ ∧ (∀ b off, p = some ⟨b, off, none⟩ → W0.heap.size ≤ b) := part_of HOK.out.text.1 HOK.out.text.2.2.1 o4; subst hv4; have HQ := hide (HSe.out w4 hw4 p4 obl c4 hq4 hq5); clear o4 g4 hq4 hq5)
                    | (go_at_call 12; (with_reducible_and_instances (refine HQ.out.mono ?_)); rintro e w5 ⟨rfl, H5⟩))
                all_goals have y1 : w5.cell? ⟨wr.heap.size, 1, none⟩ = some (.int .i64 n) := H5.out.cellZ (List.mem_singleton.2 rfl) 1
                all_goals have y2 : w5.cell? ⟨wr.heap.size, 2, none⟩ = some (.slice ob obl obc) := H5.out.cellZ (List.mem_singleton.2 rfl) 2
                all_goals have hlz := HLt.out w5 H5.out
                all_goals go_wp2_with (go_at_call 16; refine hlz.mono ?_; rintro e w' ⟨rfl, hw'⟩; obtain rfl := hw'.symm)
                all_goals go_meet
                all_goals
                  have hh := HA.out
                  exact ⟨⟨s.luck.tail, s.late⟩, A, p, c, rfl, hv1, hv2, by omega, H5.out.bare, HP.out, by show s.luck.tail.length ≤ _; rw [List.length_tail]; omega, by show s.late.length ≤ _; omega, by omega⟩
          · have hn1 : (kd == 1) = false := by simpa using hk1
            by_cases hk4 : kd = 4
            · subst hk4
              obtain ⟨i0, hi0, hz0, hz1, hz2⟩ := info_parts Tryd.infoS
              have hms : Calls Tryd.prog 13 #[.pointer (some ⟨w.heap.size, 0, none⟩), .int .i64 n] W0 fun e W' => ∃ Q : Part, e = .returned (.tuple #[.int .i64 (msgD s n).to, .slice Q.ad Q.len Q.cap, .bool (hasD s n)]) ∧ Hid (Q.l = (msgD s n).b ∧ Q.ok W' ∧ (∀ b off, Q.ad = some ⟨b, off, none⟩ → W0.heap.size ≤ b) ∧ Side w W' w.heap.size s (.slice p A.length c) A [(wr.heap.size, #[.int .i64 4, .int .i64 n, .slice ob obl obc, .slice ol oll olc])] ∧ Below W0.heap.size W0 W') := by
                refine (HS.out.messageC n).mono ?_
                rintro e W' ⟨⟨Q, rfl, q1, q2, q3⟩, h4, h5⟩
                exact ⟨Q, rfl, q1, q2, q3, h4, h5⟩
              have HDb : Hid (∀ W (Q : Part), Q.ok W → (∀ b off, Q.ad = some ⟨b, off, none⟩ → W0.heap.size ≤ b) → Below W0.heap.size W0 W → Calls Tryd.prog 15 #[.pointer (some ⟨w.heap.size, 0, none⟩), .int .i64 n] W fun e W' => e = .returned (.bool (hasD s n)) ∧ Hid (Side w W' w.heap.size (doubleD s n) (.slice p A.length c) A [(wr.heap.size, #[.int .i64 4, .int .i64 n, .slice ob obl obc, .slice ol oll olc])] ∧ Q.ok W')) := fun W Q h2 h3 h4 => by
                refine (Side.doubleC n (by omega) h2 h3 HS.out h4).mono ?_
                rintro e W' ⟨rfl, h5, h6⟩
                exact ⟨rfl, h5, h6⟩
              cases hhd : hasD s n with
              | false =>
                as_aux_lemma =>
                  rw [hhd] at hms HDb
                  have hdd : doubleD s n = s := by unfold doubleD; rw [hhd]; rfl
                  rw [hdd] at HDb
                  clear hhd hdd
                  go_wp2_with (first
                    | (go_at_call 13; refine hms.mono ?_; rintro e w3 ⟨Q, rfl, H3⟩; have y1 : w3.cell? ⟨wr.heap.size, 1, none⟩ = some (.int .i64 n) := H3.out.2.2.2.1.cellZ (List.mem_singleton.2 rfl) 1; have HD := hide (HDb.out w3 Q H3.out.2.1 H3.out.2.2.1 H3.out.2.2.2.2))
                    | (go_at_call 15; (with_reducible_and_instances (refine HD.out.mono ?_)); rintro e w4 ⟨rfl, H4⟩; clear HD))
                  go_meet
                  case rel =>
                    have hh := HA.out
                    exact ⟨s, A, p, c, rfl, hv1, hv2, by omega, H4.out.1.bare, HP.out, by omega, by omega, by omega⟩
              | true =>
                as_aux_lemma =>
                  rw [hhd] at hms HDb
                  have hdd : doubleD s n = ⟨s.luck, s.late ++ [msgD s n]⟩ := by unfold doubleD; rw [hhd]; rfl
                  rw [hdd] at HDb
                  generalize msgD s n = mg at *
                  clear hhd hdd
                  obtain ⟨mt, mb⟩ := mg
                  go_wp2_with (first
                    | (go_at_call 13; refine hms.mono ?_; rintro e w3 ⟨Q, rfl, H3⟩; have y1 : w3.cell? ⟨wr.heap.size, 1, none⟩ = some (.int .i64 n) := H3.out.2.2.2.1.cellZ (List.mem_singleton.2 rfl) 1; have HD := hide (HDb.out w3 Q H3.out.2.1 H3.out.2.2.1 H3.out.2.2.2.2))
                    | (go_at_call 15; (with_reducible_and_instances (refine HD.out.mono ?_)); rintro e w4 ⟨rfl, H4⟩; clear HD; have cv := conv_any H4.out.2.2.2 Q.len Q.cap H4.out.2.1; rw [H3.out.1] at cv)
                    | (at_builtin; refine app_off rfl _ _ 51 rfl i0 (.agg #[.int .i64 0, .int .i64 0, .string ⟨#[]⟩]) 32 Tryd.underlying51 hi0 hz0 hz1 hz2 rfl (by decide) (H4.out.1.row.below ((Below.refl _ _).alloc (Nat.le_refl _) _)) _ 1 1 (allV [⟨⟨mt, mb⟩, true⟩]) rfl rfl rfl (snt_src w4 ⟨⟨mt, mb⟩, true⟩) (allV_one _) (by unfold maxLen; omega) (by omega) ?_; intro u6 w6 hr6 hg6 hu6; have H6 := hide (H4.out.1.grow ((Below.refl _ _).alloc (Nat.le_refl _) _) hr6 hg6 hu6); obtain ⟨p6, c6, hv6, hv7, hv8⟩ := hr6.form; subst hv6; clear hr6 hg6 hu6))
                  go_meet
                  case rel =>
                    have hh := HA.out
                    refine ⟨⟨s.luck, s.late ++ [⟨mt, mb⟩]⟩, A ++ [⟨⟨mt, mb⟩, true⟩], p6, c6, by rw [List.length_append]; rfl, by rw [List.length_append]; exact hv7, hv8, by rw [List.length_append]; simp; omega, ?_⟩
                    have h6 := H6.out.bare
                    rw [show A.length + 1 = (A ++ [(⟨⟨mt, mb⟩, true⟩ : Snt)]).length by simp] at h6
                    exact ⟨h6, by rw [lives_app]; exact HP.out.append_right _, by show s.luck.length ≤ _; omega, by show (s.late ++ [_]).length ≤ _; rw [List.length_append]; simp; omega, by rw [List.length_append]; simp; omega⟩
            · have hn4 : (kd == 4) = false := by simpa using hk4
              have hla := HS.out.lateC
              have htc : Calls Tryd.prog 14 #[.pointer (some ⟨w.heap.size, 0, none⟩), .int .i64 n] W0 fun e W' => ∃ Q : Part, e = .returned (.tuple #[.int .i64 (msgD s n).to, .slice Q.ad Q.len Q.cap, .bool (hasD s n)]) ∧ Hid (Q.l = (msgD s n).b ∧ Q.ok W' ∧ (∀ b off, Q.ad = some ⟨b, off, none⟩ → W0.heap.size ≤ b) ∧ Side w W' w.heap.size (takeD s n) (.slice p A.length c) A [(wr.heap.size, #[.int .i64 kd, .int .i64 n, .slice ob obl obc, .slice ol oll olc])]) := by
                refine (HS.out.takeC n).mono ?_
                rintro e W' ⟨⟨Q, rfl, q1, q2, q3⟩, h4⟩
                exact ⟨Q, rfl, q1, q2, q3, h4⟩
              cases hhd : hasD s n with
              | false =>
                rw [hhd] at htc
                have hdd : takeD s n = s := by unfold takeD; rw [hhd]; rfl
                rw [hdd] at htc
                have hcase : n < 0 ∨ ((s.late.length : Int) ≤ n ∧ 0 ≤ n) := by
                  simp [hasD] at hhd
                  omega
                clear hhd hdd --aux
                as_aux_lemma =>
                  rcases hcase with hc0 | ⟨hc0, hc1⟩
                  all_goals
                    go_wp2_with (first
                      | (go_at_call 16; refine hla.mono ?_; rintro e w' ⟨rfl, hw'⟩; obtain rfl := hw'.symm)
                      | (go_at_call 14; refine htc.mono ?_; rintro e w3 ⟨Q, rfl, H3⟩; have y1 : w3.cell? ⟨wr.heap.size, 1, none⟩ = some (.int .i64 n) := H3.out.2.2.2.cellZ (List.mem_singleton.2 rfl) 1; have hlb2 := H3.out.2.2.2.lateC)
                      | (go_at_call 16; refine hlb2.mono ?_; rintro e w' ⟨rfl, hw'⟩; obtain rfl := hw'.symm))
                  all_goals
                    go_loopw [17, 18] (fun fd k wt => fd = .bool true ∧ k = .int .i64 0 ∧ wt = w3) (fun _ _ _ => 0)
                    case atStart => exact ⟨rfl, rfl, rfl⟩
                    case round =>
                      obtain ⟨rfl, rfl, rfl⟩ := hrel
                      go_wp2_with fail
                      all_goals go_meet
                      all_goals
                        have hh := HA.out
                        exact ⟨s, A, p, c, rfl, hv1, hv2, by omega, H3.out.2.2.2.bare, HP.out, by omega, by omega, by omega⟩
              | true =>
                rw [hhd] at htc
                have hcase : 0 ≤ n ∧ n < (s.late.length : Int) := by
                  simp [hasD] at hhd
                  exact hhd
                obtain ⟨hc0, hc1⟩ := hcase
                have hlen : ((takeD s n).late.length : Int) = (s.late.length : Int) - 1 := by
                  obtain ⟨i, hi, rfl, -⟩ := has_yes hhd
                  unfold takeD
                  rw [hhd]
                  show (((s.late.eraseIdx i).length : Nat) : Int) = _
                  rw [List.length_eraseIdx_of_lt hi]
                  omega
                have hmem : ∃ (k : Nat) (hk : k < A.length), A[k].live = true ∧ A[k].m = msgD s n := by
                  obtain ⟨i, hi, rfl, hm⟩ := has_yes hhd
                  rw [hm]
                  exact lives_mem (HP.out.mem_iff.2 (List.getElem_mem hi))
                have HHD := hide hhd
                have HLT : Hid (∀ W A' Z, Side w W w.heap.size (takeD s n) (.slice p A.length c) A' Z → Calls Tryd.prog 16 #[.pointer (some ⟨w.heap.size, 0, none⟩)] W fun e W' => e = .returned (.int .i64 ((s.late.length : Int) - 1)) ∧ W' = W) := fun W A' Z h => by
                  have := h.lateC
                  rw [hlen] at this
                  exact this
                have HMEM := hide hmem
                obtain ⟨mt, hmt⟩ : ∃ mt, mt = (msgD s n).to := ⟨_, rfl⟩
                obtain ⟨mb, hmb⟩ : ∃ mb, mb = (msgD s n).b := ⟨_, rfl⟩
                have HMG : Hid (msgD s n = ⟨mt, mb⟩) := by rw [hmt, hmb]; rfl
                have HMB : Hid (∀ x ∈ mb, x < 256) := by rw [hmb]; exact (msgD_ok HS.out.ok n).2
                rw [← hmt, ← hmb] at htc
                clear hhd hlen hmem hmt hmb --aux
                as_aux_lemma =>
                  go_wp2_with (first
                    | (go_at_call 16; refine hla.mono ?_; rintro e w' ⟨rfl, hw'⟩; obtain rfl := hw'.symm)
                    | (go_at_call 14; refine htc.mono ?_; rintro e w3 ⟨Q, rfl, H3⟩; have y1 : w3.cell? ⟨wr.heap.size, 1, none⟩ = some (.int .i64 n) := H3.out.2.2.2.cellZ (List.mem_singleton.2 rfl) 1; have hlb2 := HLT.out w3 A _ H3.out.2.2.2)
                    | (go_at_call 16; refine hlb2.mono ?_; rintro e w' ⟨rfl, hw'⟩; obtain rfl := hw'.symm))
                  go_loopw [17, 18] (fun fd k wt => ∃ j : Nat, j ≤ A.length ∧ k = .int .i64 j ∧ ((fd = .bool false ∧ Hid (∀ (i : Nat) (hi : i < A.length), i < j → ¬ (A[i].live = true ∧ A[i].m = ⟨mt, mb⟩)) ∧ Hid (Below w3.heap.size w3 wt)) ∨ (fd = .bool true ∧ Hid (∃ (i : Nat) (hi : i < A.length), A[i].live = true ∧ A[i].m = ⟨mt, mb⟩ ∧ Side w wt w.heap.size (takeD s n) (.slice p A.length c) (kill A i) [])))) (fun _ k _ => A.length - (intOf k).toNat)
                  case atStart => exact ⟨0, by omega, rfl, Or.inl ⟨rfl, hide (fun i hi h => by omega), hide (Below.refl _ _)⟩⟩
                  case round =>
                    obtain ⟨j, hj, rfl, hfd⟩ := hrel
                    rcases hfd with ⟨rfl, HN, HBW⟩ | ⟨rfl, HY⟩
                    · by_cases hjl : j < A.length
                      · obtain ⟨g, o, cp, hv, hv3, hv4, k0, k1, k2, k3⟩ := (H3.out.2.2.2.later HBW.out).cell j hjl
                        cases hv
                        have hcv := conv_drewN (H3.out.2.1.later HBW.out).2.2 Q.len Q.cap H3.out.2.1.1
                        rw [H3.out.1] at hcv
                        have HBI : Hid (∀ x : List Nat, A[j].live = true → bstr A[j].m.b = bstr mb → A[j].m.b = mb) := fun _ h4 h5 => by
                          have h6 : A[j].m ∈ lives A := by
                            unfold lives
                            exact List.mem_map.2 ⟨A[j], List.mem_filter.2 ⟨List.getElem_mem hjl, by simpa using h4⟩, rfl⟩
                          have h7 := (HS.out.ok.late _ (HP.out.mem_iff.1 h6)).2
                          rw [← sbytes_bstr _ h7, h5, sbytes_bstr _ HMB.out]
                        have HNX : Hid (¬ (A[j].live = true ∧ A[j].m = ⟨mt, mb⟩) → ∀ (i : Nat) (hi : i < A.length), i < j + 1 → ¬ (A[i].live = true ∧ A[i].m = ⟨mt, mb⟩)) := fun h4 i hi h5 => by
                          by_cases h6 : i = j
                          · subst h6; exact h4
                          · exact HN.out i hi (by omega)
                        by_cases e1 : A[j].m.to = mt
                        · have e1b : (A[j].m.to == mt) = true := by simpa using e1
                          by_cases e2 : bstr A[j].m.b = bstr mb
                          · have e2b : ((bstr A[j].m.b).toList == (bstr mb).toList) = true := by rw [e2]; simp
                            cases hlv : A[j].live with
                            | false =>
                              rw [show liveN A[j] = 0 by unfold liveN; rw [hlv]; rfl] at k1
                              have HNY := hide (HNX.out (fun h => by rw [hlv] at h; exact absurd h.1 (by decide)))
                              generalize A[j].m.to = xt at *
                              generalize bstr A[j].m.b = xb at *
                              generalize bstr mb = yb at *
                              subst e1 e2
                              clear HNX HBI hlv HN e1b e2b --aux
                              as_aux_lemma =>
                                go_wp2_with fail
                                go_quiet (fail)
                                all_goals go_wp2_with fail
                                all_goals refine ⟨⟨j + 1, by omega, by go_num, Or.inl ⟨rfl, HNY, hide (below_drewN' HBW.out _)⟩⟩, by simp [intOf]; omega⟩
                            | true =>
                              rw [show liveN A[j] = 1 by unfold liveN; rw [hlv]; rfl] at k1
                              have HEQ := hide (show A[j].m = ⟨mt, mb⟩ by
                                have h5 := HBI.out [] hlv e2
                                rw [← e1, ← h5])
                              have HLV := hide hlv
                              generalize A[j].m.to = xt at *
                              generalize bstr A[j].m.b = xb at *
                              generalize bstr mb = yb at *
                              subst e1 e2
                              clear HNX HBI hlv HN e1b e2b --aux
                              as_aux_lemma =>
                                go_wp2_with fail
                                go_quiet (fail)
                                all_goals go_wp2_with fail
                                all_goals refine ⟨⟨j + 1, by omega, by go_num, Or.inr ⟨rfl, j, hjl, HLV.out, HEQ.out, ?_⟩⟩, by simp [intOf]; omega⟩
                                all_goals exact ((H3.out.2.2.2.later (below_drewN' HBW.out _)).killC j hjl).bare
                          · have e2b : ((bstr A[j].m.b).toList == (bstr mb).toList) = false := by
                              rw [Bool.eq_false_iff]
                              intro h
                              exact e2 (bytes_list (by simpa using h))
                            have HNY := hide (HNX.out (fun h => e2 (by rw [h.2])))
                            generalize A[j].m.to = xt at *
                            generalize bstr A[j].m.b = xb at *
                            generalize bstr mb = yb at *
                            subst e1
                            clear HNX HBI HN e1b e2 --aux
                            as_aux_lemma =>
                              go_wp2_with fail
                              go_quiet (fail)
                              all_goals go_wp2_with fail
                              all_goals refine ⟨⟨j + 1, by omega, by go_num, Or.inl ⟨rfl, HNY, hide (below_drewN' HBW.out _)⟩⟩, by simp [intOf]; omega⟩
                        · have e1b : (A[j].m.to == mt) = false := by simpa using e1
                          have HNY := hide (HNX.out (fun h => e1 (by rw [h.2])))
                          generalize A[j].m.to = xt at *
                          clear HNX HBI HN e1 --aux
                          as_aux_lemma =>
                            go_wp2_with fail
                            go_quiet (fail)
                            all_goals go_wp2_with fail
                            all_goals refine ⟨⟨j + 1, by omega, by go_num, Or.inl ⟨rfl, HNY, hide (below_drewN' HBW.out _)⟩⟩, by simp [intOf]; omega⟩
                      · exfalso
                        obtain ⟨i, hi, h4, h5⟩ := HMEM.out
                        rw [HMG.out] at h5
                        exact HN.out i hi (by omega) ⟨h4, h5⟩
                    · go_wp2_with fail
                      all_goals go_meet
                      all_goals
                        obtain ⟨i, hi, h4, h5, h6⟩ := HY.out
                        have hh := HA.out
                        refine ⟨takeD s n, kill A i, p, c, by rw [kill_len], by rw [kill_len]; exact hv1, hv2, by rw [kill_len]; omega, ?_⟩
                        have h7 := Mk.take hi h4 HHD.out (by rw [h5, HMG.out]) HP.out hh.1 hh.2.1 hh.2.2 h6
                        rw [kill_len]
                        exact h7
    · obtain rfl : m = len := by omega
      go_wp2_with fail
      go_ret
      exact ⟨rfl, HM.out.side.below⟩
end Go.Proofs.YtgbjlkaaniaaaaaDoor
