/- fill: appends that nobody heard of stand where nobody saw what does. -/
import Derived.Test.YtpjemifoilbjeaaHHear
import Derived.Test.YtpjemifoilbjeaaHUnd
import Derived.WalkMore
namespace Go.Proofs.Ytpjemifoilbjeaa
open Go.RowKit Hy
variable {w w' w0 W : World} {g M1 M2 n : Nat} {s : Sd} {A : List HcA} {ad : Option Addr} {m c : Nat}

theorem put_false {x p : Int} (h : (put s x p).1 = false) : (put s x p).2 = s := by
  unfold put at h ⊢
  cases h1 : s.1 p with
  | some t => rfl
  | none =>
    rw [h1] at h
    cases h2 : s.2 x with
    | some q => rfl
    | none => rw [h2] at h; simp at h
/-- What becomes of a place that is free, with those that wait. -/
noncomputable def popF (p : Int) (ps w : List Int) (s : Sd) : Option Sd := match popS p w s with
  | none => none
  | some (w', s') => fillS ps w' s'
theorem popF_nil (p : Int) (ps : List Int) (s : Sd) : popF p ps [] s = none := rfl
theorem popF_yes {p u : Int} {ps w : List Int} {s : Sd} (h : (put s u p).1 = true) : popF p ps (u :: w) s = fillS ps w (put s u p).2 := by
  unfold popF
  show (match (if (put s u p).1 then some (w, (put s u p).2) else popS p w s) with
    | none => none
    | some (w', s') => fillS ps w' s') = _
  rw [if_pos h]
theorem popF_no {p u : Int} {ps w : List Int} {s : Sd} (h : (put s u p).1 = false) : popF p ps (u :: w) s = popF p ps w s := by
  unfold popF
  show (match (if (put s u p).1 then some (w, (put s u p).2) else popS p w s) with
    | none => none
    | some (w', s') => fillS ps w' s') = _
  rw [if_neg (by rw [h]; simp)]
theorem fill_there {p : Int} {ps w : List Int} {s : Sd} {t : Int} (h : s.1 p = some t) : fillS (p :: ps) w s = fillS ps w s := by
  show (if (s.1 p).isSome then fillS ps w s else _) = _
  rw [h, if_pos (show (some t).isSome = true from rfl)]
theorem fill_free {p : Int} {ps w : List Int} {s : Sd} (h : s.1 p = none) : fillS (p :: ps) w s = popF p ps w s := by
  show (if (s.1 p).isSome then fillS ps w s else _) = _
  rw [h, if_neg (show ¬ (none : Option Int).isSome = true by simp)]
  rfl
theorem plN_drop {N : Int} {k : Nat} (h : (k : Int) < N) : (plN N).drop k = (k : Int) :: (plN N).drop (k + 1) := by
  have hl : k < (plN N).length := by unfold plN; simp; omega
  have e : (plN N)[k]? = some (k : Int) := by
    unfold plN
    rw [List.getElem?_map, List.getElem?_range (by omega)]
    rfl
  rw [List.getElem?_eq_getElem hl] at e
  injection e with e
  rw [List.drop_eq_getElem_cons hl, e]
theorem plN_end {N : Int} {k : Nat} (h : N ≤ (k : Int)) : (plN N).drop k = [] := List.drop_of_length_le (by unfold plN; simp; omega)
/-- The first of a row less. -/
theorem ArgK.tail {α : Type} {K : Kd α} {x : α} {l : List α} {b off m c : Nat} (h : ArgK K w (x :: l) (some ⟨b, off, none⟩) (m + 1) c) : ArgK K w l (some ⟨b, off + K.sz, none⟩) m (c - 1) := by
  have h1 := h.cap
  have h2 := h.room
  refine ⟨by have := h.len; simp at this; omega, (fun e => by cases e), by omega, by omega, ?_⟩
  rcases h.row with e | ⟨b', o', e, hb, hc⟩
  · cases e
  · injection e with e
    injection e with e1 e2
    subst e1 e2
    refine Or.inr ⟨b, off + K.sz, rfl, hb, fun i hi cc hcc => ?_⟩
    have := hc (i + 1) (by simp; omega) cc hcc
    rw [show off + K.sz + i * K.sz + cc = off + (i + 1) * K.sz + cc by rw [Nat.add_mul]; omega, this]
    rfl
def slLen : Value → Nat
  | .slice _ k _ => k
  | _ => 0
set_option maxRecDepth 20000 in
set_option maxHeartbeats 4000000 in
theorem fill_any (hA : HV kC w0 A ad m c) (hb : Below w0.heap.size w0 w) (h : SP w g M1 M2 n s) (hM1 : w0.heap.size ≤ M1) (hM2 : w0.heap.size ≤ M2) (hR : Right (cls A)) (hn : n ≤ 1000000000) :
    Calls Try.prog 23 #[.pointer (some ⟨g, 0, none⟩), .slice ad m c] w fun e w' => ∃ ws : List Int, ws.Perm (undN 0 (cls A)) ∧ ws.Pairwise (fun u v => (ca (cls A) u.toNat).bg ≤ (ca (cls A) v.toNat).bg) ∧ SPost (fillS (plN (shownN (cls A))) ws s) w0.heap.size g M1 M2 (n + 1000) w e w' := by
  have hl := hA.row.len
  have hm1 : m ≤ 1000 := by rw [← hl, ← cls_len]; exact hR.1
  have HA := hid hA
  have HB := hid hb
  have HL := hid hl
  have HR := hid hR
  have HS0 := hid h
  have HM1 := hid hM1
  have HM2 := hid hM2
  have HL1 : Hid (M1 < w.heap.size ∧ M2 < w.heap.size) := ⟨h.by1.lt, h.by2.lt⟩
  have HU := hid (undone_any (hA.later hb) (by omega))
  have HRb : Hid (rightB (cls A) = true) := rightB_yes hR
  have HSh : Hid (∀ W, Below w0.heap.size w0 W → Calls Try.prog 14 #[.slice ad m c] W fun e w' => e = .returned (.int .i64 (shownN (cls A))) ∧ Below W.heap.size W w') := fun W hW => Shown_right (hA.later hW) hR ((Right_any (hA.later hW)).mono (fun e w' h => by rw [HRb.out] at h; exact h))
  have hN0 := shown_nn (l := cls A)
  have hN1 : shownN (cls A) ≤ 1000 := shown_le (by omega) (fun x hx hd => by
    have h1 := may_vals (hR.2.1 x hx)
    unfold Hc.shows
    cases hr : x.rd with
    | true => rw [if_pos rfl]; have := h1.2.2.2.2.2.2; omega
    | false => rw [if_neg (by simp)]; have := h1.2.2.2.2.2.1 hr; omega)
  obtain ⟨N, hN⟩ : ∃ N, shownN (cls A) = N := ⟨_, rfl⟩
  rw [hN] at HSh hN0 hN1 ⊢
  clear hA hb hl hR h hM1 hM2 hN
  go_enter Try.func23, Try.ntmps23
  go_wp2_with fail
  go_step3
  go_wp2_with (go_at_call 34; (with_reducible_and_instances (refine HU.out.mono ?_)); rintro e w1 ⟨v, ws, rfl, hp, hs, hO, hb1⟩; obtain ⟨wa, wc, rfl, hAr⟩ := hO.form kZ_ok.tofit; have HP := hid hp; have HSo := hid hs; have HO1 := hid hO; have HAr := hid hAr; have HB1 := hid hb1; have HBw1 : Hid (Below w0.heap.size w w1) := hid (hb1.mono HB.out.size); have HSh1 := hid (HSh.out w1 (HB.out.trans HBw1.out)); clear hp hs hO hAr hb1)
  go_step3
  go_wp2_with (go_at_call 14; (with_reducible_and_instances (refine HSh1.out.mono ?_)); rintro e w2 ⟨rfl, hb2⟩; have HB2 := hid (HB1.out.trans (hb2.mono HB1.out.size)); have HAr2 := hid (HAr.out.later hb2); have HS2 := hid ((HS0.out.later HB1.out).later hb2); clear hb2)
  have HLn : Hid (ws.length ≤ 1000) := by
    show _ ≤ _
    rw [HP.out.length_eq]
    have := sub_len (undN 0 (cls A)) ((List.range m).map (fun k : Nat => (k : Int))) (undN_nodup _ _) (fun x hx => by
      obtain ⟨k, hk, -, -, e⟩ := (undN_mem _ _).1 hx
      rw [cls_len, HL.out] at hk
      exact List.mem_map.2 ⟨k, List.mem_range.2 hk, by rw [e]; simp⟩)
    simp at this
    omega
  have HIn : Hid (∀ u ∈ ws, 0 ≤ u ∧ u ≤ 1000) := fun u hu => by
    obtain ⟨k, hk, -, -, e⟩ := (undN_mem _ _).1 (HP.out.mem_iff.1 hu)
    rw [cls_len, HL.out] at hk
    omega
  have HNb : Hid (∀ b off, wa = some ⟨b, off, none⟩ → b ∉ [M1, M2]) := fun b off e hm => by
    have h1 := HL1.out
    subst e
    have h2 := (HO1.out.block b rfl).1
    simp only [List.mem_cons, List.not_mem_nil, or_false] at hm
    omega
  obtain ⟨T, hT⟩ : ∃ T, fillS (plN N) ws s = T := ⟨_, rfl⟩
  have HT0 : Hid (fillS ((plN N).drop 0) ws s = T) := hT
  have HTe := hid hT
  clear hT
  go_loopw [14, 5] (fun iv sv wr => ∃ (p j : Nat) (l : List Int) (a : Option Addr) (k cc : Nat) (sp : Sd), (p : Int) ≤ N ∧ iv = .int .i64 (p : Int) ∧ sv = .slice a k cc ∧ j + k = ws.length ∧ (∀ b off, a = some ⟨b, off, none⟩ → b ∉ [M1, M2]) ∧ Hid (ArgK kZ w2 l a k cc) ∧ Hid (∀ u ∈ l, 0 ≤ u ∧ u ≤ 1000) ∧ Hid (SP wr g M1 M2 (n + j) sp) ∧ Hid (fillS ((plN N).drop p) l sp = T) ∧ Hid (Chg [M1, M2] w2 wr)) (fun iv _ _ => N.toNat - (intOf iv).toNat)
  case atStart => exact ⟨0, 0, ws, wa, ws.length, wc, s, by omega, rfl, rfl, by omega, HNb.out, HAr2, HIn, HS2, HT0, Chg.refl _ _⟩
  case round =>
    obtain ⟨p, j, l, a, k, cc, sp, hp, rfl, rfl, hjk, hna, HAl, HInl, HS, HT, HC⟩ := hrel
    obtain ⟨wp, rfl⟩ : ∃ q, q = wr := ⟨wr, rfl⟩
    have hl9 := HLn.out
    have HBr : Hid (Below w0.heap.size w wp) := chg_low HB.out HB2.out HC.out HM1.out HM2.out
    clear HT0 HAr HAr2 HS2
    by_cases hlt : (p : Int) < N
    · have hr := MapF.look_ok HS.out.by1 keyI Try.underlying51 (zeroI wp) (key := .int .i64 (p : Int)) (keyOf_z (by omega) (by omega))
      rw [intF_z] at hr
      have c0 : wp.cell? ⟨g, 0, none⟩ = some (.map (some M1)) := HS.out.box.cell 0
      have hT := HT.out
      rw [plN_drop hlt] at hT
      cases hat : sp.1 (p : Int) with
      | some t =>
        rw [hat] at hr
        simp only [Option.map_some, Option.getD_some, Option.isSome_some] at hr
        rw [fill_there hat] at hT
        have HTn := hid hT
        clear hat hT
        go_wp2_with fail
        exact ⟨⟨p + 1, j, l, a, k, cc, sp, by omega, by go_num, rfl, hjk, hna, HAl, HInl, HS, HTn, HC⟩, by simp [intOf]; omega⟩
      | none =>
        rw [hat] at hr
        simp only [Option.map_none, Option.getD_none, Option.isSome_none] at hr
        rw [fill_free hat] at hT
        have HTn := hid hT
        clear hat hT
        go_wp2_with fail
        go_loopw [5] (fun sv wr => ∃ (j : Nat) (l : List Int) (a : Option Addr) (k cc : Nat), sv = .slice a k cc ∧ j + k = ws.length ∧ (∀ b off, a = some ⟨b, off, none⟩ → b ∉ [M1, M2]) ∧ Hid (ArgK kZ w2 l a k cc) ∧ Hid (∀ u ∈ l, 0 ≤ u ∧ u ≤ 1000) ∧ Hid (SP wr g M1 M2 (n + j) sp) ∧ Hid (popF (p : Int) ((plN N).drop (p + 1)) l sp = T) ∧ Hid (Chg [M1, M2] w2 wr)) (fun sv _ => slLen sv)
        case atStart => exact ⟨j, l, a, k, cc, rfl, hjk, hna, HAl, HInl, HS, HTn, HC⟩
        case round =>
          obtain ⟨j2, l2, a2, k2, cc2, rfl, hjk2, hna2, HAl2, HInl2, HS2, HT2, HC2⟩ := hrel
          obtain ⟨wq, rfl⟩ : ∃ q, q = wr := ⟨wr, rfl⟩
          clear hr c0
          have HBq : Hid (Below w0.heap.size w wq) := chg_low HB.out HB2.out HC2.out HM1.out HM2.out
          cases l2 with
          | nil =>
            obtain rfl : k2 = 0 := HAl2.out.len.symm
            have HTz : Hid (T = none) := HT2.out.symm
            go_wp2_with fail
            (try rw [Exit.noGoto_ret])
            go_ret
            exact ⟨ws, HP.out, HSo.out, Or.inr ⟨HTe.out.trans HTz.out, rfl⟩, HBq.out⟩
          | cons u l3 =>
            obtain ⟨k3, rfl⟩ : ∃ k3, k2 = k3 + 1 := ⟨l3.length, by have := HAl2.out.len; simpa using this.symm⟩
            obtain ⟨bq, oq, rfl, hbq, hcq⟩ := HAl2.out.cells (by omega)
            have hnq := hna2 bq oq rfl
            have q0 : wq.cell? ⟨bq, oq, none⟩ = some (.int .i64 u) := (HC2.out.cell hbq hnq).trans (hcq 0 (by omega) 0 (by decide))
            have hcap2 := HAl2.out.cap
            have hroom2 := HAl2.out.room
            have hu := HInl2.out u (by simp)
            have HAl3 : Hid (ArgK kZ w2 l3 (if cc2 = 1 then some ⟨bq, oq, none⟩ else some ⟨bq, oq + 1, none⟩) k3 (cc2 - 1)) := by
              show ArgK kZ w2 l3 _ k3 (cc2 - 1)
              have h1 := HAl2.out.tail
              split
              · rename_i e
                have hk3 : k3 = 0 := by omega
                have hl3 : l3 = [] := List.eq_nil_of_length_eq_zero (by rw [h1.len]; exact hk3)
                exact ⟨h1.len, (fun e => by cases e), h1.cap, h1.room, Or.inl hl3⟩
              · exact h1
            have HInl3 : Hid (∀ u ∈ l3, 0 ≤ u ∧ u ≤ 1000) := fun x hx => HInl2.out x (by simp [hx])
            have HPu := hid (put_any HS2.out (by unfold maxLen; omega) u (p : Int) ⟨by omega, by omega⟩ ⟨by omega, by omega⟩)
            have hc64 : cc2 ≤ 9223372036854775807 := by unfold maxLen at hroom2; omega
            have HN3 : Hid (∀ b off, (if cc2 = 1 then some (⟨bq, oq, none⟩ : Addr) else some ⟨bq, oq + 1, none⟩) = some ⟨b, off, none⟩ → b ∉ [M1, M2]) := fun b off e => by
              split at e <;> (injection e with e; injection e with e1 e2; rw [← e1]; exact hnq)
            clear hbq hcq hcap2 hroom2 hnq hna2 hna
            cases hpt : (put sp u (p : Int)).1 with
            | true =>
              have HT3 : Hid (fillS ((plN N).drop (p + 1)) l3 (put sp u (p : Int)).2 = T) := (popF_yes hpt).symm.trans HT2.out
              rw [hpt] at HPu
              clear hpt
              go_wp2_with (go_at_call 33; (with_reducible_and_instances (refine HPu.out.mono ?_)); rintro e w3 ⟨rfl, hs3, hc3⟩; have HS3 := hid hs3; have HC3 := hid (HC2.out.trans hc3 (fun k hk => Or.inl hk)); clear hs3 hc3)
              exact ⟨⟨p + 1, j2 + 1, l3, _, k3, cc2 - 1, _, by omega, by go_num, rfl, by omega, HN3.out, HAl3, HInl3, HS3, HT3, HC3⟩, by simp [intOf]; omega⟩
            | false =>
              have HT3 : Hid (popF (p : Int) ((plN N).drop (p + 1)) l3 sp = T) := (popF_no hpt).symm.trans HT2.out
              have hpf := put_false hpt
              rw [hpt, hpf] at HPu
              clear hpt hpf
              go_wp2_with (go_at_call 33; (with_reducible_and_instances (refine HPu.out.mono ?_)); rintro e w3 ⟨rfl, hs3, hc3⟩; have HS3 := hid hs3; have HC3 := hid (HC2.out.trans hc3 (fun k hk => Or.inl hk)); clear hs3 hc3)
              exact ⟨⟨j2 + 1, l3, _, k3, cc2 - 1, rfl, by omega, HN3.out, HAl3, HInl3, HS3, HT3, HC3⟩, by simp [slLen]⟩
    · have hpe : (p : Int) = N := by omega
      have hT := HT.out
      rw [plN_end (by omega)] at hT
      have HTn : Hid (T = some sp) := hT.symm
      clear hT
      go_wp2_with fail
      (try rw [Exit.noGoto_ret])
      go_ret
      exact ⟨ws, HP.out, HSo.out, Or.inl ⟨sp, HTe.out.trans HTn.out, rfl, HS.out.mono (by omega)⟩, HBr.out⟩
end Go.Proofs.Ytpjemifoilbjeaa
