/- What the document's own Check (package ref) answers of a plain batch whose head may be. -/
import Derived.Test.YtmkdkclakndkpaaPack
import Derived.Laws.StructEq
namespace Go.Proofs.Ytmkdkclakndkpaa
open Go.RowKit

theorem checkN_rec {b : Bat} (h : argOk b = true) (h2 : b.recs.all recOk = false) : checkN b = 6 := by unfold checkN; rw [h, h2]; simp
theorem checkN_over {b : Bat} (h : argOk b = true) (hm : manyOk b = true) (h2 : b.recs.all recOk = true) (h3 : seqOk b = false) : checkN b = 53 := by unfold checkN; rw [h, hm, h2, h3]; rfl
theorem checkN_size {b : Bat} (h : argOk b = true) (hm : manyOk b = true) (h2 : b.recs.all recOk = true) (h3 : seqOk b = true) : checkN b = if sizeN b ≤ 65536 then 0 else 6 := by unfold checkN; rw [h, hm, h2, h3]; rfl
theorem bytes_none {rv : ByteArray} (h : rv.size = 0) : rv = ⟨#[]⟩ := by
  obtain ⟨d⟩ := rv
  congr 1
  exact Array.eq_empty_of_size_eq_zero h
theorem bytes_some {rv : ByteArray} (h : rv.size ≠ 0) : (rv.toList == (⟨#[]⟩ : ByteArray).toList) = false := by
  rw [← beq_toListBytes]
  cases hb : (rv == (⟨#[]⟩ : ByteArray)) with
  | false => rfl
  | true =>
    have e : rv = ⟨#[]⟩ := by
      obtain ⟨⟨x⟩⟩ := rv
      have hb' : ((⟨x⟩ : Array UInt8) == #[]) = true := hb
      simpa using hb'
    exact absurd (by rw [e]; rfl) h
theorem bytes_some2 {rv : ByteArray} (h : rv.size ≠ 0) : ¬ rv.toList = [] := by
  rw [ByteArray.toList_eq]
  intro e
  apply h
  obtain ⟨⟨x⟩⟩ := rv
  simp at e
  subst e
  rfl
/-- A Record beyond its limits: in which of three ways. -/
theorem rec_bad {r : Rec} (h : recOk r = false) : 1000 < r.key.size ∨ (r.key.size ≤ 1000 ∧ 4000 < r.val.size) ∨ (r.key.size ≤ 1000 ∧ r.val.size ≤ 4000 ∧ r.dead = true ∧ r.val.size ≠ 0) := by
  by_cases h1 : r.key.size ≤ 1000
  · by_cases h2 : r.val.size ≤ 4000
    · right; right
      simp only [recOk, h1, h2, decide_true, Bool.true_and, Bool.not_eq_false', Bool.and_eq_true, bne_iff_ne] at h
      exact ⟨h1, h2, h.1, h.2⟩
    · right; left; exact ⟨h1, by omega⟩
  · left; omega
theorem rec_good {r : Rec} (h : recOk r = true) : r.key.size ≤ 1000 ∧ r.val.size ≤ 4000 ∧ (r.dead = true → r.val.size = 0) := by
  obtain ⟨h1, h2⟩ := recOk_parts h
  refine ⟨h1, h2, fun hd => ?_⟩
  simp only [recOk, h1, h2, hd, decide_true, Bool.true_and, Bool.not_eq_true'] at h
  simpa using h
set_option maxRecDepth 100000 in
set_option maxHeartbeats 4000000 in
theorem refCheck_plain (p e s : Int) (t : Bool) (rs : List Rec) (ad : Option Addr) (len cap : Nat) (w : World) (hA : BArg w ⟨1, p, e, s, t, rs⟩ ad len cap) (h : argOk ⟨1, p, e, s, t, rs⟩ = true) (h1 : 1 ≤ len) (h2 : len ≤ 64) :
    Calls Try.prog 12 #[.agg #[.int .i64 1, .int .i64 p, .int .i64 e, .int .i64 s, .bool t, .slice ad len cap]] w fun r w' => r = .returned (.int .i64 (checkN ⟨1, p, e, s, t, rs⟩)) ∧ Below w.heap.size w w' := by
  have b0 : Below w.heap.size w (w.alloc (.cells #[.int .i64 1, .int .i64 p, .int .i64 e, .int .i64 s, .bool t, .slice ad len cap] 24)) := (Below.refl _ _).alloc (Nat.le_refl _) _
  have x0 : Hid (BBox (w.alloc (.cells #[.int .i64 1, .int .i64 p, .int .i64 e, .int .i64 s, .bool t, .slice ad len cap] 24)) w.heap.size 1 p e s t (.slice ad len cap)) := BBox.new w _ _ _ _ _ _
  have HA : Hid (BArg w ⟨1, p, e, s, t, rs⟩ ad len cap) := hA
  have HL : Hid (rs.length = len) := hA.len_eq
  have HG : Hid (argOk ⟨1, p, e, s, t, rs⟩ = true) := h
  have HM : Hid (manyOk ⟨1, p, e, s, t, rs⟩ = true) := by
    show _ = _
    simp only [manyOk, Bat.marker, HL.out]
    simp; omega
  have h3 := argOk_yes 1 p e s t rs h
  have hz : ((len : Int) == 0) = false := by simp; omega
  have hz2 : decide ((64 : Int) < len) = false := by simp; omega
  clear h hA
  have h4 : ((p == -1) = true ∧ (e != 0) = false ∧ (s != 0) = false ∧ t = false) ∨ ((p == -1) = false ∧ decide (p < 0) = false ∧ decide (281474976710656 ≤ p) = false ∧ decide (e < 0) = false ∧ decide (2147483648 ≤ e) = false) := by
    rcases h3 with ⟨-, rfl, rfl, rfl, rfl⟩ | ⟨-, a1, a2, a3, a4⟩ | ⟨h3 | h3, -⟩
    · left; exact ⟨rfl, rfl, rfl, rfl⟩
    · right; exact ⟨by simp; omega, by simp; omega, by simp; omega, by simp; omega, by simp; omega⟩
    · cases h3
    · cases h3
  clear h3
  have HT0 : Hid (t = false ∨ (p == -1) = false) := h4.elim (fun h => Or.inl h.2.2.2) (fun h => Or.inr h.1)
  rcases h4 with ⟨f1, f2, f3, rfl⟩ | ⟨f1, f2, f3, f4, f5⟩
  · go_enter Try.func12, Try.ntmps12
    go_wp2
    go_loopw [4] (fun i wr => ∃ j : Nat, j ≤ len ∧ i = .int .i64 j ∧ Hid ((rs.take j).all recOk = true) ∧ Below w.heap.size w wr ∧ Hid (BBox wr w.heap.size 1 p e s _ (.slice ad len cap))) (fun i _ => len - (intOf i).toNat)
    case atStart => exact ⟨0, Nat.zero_le _, rfl, (show Hid _ from rfl), b0, x0⟩
    case round =>
      clear b0 x0
      obtain ⟨j, hj, rfl, HT, hb, hx⟩ := hrel
      have c5 := hx.out.c5
      by_cases hlt : j < len
      · obtain ⟨g, off, rfl, hg, hc⟩ := HA.out.cells (by omega)
        obtain ⟨q0, q1, q2⟩ := hc j hlt
        have r0 : wr.cell? ⟨g, off + j * 3, none⟩ = _ := (hb.cell (p := ⟨g, off + j * 3, none⟩) hg).trans q0
        have r1 : wr.cell? ⟨g, off + j * 3 + 1, none⟩ = _ := (hb.cell (p := ⟨g, off + j * 3 + 1, none⟩) hg).trans q1
        have r2 : wr.cell? ⟨g, off + j * 3 + 2, none⟩ = _ := (hb.cell (p := ⟨g, off + j * 3 + 2, none⟩) hg).trans q2
        clear hc q0 q1 q2
        simp only at r0 r1 r2
        have HS : Hid ((rs.take (j + 1)).all recOk = ((rs.take j).all recOk && recOk (rs.getD j rec0))) := all_snoc rs j (by rw [HL.out]; exact hlt)
        have HN : Hid (recOk (rs.getD j rec0) = false → rs.all recOk = false) := all_not rs j (by rw [HL.out]; exact hlt)
        generalize rs.getD j rec0 = r at *
        have BA : Hid (Below w.heap.size w (wr.alloc (.cells #[.string r.key, .string r.val, .bool r.dead] 51))) := hb.alloc hb.size _
        have XA : Hid (BBox (wr.alloc (.cells #[.string r.key, .string r.val, .bool r.dead] 51)) w.heap.size 1 p e s _ _) := hx.out.later ((Below.refl _ _).alloc (Nat.le_refl _) _)
        cases hq : recOk r with
        | true =>
          have HT2 : Hid ((rs.take (j + 1)).all recOk = true) := by
            show _ = _
            rw [HS.out, HT.out, hq]; rfl
          obtain ⟨z1, z2, z3⟩ := rec_good hq
          obtain ⟨rk, rv, rd⟩ := r
          simp only at *
          have h7 : decide ((1000 : Int) < rk.size) = false := by simp; omega
          have h8 : decide ((4000 : Int) < rv.size) = false := by simp; omega
          cases rd with
          | true =>
            have e := bytes_none (z3 rfl)
            subst e
            clear z1 z2 z3 hq HS HN
            go_wp2
            go_roundw
            case rel => exact ⟨j + 1, by omega, by go_num, HT2, BA.out, XA⟩
            case measure => simp [intOf]; omega
          | false =>
            clear z1 z2 z3 hq HS HN
            go_wp2
            go_roundw
            case rel => exact ⟨j + 1, by omega, by go_num, HT2, BA.out, XA⟩
            case measure => simp [intOf]; omega
        | false =>
          have HK := checkN_rec HG.out (HN.out hq)
          have z := rec_bad hq
          clear HS HN hq
          obtain ⟨rk, rv, rd⟩ := r
          simp only at *
          rcases z with z1 | ⟨z1, z2⟩ | ⟨z1, z2, rfl, z4⟩
          · have h7 : decide ((1000 : Int) < rk.size) = true := by simp; omega
            go_wp2
            go_ret
            exact ⟨by rw [HK]; rfl, BA.out⟩
          · have h7 : decide ((1000 : Int) < rk.size) = false := by simp; omega
            have h8 : decide ((4000 : Int) < rv.size) = true := by simp; omega
            go_wp2
            go_ret
            exact ⟨by rw [HK]; rfl, BA.out⟩
          · have h7 : decide ((1000 : Int) < rk.size) = false := by simp; omega
            have h8 : decide ((4000 : Int) < rv.size) = false := by simp; omega
            have h9 := bytes_some z4
            have h10 := bytes_some2 z4
            have h11 : (rv.toList == []) = false := by simpa using h10
            go_wp2
            go_ret
            exact ⟨by rw [HK]; rfl, BA.out⟩
      · obtain rfl : j = len := by omega
        have HV : Hid (rs.all recOk = true) := by
          have h := HT.out
          rw [List.take_of_length_le (by rw [HL.out]; omega)] at h
          exact h
        clear HT
        have c0 := hx.out.c0
        have c1 := hx.out.c1
        have c2 := hx.out.c2
        have c3 := hx.out.c3
        have c4 := hx.out.c4
        have iw : IntKind.i64.wrap (2147483648 - (j : Int)) = 2147483648 - (j : Int) := by
          simp [IntKind.wrap, IntKind.bits, IntKind.signed]; omega
        have Y0 : Hid (BBox wr.drew w.heap.size 1 p e s _ (.slice ad j cap)) := hx.out
        have BD : Hid (Below wr.heap.size wr wr.drew) := (Below.refl _ _).drew
        by_cases hs : s < 0
        · have HK := checkN_over HG.out HM.out HV.out (by simp only [seqOk, lenN, Bat.marker, HL.out]; simp; omega)
          go_wp2_with fail
          go_quiet (fail)
          go_wp2
          go_ret
          exact ⟨by rw [HK]; rfl, below_drewN' hb _⟩
        · have hs0 : decide (s < 0) = false := decide_eq_false hs
          by_cases hs2 : 2147483648 - (j : Int) < s
          · have HK := checkN_over HG.out HM.out HV.out (by simp only [seqOk, lenN, Bat.marker, HL.out]; simp; omega)
            have hs3 : decide (2147483648 - (j : Int) < s) = true := decide_eq_true hs2
            go_wp2_with fail
            go_region_held3 (fun w' => w'.cell? ⟨w.heap.size, 0, none⟩ = some (.int .i64 1) ∧ w'.cell? ⟨w.heap.size, 1, none⟩ = some (.int .i64 p) ∧ w'.cell? ⟨w.heap.size, 2, none⟩ = some (.int .i64 e) ∧ w'.cell? ⟨w.heap.size, 3, none⟩ = some (.int .i64 s) ∧ w'.cell? ⟨w.heap.size, 4, none⟩ = some (.bool false) ∧ w'.cell? ⟨w.heap.size, 5, none⟩ = some (.slice ad j cap)) (first | exact ⟨c0, c1, c2, c3, c4, c5⟩ | exact hS)
              (first | (go_at_call 14; refine (refLen_any 1 p e s _ ad j cap _).mono ?_; rintro r w1 ⟨rfl, b1⟩; have z := Y0.out.later b1; have hS := And.intro z.c0 (And.intro z.c1 (And.intro z.c2 (And.intro z.c3 (And.intro z.c4 z.c5)))); clear z))
            go_wp2
            go_ret
            exact ⟨by rw [HK]; rfl, hb.trans ((BD.out.trans (b1.mono BD.out.size)).mono hb.size)⟩
          · have HK := checkN_size HG.out HM.out HV.out (by simp only [seqOk, lenN, Bat.marker, HL.out]; simp; omega)
            have hs3 : decide (2147483648 - (j : Int) < s) = false := decide_eq_false hs2
            have HN : Hid (sizeN ⟨1, p, e, s, false, rs⟩ = 18 + recsSize rs) := rfl
            go_wp2_with fail
            go_region_held3 (fun w' => w'.cell? ⟨w.heap.size, 0, none⟩ = some (.int .i64 1) ∧ w'.cell? ⟨w.heap.size, 1, none⟩ = some (.int .i64 p) ∧ w'.cell? ⟨w.heap.size, 2, none⟩ = some (.int .i64 e) ∧ w'.cell? ⟨w.heap.size, 3, none⟩ = some (.int .i64 s) ∧ w'.cell? ⟨w.heap.size, 4, none⟩ = some (.bool false) ∧ w'.cell? ⟨w.heap.size, 5, none⟩ = some (.slice ad j cap)) (first | exact ⟨c0, c1, c2, c3, c4, c5⟩ | exact hS)
              (first | (go_at_call 14; refine (refLen_any 1 p e s _ ad j cap _).mono ?_; rintro r w1 ⟨rfl, b1⟩; have z := Y0.out.later b1; have hS := And.intro z.c0 (And.intro z.c1 (And.intro z.c2 (And.intro z.c3 (And.intro z.c4 z.c5)))); clear z))
            have b01 : Below w.heap.size w w1 := hb.trans ((BD.out.trans (b1.mono BD.out.size)).mono hb.size)
            obtain ⟨d0, d1, d2, d3, d4, d5⟩ := hS
            rw [HN.out] at HK
            have HSz := refSize_any 1 p e s _ rs ad j cap w1 (HA.out.later b01) h2 (List.all_eq_true.1 HV.out)
            generalize 18 + recsSize rs = n at *
            by_cases hn : n ≤ 65536
            · rw [if_pos hn] at HK
              have hn2 : decide ((65536 : Int) < n) = false := by simp; omega
              go_wp2_with (go_at_call 24; refine HSz.mono ?_; rintro r w2 ⟨rfl, b2⟩)
              go_ret
              exact ⟨by rw [HK]; rfl, b01.trans (b2.mono b01.size)⟩
            · rw [if_neg hn] at HK
              have hn2 : decide ((65536 : Int) < n) = true := by simp; omega
              go_wp2_with (go_at_call 24; refine HSz.mono ?_; rintro r w2 ⟨rfl, b2⟩)
              go_ret
              exact ⟨by rw [HK]; rfl, b01.trans (b2.mono b01.size)⟩
  · go_enter Try.func12, Try.ntmps12
    go_wp2
    go_loopw [4] (fun i wr => ∃ j : Nat, j ≤ len ∧ i = .int .i64 j ∧ Hid ((rs.take j).all recOk = true) ∧ Below w.heap.size w wr ∧ Hid (BBox wr w.heap.size 1 p e s _ (.slice ad len cap))) (fun i _ => len - (intOf i).toNat)
    case atStart => exact ⟨0, Nat.zero_le _, rfl, (show Hid _ from rfl), b0, x0⟩
    case round =>
      clear b0 x0
      obtain ⟨j, hj, rfl, HT, hb, hx⟩ := hrel
      have c5 := hx.out.c5
      by_cases hlt : j < len
      · obtain ⟨g, off, rfl, hg, hc⟩ := HA.out.cells (by omega)
        obtain ⟨q0, q1, q2⟩ := hc j hlt
        have r0 : wr.cell? ⟨g, off + j * 3, none⟩ = _ := (hb.cell (p := ⟨g, off + j * 3, none⟩) hg).trans q0
        have r1 : wr.cell? ⟨g, off + j * 3 + 1, none⟩ = _ := (hb.cell (p := ⟨g, off + j * 3 + 1, none⟩) hg).trans q1
        have r2 : wr.cell? ⟨g, off + j * 3 + 2, none⟩ = _ := (hb.cell (p := ⟨g, off + j * 3 + 2, none⟩) hg).trans q2
        clear hc q0 q1 q2
        simp only at r0 r1 r2
        have HS : Hid ((rs.take (j + 1)).all recOk = ((rs.take j).all recOk && recOk (rs.getD j rec0))) := all_snoc rs j (by rw [HL.out]; exact hlt)
        have HN : Hid (recOk (rs.getD j rec0) = false → rs.all recOk = false) := all_not rs j (by rw [HL.out]; exact hlt)
        generalize rs.getD j rec0 = r at *
        have BA : Hid (Below w.heap.size w (wr.alloc (.cells #[.string r.key, .string r.val, .bool r.dead] 51))) := hb.alloc hb.size _
        have XA : Hid (BBox (wr.alloc (.cells #[.string r.key, .string r.val, .bool r.dead] 51)) w.heap.size 1 p e s _ _) := hx.out.later ((Below.refl _ _).alloc (Nat.le_refl _) _)
        cases hq : recOk r with
        | true =>
          have HT2 : Hid ((rs.take (j + 1)).all recOk = true) := by
            show _ = _
            rw [HS.out, HT.out, hq]; rfl
          obtain ⟨z1, z2, z3⟩ := rec_good hq
          obtain ⟨rk, rv, rd⟩ := r
          simp only at *
          have h7 : decide ((1000 : Int) < rk.size) = false := by simp; omega
          have h8 : decide ((4000 : Int) < rv.size) = false := by simp; omega
          cases rd with
          | true =>
            have e := bytes_none (z3 rfl)
            subst e
            clear z1 z2 z3 hq HS HN
            go_wp2
            go_roundw
            case rel => exact ⟨j + 1, by omega, by go_num, HT2, BA.out, XA⟩
            case measure => simp [intOf]; omega
          | false =>
            clear z1 z2 z3 hq HS HN
            go_wp2
            go_roundw
            case rel => exact ⟨j + 1, by omega, by go_num, HT2, BA.out, XA⟩
            case measure => simp [intOf]; omega
        | false =>
          have HK := checkN_rec HG.out (HN.out hq)
          have z := rec_bad hq
          clear HS HN hq
          obtain ⟨rk, rv, rd⟩ := r
          simp only at *
          rcases z with z1 | ⟨z1, z2⟩ | ⟨z1, z2, rfl, z4⟩
          · have h7 : decide ((1000 : Int) < rk.size) = true := by simp; omega
            go_wp2
            go_ret
            exact ⟨by rw [HK]; rfl, BA.out⟩
          · have h7 : decide ((1000 : Int) < rk.size) = false := by simp; omega
            have h8 : decide ((4000 : Int) < rv.size) = true := by simp; omega
            go_wp2
            go_ret
            exact ⟨by rw [HK]; rfl, BA.out⟩
          · have h7 : decide ((1000 : Int) < rk.size) = false := by simp; omega
            have h8 : decide ((4000 : Int) < rv.size) = false := by simp; omega
            have h9 := bytes_some z4
            have h10 := bytes_some2 z4
            have h11 : (rv.toList == []) = false := by simpa using h10
            go_wp2
            go_ret
            exact ⟨by rw [HK]; rfl, BA.out⟩
      · obtain rfl : j = len := by omega
        have HV : Hid (rs.all recOk = true) := by
          have h := HT.out
          rw [List.take_of_length_le (by rw [HL.out]; omega)] at h
          exact h
        clear HT
        have c0 := hx.out.c0
        have c1 := hx.out.c1
        have c2 := hx.out.c2
        have c3 := hx.out.c3
        have c4 := hx.out.c4
        have iw : IntKind.i64.wrap (2147483648 - (j : Int)) = 2147483648 - (j : Int) := by
          simp [IntKind.wrap, IntKind.bits, IntKind.signed]; omega
        have Y0 : Hid (BBox wr.drew w.heap.size 1 p e s _ (.slice ad j cap)) := hx.out
        have BD : Hid (Below wr.heap.size wr wr.drew) := (Below.refl _ _).drew
        by_cases hs : s < 0
        · have HK := checkN_over HG.out HM.out HV.out (by simp only [seqOk, lenN, Bat.marker, HL.out]; simp; omega)
          go_wp2_with fail
          go_quiet (fail)
          go_wp2
          go_ret
          exact ⟨by rw [HK]; rfl, below_drewN' hb _⟩
        · have hs0 : decide (s < 0) = false := decide_eq_false hs
          by_cases hs2 : 2147483648 - (j : Int) < s
          · have HK := checkN_over HG.out HM.out HV.out (by simp only [seqOk, lenN, Bat.marker, HL.out]; simp; omega)
            have hs3 : decide (2147483648 - (j : Int) < s) = true := decide_eq_true hs2
            go_wp2_with fail
            go_region_held3 (fun w' => w'.cell? ⟨w.heap.size, 0, none⟩ = some (.int .i64 1) ∧ w'.cell? ⟨w.heap.size, 1, none⟩ = some (.int .i64 p) ∧ w'.cell? ⟨w.heap.size, 2, none⟩ = some (.int .i64 e) ∧ w'.cell? ⟨w.heap.size, 3, none⟩ = some (.int .i64 s) ∧ w'.cell? ⟨w.heap.size, 4, none⟩ = some (.bool t) ∧ w'.cell? ⟨w.heap.size, 5, none⟩ = some (.slice ad j cap)) (first | exact ⟨c0, c1, c2, c3, c4, c5⟩ | exact hS)
              (first | (go_at_call 14; refine (refLen_any 1 p e s _ ad j cap _).mono ?_; rintro r w1 ⟨rfl, b1⟩; have z := Y0.out.later b1; have hS := And.intro z.c0 (And.intro z.c1 (And.intro z.c2 (And.intro z.c3 (And.intro z.c4 z.c5)))); clear z))
            go_wp2
            go_ret
            exact ⟨by rw [HK]; rfl, hb.trans ((BD.out.trans (b1.mono BD.out.size)).mono hb.size)⟩
          · have HK := checkN_size HG.out HM.out HV.out (by simp only [seqOk, lenN, Bat.marker, HL.out]; simp; omega)
            have hs3 : decide (2147483648 - (j : Int) < s) = false := decide_eq_false hs2
            have HN : Hid (sizeN ⟨1, p, e, s, t, rs⟩ = 18 + recsSize rs) := rfl
            go_wp2_with fail
            go_region_held3 (fun w' => w'.cell? ⟨w.heap.size, 0, none⟩ = some (.int .i64 1) ∧ w'.cell? ⟨w.heap.size, 1, none⟩ = some (.int .i64 p) ∧ w'.cell? ⟨w.heap.size, 2, none⟩ = some (.int .i64 e) ∧ w'.cell? ⟨w.heap.size, 3, none⟩ = some (.int .i64 s) ∧ w'.cell? ⟨w.heap.size, 4, none⟩ = some (.bool t) ∧ w'.cell? ⟨w.heap.size, 5, none⟩ = some (.slice ad j cap)) (first | exact ⟨c0, c1, c2, c3, c4, c5⟩ | exact hS)
              (first | (go_at_call 14; refine (refLen_any 1 p e s _ ad j cap _).mono ?_; rintro r w1 ⟨rfl, b1⟩; have z := Y0.out.later b1; have hS := And.intro z.c0 (And.intro z.c1 (And.intro z.c2 (And.intro z.c3 (And.intro z.c4 z.c5)))); clear z))
            have b01 : Below w.heap.size w w1 := hb.trans ((BD.out.trans (b1.mono BD.out.size)).mono hb.size)
            obtain ⟨d0, d1, d2, d3, d4, d5⟩ := hS
            rw [HN.out] at HK
            have HSz := refSize_any 1 p e s _ rs ad j cap w1 (HA.out.later b01) h2 (List.all_eq_true.1 HV.out)
            generalize 18 + recsSize rs = n at *
            by_cases hn : n ≤ 65536
            · rw [if_pos hn] at HK
              have hn2 : decide ((65536 : Int) < n) = false := by simp; omega
              go_wp2_with (go_at_call 24; refine HSz.mono ?_; rintro r w2 ⟨rfl, b2⟩)
              go_ret
              exact ⟨by rw [HK]; rfl, b01.trans (b2.mono b01.size)⟩
            · rw [if_neg hn] at HK
              have hn2 : decide ((65536 : Int) < n) = true := by simp; omega
              go_wp2_with (go_at_call 24; refine HSz.mono ?_; rintro r w2 ⟨rfl, b2⟩)
              go_ret
              exact ⟨by rw [HK]; rfl, b01.trans (b2.mono b01.size)⟩
end Go.Proofs.Ytmkdkclakndkpaa
