/- Same of the statements: whether shares are the document's. -/
import Derived.Test.YtakpdhmfbgfblaaAHad
import Derived.BigQuiet
import Derived.Deep.QuietTactic
namespace Go.Proofs.Ytakpdhmfbgfblaa
open Go.RowKit
variable {w w' : World} {oa ra : Option Addr} {om oc rm rc : Nat} {A B : List ShA} {P Q : List (List Int)}

/-- The document's shares. -/
abbrev kR : Kd ShA := ⟨41, 22, 2, 40, fun x => [.string (nmS x.1), .slice x.2.ad x.2.m x.2.c], ([], sl0), .agg #[.string ⟨#[]⟩, .slice none 0 0]⟩
theorem kR_ok : kR.ok := ⟨⟨fun _ => rfl, by decide⟩, fun a v hv => by (have : v = .string (nmS a.1) ∨ v = .slice a.2.ad a.2.m a.2.c := by simpa using hv); rcases this with rfl | rfl <;> rfl, by kernel_rfl, rfl, Try.underlying22⟩
/-- Shares that can be read, the program's or the document's. -/
structure ShV (K : Kd ShA) (w : World) (A : List ShA) (P : List (List Int)) (a : Option Addr) (m c : Nat) : Prop where
  row : ArgK K w A a m c
  len : A.length = P.length
  part : ∀ i, i < A.length → ArgK kZ w (P.getD i []) (A.getD i sh0).2.ad (A.getD i sh0).2.m (A.getD i sh0).2.c
theorem ShV.later {K : Kd ShA} (h : ShV K w A P oa om oc) (hb : Below w.heap.size w w') : ShV K w' A P oa om oc := ⟨h.row.later hb, h.len, fun i hi => (h.part i hi).later hb⟩
theorem OldA.view (h : OldA w A P oa om oc) : ShV kSh w A P oa om oc := ⟨h.row, h.len, h.part⟩
theorem Shs.view {base : Nat} {v : Value} (h : Shs w base v A P) : ∃ a c, v = .slice a A.length c ∧ ShV kSh w A P a A.length c := by
  obtain ⟨a, c, e, hA⟩ := h.row.form kSh_ok.tofit
  refine ⟨a, c, e, hA, h.len, fun i hi => ?_⟩
  obtain ⟨a2, c2, e2, h2⟩ := (h.part i hi).form kZ_ok.tofit
  unfold Sl.v at e2
  injection e2 with e3 e4 e5
  rw [e3, e4, e5]
  exact h2
/-- Are the shares the same? -/
def sameB (A : List ShA) (P : List (List Int)) (B : List ShA) (Q : List (List Int)) : Bool := decide (A.map (·.1) = B.map (·.1)) && decide (P = Q)
theorem sameB_no {i : Nat} (hi : i < A.length) (hB : i < B.length) (h : (A.getD i sh0).1 ≠ (B.getD i sh0).1) : sameB A P B Q = false := by
  unfold sameB
  have : A.map (·.1) ≠ B.map (·.1) := fun e => h (by
    have h1 := congrArg (fun l => l[i]?) e
    simp only [List.getElem?_map, List.getElem?_eq_getElem hi, List.getElem?_eq_getElem hB, Option.map_some, Option.some.injEq] at h1
    rw [List.getD_eq_getElem?_getD, List.getD_eq_getElem?_getD, List.getElem?_eq_getElem hi, List.getElem?_eq_getElem hB]
    exact h1)
  simp [this]
theorem sameB_noP {i : Nat} (h : P.getD i [] ≠ Q.getD i []) : sameB A P B Q = false := by
  unfold sameB
  have : P ≠ Q := fun e => h (by rw [e])
  simp [this]
theorem sameB_yes (hl : A.length = B.length) (hp : A.length = P.length) (hq : B.length = Q.length) (h : ∀ i, i < A.length → (A.getD i sh0).1 = (B.getD i sh0).1 ∧ P.getD i [] = Q.getD i []) : sameB A P B Q = true := by
  have h1 : A.map (·.1) = B.map (·.1) := by
    apply List.ext_getElem
    · simp [hl]
    · intro i hi hj
      simp only [List.length_map] at hi hj
      have := (h i hi).1
      rw [List.getD_eq_getElem?_getD, List.getD_eq_getElem?_getD, List.getElem?_eq_getElem hi, List.getElem?_eq_getElem hj] at this
      simpa using this
  have h2 : P = Q := by
    apply List.ext_getElem
    · omega
    · intro i hi hj
      have := (h i (by omega)).2
      rw [List.getD_eq_getElem?_getD, List.getD_eq_getElem?_getD, List.getElem?_eq_getElem hi, List.getElem?_eq_getElem hj] at this
      simpa using this
  simp [sameB, h1, h2]
theorem sameB_len (h : A.length ≠ B.length) : sameB A P B Q = false := by
  unfold sameB
  have : A.map (·.1) ≠ B.map (·.1) := fun e => h (by have := congrArg List.length e; simpa using this)
  simp [this]
theorem list_eq_getD (l k : List Int) (hl : l.length = k.length) (h : ∀ i, i < l.length → l.getD i 0 = k.getD i 0) : l = k := by
  apply List.ext_getElem hl
  intro i h1 h2
  have := h i h1
  rw [List.getD_eq_getElem?_getD, List.getElem?_eq_getElem h1, List.getD_eq_getElem?_getD, List.getElem?_eq_getElem h2] at this
  exact this
theorem bytes_beq (a b : ByteArray) : (a == b) = true ↔ a = b := by
  obtain ⟨⟨x⟩⟩ := a
  obtain ⟨⟨y⟩⟩ := b
  show ((⟨x⟩ : Array UInt8) == ⟨y⟩) = true ↔ _
  simp
theorem nmS_inj {a b : Nm} (h : nmS a = nmS b) : a = b := by
  unfold nmS at h
  injection h with h
  exact List.toArray_inj h
set_option maxHeartbeats 4000000 in
theorem same_any (h : ShV kSh w A P oa om oc) (k : ShV kR w B Q ra rm rc) : Calls Try.prog 8 #[.slice oa om oc, .slice ra rm rc] w fun e w' => e = .returned (.bool (sameB A P B Q)) ∧ Below w.heap.size w w' := by
  have hl := h.row.len
  have hk := k.row.len
  have hom : om ≤ 9223372036854775807 := by have := h.row.cap; have := h.row.room; unfold maxLen at this; omega
  have hrm : rm ≤ 9223372036854775807 := by have := k.row.cap; have := k.row.room; unfold maxLen at this; omega
  by_cases hne : om = rm
  · subst hne
    have HA := hid h
    have HB := hid k
    have HLa := hid hl
    have HLb := hid hk
    clear h k hl hk
    go_enter Try.func8, Try.ntmps8
    go_wp2_with fail
    go_loopw [5] (fun iv wr => ∃ i : Nat, i ≤ om ∧ iv = .int .i64 (i : Int) ∧ Hid (∀ q, q < i → (A.getD q sh0).1 = (B.getD q sh0).1 ∧ P.getD q [] = Q.getD q []) ∧ Hid (Below w.heap.size w wr)) (fun iv _ => om - (intOf iv).toNat)
    case atStart => exact ⟨0, by omega, rfl, (fun q hq => by omega), Below.refl _ _⟩
    case round =>
      obtain ⟨i, hi, rfl, HE, HBl⟩ := hrel
      by_cases hlt : i < om
      · have hA := HA.out.later HBl.out
        have hB := HB.out.later HBl.out
        obtain ⟨b1, o1, rfl, hs1, hc1⟩ := hA.row.cells (by omega)
        obtain ⟨b2, o2, rfl, hs2, hc2⟩ := hB.row.cells (by omega)
        have hiA : i < A.length := by rw [HLa.out]; exact hlt
        have hiB : i < B.length := by rw [HLb.out]; exact hlt
        have hpA := hA.part i hiA
        have hpB := hB.part i hiB
        obtain ⟨x, hx⟩ : ∃ x, A.getD i sh0 = x := ⟨_, rfl⟩
        obtain ⟨y, hy⟩ : ∃ y, B.getD i sh0 = y := ⟨_, rfl⟩
        rw [hx] at hpA
        rw [hy] at hpB
        obtain ⟨na, sa, sm, sc⟩ := x
        obtain ⟨nb, ta, tm, tc⟩ := y
        dsimp only at hpA hpB
        have r0 : wr.cell? ⟨b1, o1 + i * 2, none⟩ = some (.string (nmS na)) := by have h := hc1 i hlt 0 (by decide); rw [Nat.add_zero, show A.getD i kSh.z = A.getD i sh0 from rfl, hx] at h; exact h
        have r1 : wr.cell? ⟨b1, o1 + i * 2 + 1, none⟩ = some (.slice sa sm sc) := by have h := hc1 i hlt 1 (by decide); rw [show A.getD i kSh.z = A.getD i sh0 from rfl, hx] at h; exact h
        have r2 : wr.cell? ⟨b2, o2 + i * 2, none⟩ = some (.string (nmS nb)) := by have h := hc2 i hlt 0 (by decide); rw [Nat.add_zero, show B.getD i kR.z = B.getD i sh0 from rfl, hy] at h; exact h
        have r3 : wr.cell? ⟨b2, o2 + i * 2 + 1, none⟩ = some (.slice ta tm tc) := by have h := hc2 i hlt 1 (by decide); rw [show B.getD i kR.z = B.getD i sh0 from rfl, hy] at h; exact h
        have hsm := hpA.len
        have htm := hpB.len
        have hs64 : sm ≤ 9223372036854775807 := by have := hpA.cap; have := hpA.room; unfold maxLen at this; omega
        have ht64 : tm ≤ 9223372036854775807 := by have := hpB.cap; have := hpB.room; unfold maxLen at this; omega
        by_cases hnm : na = nb
        · subst hnm
          by_cases hlen : sm = tm
          · subst hlen
            have HPA := hid hpA
            have HPB := hid hpB
            have HX := hid hx
            have HY := hid hy
            have HSm := hid hsm
            have HTm := hid htm
            clear hA hB hc1 hc2 hpA hpB hx hy hsm htm
            generalize nmS na = e0 at *
            obtain ⟨wq, hwq⟩ : ∃ wq, wq = wr := ⟨_, rfl⟩
            subst hwq
            go_wp2_with fail
            go_quiet (fail)
            all_goals go_wp2
            go_loopw [6] (fun jv wr => ∃ j : Nat, j ≤ sm ∧ jv = .int .i64 (j : Int) ∧ Hid (∀ q, q < j → (P.getD i []).getD q 0 = (Q.getD i []).getD q 0) ∧ Hid (Below wq.heap.size wq wr)) (fun jv _ => sm - (intOf jv).toNat)
            case atStart => exact ⟨0, by omega, rfl, (fun q hq => by omega), below_drewN' (Below.refl _ _) _⟩
            case round =>
              obtain ⟨j, hj, rfl, HEq, HBq⟩ := hrel
              have q1 : wr.cell? ⟨b1, o1 + i * 2 + 1, none⟩ = some (.slice sa sm sc) := (HBq.out.cell (p := ⟨b1, o1 + i * 2 + 1, none⟩) hs1).trans r1
              have q2 : wr.cell? ⟨b2, o2 + i * 2 + 1, none⟩ = some (.slice ta sm tc) := (HBq.out.cell (p := ⟨b2, o2 + i * 2 + 1, none⟩) hs2).trans r3
              clear r0 r1 r2 r3
              by_cases hjs : j < sm
              · obtain ⟨bp, op, rfl, hbp, hcp⟩ := HPA.out.cells (by omega)
                obtain ⟨bq, oq, rfl, hbq, hcq⟩ := HPB.out.cells (by omega)
                have q3 : wr.cell? ⟨bp, op + j, none⟩ = some (.int .i64 ((P.getD i []).getD j 0)) := (HBq.out.cell (p := ⟨bp, op + j, none⟩) hbp).trans (by have h := hcp j hjs 0 (by decide); rw [Nat.mul_one, Nat.add_zero] at h; exact h)
                have q4 : wr.cell? ⟨bq, oq + j, none⟩ = some (.int .i64 ((Q.getD i []).getD j 0)) := (HBq.out.cell (p := ⟨bq, oq + j, none⟩) hbq).trans (by have h := hcq j hjs 0 (by decide); rw [Nat.mul_one, Nat.add_zero] at h; exact h)
                have hcapA := HPA.out.cap
                have hcapB := HPB.out.cap
                by_cases hee : (P.getD i []).getD j 0 = (Q.getD i []).getD j 0
                · have HNx : Hid (∀ q, q < j + 1 → (P.getD i []).getD q 0 = (Q.getD i []).getD q 0) := fun q hq => by
                    by_cases e : q = j
                    · rw [e]; exact hee
                    · exact HEq.out q (by omega)
                  rw [hee] at q3
                  clear hcp hcq hee hbp hbq
                  generalize (Q.getD i []).getD j 0 = e1 at *
                  go_wp2_with fail
                  go_quiet (fail)
                  all_goals go_wp2
                  exact ⟨⟨j + 1, by omega, by go_num, HNx, below_drewN' HBq.out _⟩, by simp [intOf]; omega⟩
                · have HV : Hid (sameB A P B Q = false) := sameB_noP (i := i) (fun e => hee (by rw [e]))
                  have hbb : (((P.getD i []).getD j 0) == ((Q.getD i []).getD j 0)) = false := by simpa using hee
                  clear hcp hcq hee hbp hbq
                  generalize (P.getD i []).getD j 0 = e1 at *
                  generalize (Q.getD i []).getD j 0 = e2 at *
                  go_wp2_with fail
                  go_quiet (fail)
                  all_goals go_wp2
                  all_goals go_ret
                  exact ⟨by rw [HV.out]; rfl, HBl.out.trans ((below_drewN' HBq.out _).mono HBl.out.size)⟩
              · obtain rfl : sm = j := by omega
                have HNx : Hid (∀ q, q < i + 1 → (A.getD q sh0).1 = (B.getD q sh0).1 ∧ P.getD q [] = Q.getD q []) := fun q hq => by
                  by_cases e : q = i
                  · subst e
                    refine ⟨by rw [HX.out, HY.out], ?_⟩
                    exact list_eq_getD _ _ (by rw [HSm.out, HTm.out]) (fun k hk => HEq.out k (by rw [← HSm.out]; exact hk))
                  · exact HE.out q (by omega)
                go_wp2_with fail
                exact ⟨⟨i + 1, by omega, by go_num, HNx, HBl.out.trans (HBq.out.mono HBl.out.size)⟩, by simp [intOf]; omega⟩
          · have HV : Hid (sameB A P B Q = false) := sameB_noP (i := i) (fun e => hlen (by rw [← hsm, ← htm, e]))
            have hbb : ((sm : Int) == (tm : Int)) = false := by simp; omega
            clear hA hB hc1 hc2 hpA hpB hx hy hsm htm hlen
            generalize nmS na = e0 at *
            go_wp2_with fail
            go_quiet (fail)
            all_goals go_wp2
            all_goals go_ret
            exact ⟨by rw [HV.out]; rfl, below_drewN' HBl.out _⟩
        · have HV : Hid (sameB A P B Q = false) := sameB_no (i := i) hiA hiB (by rw [hx, hy]; exact hnm)
          have hns : nmS na ≠ nmS nb := fun e => hnm (nmS_inj e)
          clear hA hB hc1 hc2 hpA hpB hx hy hsm htm hnm
          generalize nmS na = e0 at *
          generalize nmS nb = e1 at *
          have hbb : (e0 == e1) = false := by
            cases h : (e0 == e1) with
            | false => rfl
            | true => exact absurd ((bytes_beq _ _).1 h) hns
          have hb2 : (e0.toList == e1.toList) = false := by rw [← beq_toListBytes]; exact hbb
          go_wp2_with fail
          go_quiet (fail)
          all_goals go_wp2
          all_goals go_ret
          exact ⟨by rw [HV.out]; rfl, below_drewN' HBl.out _⟩
      · obtain rfl : om = i := by omega
        have HV : Hid (sameB A P B Q = true) := sameB_yes (by rw [HLa.out, HLb.out]) HA.out.len HB.out.len (fun q hq => HE.out q (by rw [← HLa.out]; exact hq))
        go_wp2_with fail
        go_ret
        exact ⟨by rw [HV.out]; rfl, HBl.out⟩
  · have HV : Hid (sameB A P B Q = false) := sameB_len (by omega)
    rw [HV.out]
    have hb : ((om : Int) == (rm : Int)) = false := by simp; omega
    clear h k HV hl hk
    go_enter Try.func8, Try.ntmps8
    go_wp2_with fail
    go_ret
    exact ⟨rfl, Below.refl _ _⟩
end Go.Proofs.Ytakpdhmfbgfblaa
