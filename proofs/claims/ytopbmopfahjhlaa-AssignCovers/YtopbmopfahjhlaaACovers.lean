/- covers of the statements of layer 14. -/
import Derived.Test.YtopbmopfahjhlaaAMath
import Derived.Test.YtopbmopfahjhlaaASame
import Derived.Laws.MakeOwn
namespace Go.Proofs.Ytopbmopfahjhlaa
open Go.RowKit
variable {w w' : World} {oa : Option Addr} {om oc : Nat} {A : List ShA} {P : List (List Int)}

/-- How often each partition was met. -/
def cnts (p : Nat) (F : List Int) : List Value := (List.range p).map (fun (x : Nat) => Value.int .i64 ((F.count (x : Int) : Nat) : Int))
theorem cnts_len (p : Nat) (F : List Int) : (cnts p F).length = p := by simp [cnts]
theorem cnts_get (p : Nat) (F : List Int) (x : Nat) (h : x < p) : (cnts p F)[x]? = some (.int .i64 ((F.count (x : Int) : Nat) : Int)) := by simp [cnts, h]
theorem cnts_set (p : Nat) (F : List Int) (x : Nat) (h : x < p) : (cnts p F).toArray.setIfInBounds x (.int .i64 (((F.count (x : Int) : Nat) : Int) + 1)) = (cnts p (F ++ [(x : Int)])).toArray := by
  rw [List.setIfInBounds_toArray]
  congr 1
  apply List.ext_getElem?
  intro j
  by_cases hj : j < p
  · rw [cnts_get p _ j hj]
    by_cases e : x = j
    · subst e
      rw [List.getElem?_set_self (by rw [cnts_len]; exact h), List.count_append]
      simp
    · rw [List.getElem?_set_ne e, cnts_get p _ j hj, List.count_append]
      have : List.count (j : Int) [(x : Int)] = 0 := by
        rw [List.count_eq_zero]
        simp
        omega
      rw [this]
      simp
  · rw [List.getElem?_eq_none (by rw [List.length_set, cnts_len]; omega), List.getElem?_eq_none (by rw [cnts_len]; omega)]
theorem cnts_zero (p : Nat) : cnts p [] = List.replicate p (.int .i64 0) := by
  apply List.ext_getElem?
  intro j
  by_cases hj : j < p
  · rw [cnts_get p _ j hj]; simp [hj]
  · rw [List.getElem?_eq_none (by rw [cnts_len]; omega), List.getElem?_eq_none (by simp; omega)]
theorem make_ints (p : Nat) (hp : p ≤ 1048576) (W : World) : (Instr.makeSlice 37 (.int .i64 (p : Int)) (.int .i64 (p : Int))).run Try.prog W = .ok (.slice (some ⟨W.heap.size, 0, none⟩) p p) (W.alloc (.cells (cnts p []).toArray 3)) := by
  obtain ⟨i0, hi, hz0, hz1, hz2⟩ := info_parts Try.infoZ
  have h := run_makeSlice (P := Try.prog) W 37 3 i0 (.int .i64 0) kZ_ok.und hi hz0 .i64 .i64 (p : Int) (p : Int) (by omega) (by omega) (by rw [hz1]; omega) (by rw [hz2]; omega) (by omega)
  rw [h]
  have e : madeCells (Value.int .i64 0).cells (((p : Nat) : Int).toNat * i0.size) = (cnts p []).toArray := by
    rw [hz1, Int.toNat_natCast, Nat.mul_one, cnts_zero]
    apply Array.ext
    · simp [madeCells]
    · intro j h1 h2
      simp [madeCells, Value.cells, Nat.mod_one]
  rw [e]
  rfl
theorem mem_all {p : Nat} {z : Int} (h : z ∈ allP p) : ∃ x : Nat, z = (x : Int) ∧ x < p := by
  unfold allP at h
  obtain ⟨x, hx, rfl⟩ := List.mem_map.1 h
  exact ⟨x, rfl, by simpa using hx⟩
theorem count_all (p x : Nat) (h : x < p) : (allP p).count (x : Int) = 1 := by
  induction p with
  | zero => omega
  | succ n ih =>
    rw [allP_succ, List.count_append]
    by_cases e : x = n
    · subst e
      have : (allP x).count (x : Int) = 0 := List.count_eq_zero.2 (fun hm => by obtain ⟨y, e, hy⟩ := mem_all hm; omega)
      rw [this]; simp
    · rw [ih (by omega)]
      have : List.count (x : Int) [(n : Int)] = 0 := List.count_eq_zero.2 (by simp; omega)
      rw [this]
theorem getD_mem_any {α : Type} (l : List α) (z : α) (j : Nat) (h : j < l.length) : l.getD j z ∈ l := by
  rw [List.getD_eq_getElem?_getD, List.getElem?_eq_getElem h]
  exact List.getElem_mem h
theorem rise_getD {l : List Int} (h : l.Pairwise (· < ·)) (k : Nat) (hk : k + 1 < l.length) : l.getD k 0 < l.getD (k + 1) 0 := by
  have := List.pairwise_iff_getElem.1 h k (k + 1) (by omega) hk (by omega)
  rw [getD_at l 0 k (by omega), getD_at l 0 (k + 1) hk]
  exact this
theorem flat_take (P : List (List Int)) (i : Nat) (h : i < P.length) : (P.take (i + 1)).flatten = (P.take i).flatten ++ P.getD i [] := by
  rw [take_snoc_any P [] i h, List.flatten_append]; simp
theorem flat_take_le (P : List (List Int)) (i : Nat) : (P.take i).flatten.length ≤ P.flatten.length := by
  have e : P.flatten = (P.take i).flatten ++ (P.drop i).flatten := by rw [← List.flatten_append, List.take_append_drop]
  rw [e, List.length_append]
  omega
set_option maxRecDepth 50000 in
set_option maxHeartbeats 4000000 in
theorem covers_any (h : ShV kSh w A P oa om oc) (p : Nat) (hp : p ≤ 32) (hm : om ≤ 1000) (hne : 0 < om) (hc : CovP P p) : Calls Try.prog 18 #[.slice oa om oc, .int .i64 (p : Int)] w fun e w' => e = .returned (.bool true) ∧ Below w.heap.size w w' := by
  obtain ⟨b, heven⟩ := hc.even
  have hl := h.row.len
  have hPl : P.length = om := by rw [← h.len]; exact hl
  have hin : ∀ i, i < om → P.getD i [] ∈ P := fun i hi => by rw [List.getD_eq_getElem?_getD, List.getElem?_eq_getElem (by omega)]; exact List.getElem_mem _
  have hfl : P.flatten.length = p := by rw [hc.perm.length_eq, allP_len]
  have hlp : ∀ q ∈ P, q.length ≤ p := fun q hq => by rw [← hfl]; exact (sub_flatten hq).length_le
  have hbp : b ≤ p := Nat.le_trans (heven _ (hin 0 hne)).1 (hlp _ (hin 0 hne))
  have HE : Hid (∀ i, i < om → b ≤ (P.getD i []).length ∧ (P.getD i []).length ≤ b + 1 ∧ (P.getD i []).length ≤ p) := fun i hi => ⟨(heven _ (hin i hi)).1, (heven _ (hin i hi)).2, hlp _ (hin i hi)⟩
  have HX : Hid (∀ i k, i < om → k < (P.getD i []).length → ∃ x : Nat, (P.getD i []).getD k 0 = (x : Int) ∧ x < p) := fun i k hi hk => by
    have hm := getD_mem_any (P.getD i []) 0 k hk
    exact mem_all (hc.perm.mem_iff.1 ((sub_flatten (hin i hi)).subset hm))
  have HR : Hid (∀ i k, i < om → k + 1 < (P.getD i []).length → (P.getD i []).getD k 0 < (P.getD i []).getD (k + 1) 0) := fun i k hi hk => by
    exact rise_getD (hc.rise _ (hin i hi)) k hk
  have HCt : Hid (∀ x, x < p → P.flatten.count ((x : Nat) : Int) = 1) := fun x hx => by rw [hc.perm.count_eq, count_all p x hx]
  have HCb : Hid (∀ i k, i < om → ((P.take i).flatten ++ (P.getD i []).take k).length ≤ p) := fun i k hi => by
    have h1 := flat_take_le P (i + 1)
    rw [flat_take P i (by omega), hfl, List.length_append] at h1
    rw [List.length_append, List.length_take]
    omega
  have HA := hid h
  have HPl := hid hPl
  have hmk := make_ints p (by omega) w
  have hB0 := (Below.refl w.heap.size w).alloc (Nat.le_refl _) (.cells (cnts p []).toArray 3)
  have hX0 : Blk (w.alloc (.cells (cnts p []).toArray 3)) w.heap.size (cnts p []).toArray 3 := heap_alloc_new w _
  obtain ⟨W0, hW0⟩ : ∃ W0, w.alloc (.cells (cnts p []).toArray 3) = W0 := ⟨_, rfl⟩
  rw [hW0] at hmk hB0 hX0
  have HB0 := hid hB0
  have HX0 := hid hX0
  have hL0 : w.heap.size < W0.heap.size := hX0.lt
  clear h hl hPl hin hfl hlp heven hc hW0 hB0 hX0
  go_enter Try.func18, Try.ntmps18
  go_wp2_with fail
  go_loopw [6, 7, 8] (fun lv mv iv wr => ∃ (i ls ms : Nat), i ≤ om ∧ iv = .int .i64 (i : Int) ∧ lv = .int .i64 (ls : Int) ∧ mv = .int .i64 (ms : Int) ∧ b ≤ ls ∧ ls ≤ p ∧ ms ≤ b + 1 ∧ Hid (Blk wr w.heap.size (cnts p (P.take i).flatten).toArray 3) ∧ Hid (Below w.heap.size w wr)) (fun _ _ iv _ => om - (intOf iv).toNat)
  case atStart => exact ⟨0, p, 0, by omega, rfl, rfl, rfl, hbp, Nat.le_refl _, by omega, HX0, HB0⟩
  case round =>
    obtain ⟨i, ls, ms, hi, rfl, rfl, rfl, hb1, hb2, hb3, HXi, HBi⟩ := hrel
    clear HX0 HB0 hmk
    by_cases hlt : i < om
    · have hA := HA.out.later HBi.out
      obtain ⟨b1, o1, rfl, hs0, -⟩ := HA.out.row.cells (by omega)
      obtain ⟨b1', o1', e1, hs1, hc1⟩ := hA.row.cells (by omega)
      cases e1
      have hiA : i < A.length := by rw [HA.out.len, HPl.out]; exact hlt
      have hpA := hA.part i hiA
      obtain ⟨x, hx⟩ : ∃ x, A.getD i sh0 = x := ⟨_, rfl⟩
      have hpA0 := HA.out.part i hiA
      rw [hx] at hpA hpA0
      obtain ⟨na, sa, sm, sc⟩ := x
      dsimp only at hpA hpA0
      have r1 : wr.cell? ⟨b1, o1 + i * 2 + 1, none⟩ = some (.slice sa sm sc) := by have h := hc1 i hlt 1 (by decide); rw [show A.getD i kSh.z = A.getD i sh0 from rfl, hx] at h; exact h
      have hsm := hpA.len
      obtain ⟨hE1, hE2, hE3⟩ := HE.out i hlt
      rw [hsm] at hE1 hE2 hE3
      obtain ⟨ls', hls⟩ : ∃ ls', min ls sm = ls' := ⟨_, rfl⟩
      obtain ⟨ms', hms⟩ : ∃ ms', max ms sm = ms' := ⟨_, rfl⟩
      have hmin : min (ls : Int) (sm : Int) = (ls' : Int) := by omega
      have hmax : max (ms : Int) (sm : Int) = (ms' : Int) := by omega
      have hb4 : b ≤ ls' ∧ ls' ≤ p ∧ ms' ≤ b + 1 := by omega
      have HSm := hid hsm
      have HPA := hid hpA0
      have HFl := hid (flat_take P i (by rw [HPl.out]; exact hlt))
      clear hA hc1 hpA hpA0 hx hsm hls hms
      obtain ⟨wq, rfl⟩ : ∃ q, q = wr := ⟨wr, rfl⟩
      go_wp2_with fail
      go_loopw [9] (fun kv wr => ∃ (k : Nat), k ≤ sm ∧ kv = .int .i64 (k : Int) ∧ Hid (Blk wr w.heap.size (cnts p ((P.take i).flatten ++ (P.getD i []).take k)).toArray 3) ∧ Hid (Below w.heap.size w wr)) (fun kv _ => sm - (intOf kv).toNat)
      case atStart => exact ⟨0, by omega, rfl, (by rw [List.take_zero, List.append_nil]; exact HXi), HBi⟩
      case round =>
        obtain ⟨k, hk, rfl, HXk, HBk⟩ := hrel
        have q1 : wr.cell? ⟨b1, o1 + i * 2 + 1, none⟩ = some (.slice sa sm sc) := (HBk.out.cell (p := ⟨b1, o1 + i * 2 + 1, none⟩) hs0).trans ((HBi.out.cell (p := ⟨b1, o1 + i * 2 + 1, none⟩) hs0).symm.trans r1)
        by_cases hks : k < sm
        · obtain ⟨bp, op, rfl, hbp0, hcp⟩ := HPA.out.cells (by omega)
          obtain ⟨x, hxe, hxp⟩ := HX.out i k hlt (by rw [HSm.out]; exact hks)
          have q2 : wr.cell? ⟨bp, op + k, none⟩ = some (.int .i64 (x : Int)) := (HBk.out.cell (p := ⟨bp, op + k, none⟩) hbp0).trans (by have h := hcp k hks 0 (by decide); rw [Nat.mul_one, Nat.add_zero] at h; rw [h, ← hxe]; rfl)
          have hcap := HPA.out.cap
          have c0 : wr.cell? ⟨w.heap.size, x, none⟩ = some (.int .i64 ((((P.take i).flatten ++ (P.getD i []).take k).count (x : Int) : Nat) : Int)) := (HXk.out.cell x).trans (by rw [List.getElem?_toArray]; exact cnts_get p _ x hxp)
          have f0 := HXk.out.free x
          have HTk := hid (take_snoc_any (P.getD i []) 0 k (by rw [HSm.out]; exact hks))
          have hct : ((P.take i).flatten ++ (P.getD i []).take k).count (x : Int) ≤ 100000 := by
            exact Nat.le_trans List.count_le_length (Nat.le_trans (HCb.out i k hlt) (by omega))
          have HN : Hid (Blk (wr.setCell ⟨w.heap.size, x, none⟩ (.int .i64 (((((P.take i).flatten ++ (P.getD i []).take k).count (x : Int) : Nat) : Int) + 1))) w.heap.size (cnts p ((P.take i).flatten ++ (P.getD i []).take (k + 1))).toArray 3) := by
            have h := HXk.out.set x (.int .i64 (((((P.take i).flatten ++ (P.getD i []).take k).count (x : Int) : Nat) : Int) + 1))
            rw [cnts_set p _ x hxp, List.append_assoc] at h
            rw [HTk.out, hxe]
            exact h
          have HBn : Hid (Below w.heap.size w (wr.setCell ⟨w.heap.size, x, none⟩ (.int .i64 (((((P.take i).flatten ++ (P.getD i []).take k).count (x : Int) : Nat) : Int) + 1)))) := HBk.out.setCell (p := ⟨w.heap.size, x, none⟩) (Nat.le_refl _) _
          generalize ((P.take i).flatten ++ (P.getD i []).take k).count (x : Int) = ct at *
          have hx0 : ¬ ((x : Int) < 0) := by omega
          have hxg : decide (p ≤ x) = false := by simp; omega
          by_cases hk0 : k = 0
          · subst hk0
            clear hcp hxe
            rw [Nat.add_zero] at q2
            go_wp2_with fail
            exact ⟨⟨0 + 1, by omega, by go_num, HN, HBn⟩, by simp [intOf]; omega⟩
          · have hr := HR.out i (k - 1) hlt (by rw [HSm.out]; omega)
            rw [show k - 1 + 1 = k by omega, hxe] at hr
            obtain ⟨y, hye, hyp⟩ := HX.out i (k - 1) hlt (by rw [HSm.out]; omega)
            have q3 : wr.cell? ⟨bp, op + (k - 1), none⟩ = some (.int .i64 (y : Int)) := (HBk.out.cell (p := ⟨bp, op + (k - 1), none⟩) hbp0).trans (by have h := hcp (k - 1) (by omega) 0 (by decide); rw [Nat.mul_one, Nat.add_zero] at h; rw [h, ← hye]; rfl)
            rw [hye] at hr
            have hxy : decide (x ≤ y) = false := by simp; omega
            have hk1 : 0 < k := by omega
            have hkm : k - 1 < sm := by omega
            have hki : (k : Int) - 1 = ((k - 1 : Nat) : Int) := by omega
            clear hcp hxe hye
            go_wp2_with fail
            exact ⟨⟨k + 1, by omega, by go_num, HN, HBn⟩, by simp [intOf]; omega⟩
        · obtain rfl : sm = k := by omega
          have HF : Hid ((P.take (i + 1)).flatten = (P.take i).flatten ++ (P.getD i []).take sm) := by
            have e : (P.getD i []).take sm = P.getD i [] := List.take_of_length_le (by rw [HSm.out]; exact Nat.le_refl _)
            rw [HFl.out, e]; exact rfl
          have HB4 := hid hb4
          clear hmin hmax hb4 hks hk hE1 hE2 hE3 hb1 hb2 hb3 r1
          go_wp2_with fail
          exact ⟨⟨i + 1, ls', ms', by omega, by go_num, rfl, rfl, HB4.out.1, HB4.out.2.1, HB4.out.2.2, (by rw [HF.out]; exact HXk), HBk⟩, by simp [intOf]; omega⟩
    · obtain rfl : om = i := by omega
      have HF : Hid ((P.take om).flatten = P.flatten) := by rw [List.take_of_length_le (by rw [HPl.out]; exact Nat.le_refl _)]; exact rfl
      rw [HF.out] at HXi
      obtain ⟨wq, rfl⟩ : ∃ q, q = wr := ⟨wr, rfl⟩
      go_wp2_with fail
      go_loopw [11] (fun xv wr => ∃ (x : Nat), x ≤ p ∧ xv = .int .i64 (x : Int) ∧ wr = wq) (fun xv _ => p - (intOf xv).toNat)
      case atStart => exact ⟨0, by omega, rfl, rfl⟩
      case round =>
        obtain ⟨x, hxp, rfl, hwr⟩ := hrel
        have HXw : Hid (Blk wr w.heap.size (cnts p P.flatten).toArray 3) := by rw [hwr]; exact HXi
        have HBw : Hid (Below w.heap.size w wr) := by rw [hwr]; exact HBi
        have HWr := hid hwr
        clear hwr HXi HBi
        by_cases hx : x < p
        · have c0 : wr.cell? ⟨w.heap.size, x, none⟩ = some (.int .i64 1) := (HXw.out.cell x).trans (by rw [List.getElem?_toArray, cnts_get p _ x hx, HCt.out x hx]; rfl)
          go_wp2_with fail
          exact ⟨⟨x + 1, by omega, by go_num, HWr.out⟩, by simp [intOf]; omega⟩
        · obtain rfl : p = x := by omega
          have hfin : (ms : Int) - (ls : Int) ≤ 1 := by omega
          go_wp2_with fail
          go_ret
          exact ⟨rfl, HBw.out⟩
end Go.Proofs.Ytopbmopfahjhlaa
