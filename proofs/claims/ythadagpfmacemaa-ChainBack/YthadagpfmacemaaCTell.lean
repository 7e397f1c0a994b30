/- tell of package chain (by gentell.py). -/
import Derived.Test.YthadagpfmacemaaCPut
namespace Go.Proofs.Ythadagpfmacemaa
open Go.RowKit
variable {w w' W X : World} {l : List Pt} {A : Nat → Sl} {ad : Option Addr} {m c : Nat} {o t : Int} {B : List Nat} {v : Value}

/-- A part, and a chain, as bytes. -/
def partN (p : Pt) : List Nat := putsN 6 [p.first, p.id] ++ putsN 1 [(p.nodes.length : Int)] ++ putsN 1 p.nodes
def headN (o t : Int) (n : Nat) : List Nat := putsN 1 [o] ++ putsN 6 [t] ++ putsN 1 [(n : Int)]
def tellN (o t : Int) (l : List Pt) : List Nat := headN o t l.length ++ l.flatMap partN
/-- What has room in its bytes. -/
def FitP (p : Pt) : Prop := (0 ≤ p.first ∧ p.first < 281474976710656) ∧ (0 ≤ p.id ∧ p.id < 281474976710656) ∧ p.nodes.length ≤ 9 ∧ ∀ x ∈ p.nodes, 0 ≤ x ∧ x < 256
theorem partN_length (p : Pt) : (partN p).length = 13 + p.nodes.length := by unfold partN; simp [putsN_length]; omega
theorem headN_length (o t : Int) (n : Nat) : (headN o t n).length = 8 := by unfold headN; simp [putsN_length]
theorem parts_length (l : List Pt) (h : ∀ p ∈ l, p.nodes.length ≤ 9) : (l.flatMap partN).length ≤ l.length * 22 := by
  induction l with
  | nil => simp
  | cons p l ih =>
    rw [List.flatMap_cons, List.length_append, partN_length, List.length_cons]
    have h1 := h p (by simp)
    have h2 := ih (fun q hq => h q (by simp [hq]))
    omega
theorem ints_blk1 {g : Nat} {x : Int} (h : Blk w g #[.int .i64 x] 3) (hx : -9223372036854775808 ≤ x ∧ x ≤ 9223372036854775807) : Ints w [x] (some ⟨g, 0, none⟩) 1 1 := by
  refine ⟨rfl, Nat.le_refl _, by unfold maxLen; omega, Or.inr ⟨g, 0, rfl, h.lt, fun i hi => ?_⟩, fun y hy => by simp at hy; subst hy; exact hx⟩
  obtain rfl : i = 0 := by omega
  exact h.cell 0
theorem ints_blk2 {g : Nat} {x y : Int} (h : Blk w g #[.int .i64 x, .int .i64 y] 3) (hx : -9223372036854775808 ≤ x ∧ x ≤ 9223372036854775807) (hy : -9223372036854775808 ≤ y ∧ y ≤ 9223372036854775807) : Ints w [x, y] (some ⟨g, 0, none⟩) 2 2 := by
  refine ⟨rfl, Nat.le_refl _, by unfold maxLen; omega, Or.inr ⟨g, 0, rfl, h.lt, fun i hi => ?_⟩, fun z hz => by simp at hz; rcases hz with rfl | rfl; exact hx; exact hy⟩
  rcases (show i = 0 ∨ i = 1 by omega) with rfl | rfl
  · exact h.cell 0
  · exact h.cell 1
/-- tell in its midst. -/
structure TellW (w : World) (o t : Int) (ad : Option Addr) (m c : Nat) (B : List Nat) (v : Value) (W : World) : Prop where
  own : OwnB W (w.heap.size + 1) v B
  box : Blk W w.heap.size #[.int .i64 o, .int .i64 t, .slice ad m c] 28
  below : Below w.heap.size w W
theorem TellW.later (h : TellW w o t ad m c B v W) (hb : Below W.heap.size W X) : TellW w o t ad m c B v X := ⟨own_kept h.own hb, h.box.later hb, h.below.trans (hb.mono h.below.size)⟩
theorem TellW.size (h : TellW w o t ad m c B v W) : w.heap.size + 1 ≤ W.heap.size := h.box.lt
theorem TellW.put {ns : List Int} {s a k : Nat} {d : Option Addr} (h : TellW w o t ad m c B v X) (hx : ∀ Y, KeepU (w.heap.size + 1) X Y → Ints Y ns d a k) (h1 : 1 ≤ s) (h6 : s ≤ 6) (hr : ∀ x ∈ ns, 0 ≤ x ∧ x < 2 ^ (8 * s)) (hL : B.length + a * s ≤ 1000000) :
    Calls Try.prog 56 #[v, .int .i64 (s : Int), .slice d a k] X fun e w' => ∃ v', e = .returned v' ∧ Hid (TellW w o t ad m c (B ++ putsN s ns) v' w' ∧ KeepU (w.heap.size + 1) X w') :=
  (cput_any h.own h.size hx h1 h6 hr hL).mono (fun e w' hh => by
    obtain ⟨v', rfl, ho⟩ := hh
    exact ⟨v', rfl, hid ⟨⟨ho.out.1, h.box.keepU ho.out.2 (by decide), h.below.trans (ho.out.2.below.mono (by omega))⟩, ho.out.2⟩⟩)
theorem TellW.put1 {s : Nat} {x : Int} (h : TellW w o t ad m c B v W) (h1 : 1 ≤ s) (h6 : s ≤ 6) (hr : 0 ≤ x ∧ x < 2 ^ (8 * s)) (hx : x < 281474976710656) (hL : B.length ≤ 900000) :
    Calls Try.prog 56 #[v, .int .i64 (s : Int), .slice (some ⟨W.heap.size, 0, none⟩) 1 1] (W.alloc (.cells #[.int .i64 x] 3)) fun e w' => ∃ v', e = .returned v' ∧ Hid (TellW w o t ad m c (B ++ putsN s [x]) v' w' ∧ KeepU (w.heap.size + 1) (W.alloc (.cells #[.int .i64 x] 3)) w') :=
  (h.later ((Below.refl _ _).alloc (Nat.le_refl _) _)).put (fun Y hY => ints_blk1 (Blk.keepU (heap_alloc_new W _) hY (by decide)) (by omega)) h1 h6 (fun y hy => by simp at hy; subst hy; exact hr) (by omega)
theorem TellW.put2 {x y : Int} (h : TellW w o t ad m c B v W) (hx : 0 ≤ x ∧ x < 281474976710656) (hy : 0 ≤ y ∧ y < 281474976710656) (hL : B.length ≤ 900000) :
    Calls Try.prog 56 #[v, .int .i64 6, .slice (some ⟨W.heap.size, 0, none⟩) 2 2] (W.alloc (.cells #[.int .i64 x, .int .i64 y] 3)) fun e w' => ∃ v', e = .returned v' ∧ Hid (TellW w o t ad m c (B ++ putsN 6 [x, y]) v' w' ∧ KeepU (w.heap.size + 1) (W.alloc (.cells #[.int .i64 x, .int .i64 y] 3)) w') :=
  (h.later ((Below.refl _ _).alloc (Nat.le_refl _) _)).put (s := 6) (fun Y hY => ints_blk2 (Blk.keepU (heap_alloc_new W _) hY (by decide)) (by omega) (by omega)) (by omega) (by omega) (fun z hz => by simp at hz; rcases hz with rfl | rfl; exact hx; exact hy) (by omega)
theorem take_snocP' (l : List Pt) (j : Nat) (h : j < l.length) : l.take (j + 1) = l.take j ++ [ptAt l j] := take_snocP l j h
set_option maxRecDepth 100000 in
set_option maxHeartbeats 4000000 in
theorem tell_any (h : CArg w l A ad m c) (ho : 0 ≤ o ∧ o < 256) (ht : 0 ≤ t ∧ t < 281474976710656) (hm : m ≤ 64) (hf : ∀ i, i < m → FitP (ptAt l i)) :
    Calls Try.prog 32 #[.agg #[.int .i64 o, .int .i64 t, .slice ad m c]] w fun e w' => ∃ v, e = .returned v ∧ Hid (OwnB w' (w.heap.size + 1) v (tellN o t l) ∧ Below w.heap.size w w') := by
  have hl := h.len
  have H := hid h
  have HF := hid hf
  have HLP : Hid (∀ j, j ≤ m → ((l.take j).flatMap partN).length ≤ 1408) := hid (fun j hj => by
    have h1 := parts_length (l.take j) (fun p hp => by
      obtain ⟨i, hi, rfl⟩ := List.getElem_of_mem hp
      rw [List.length_take] at hi
      rw [List.getElem_take]
      have := (hf i (by omega)).2.2.1
      unfold ptAt at this
      rw [List.getD_eq_getElem?_getD, List.getElem?_eq_getElem (by omega)] at this
      exact this)
    rw [List.length_take] at h1
    have : min j l.length * 22 ≤ 64 * 22 := Nat.mul_le_mul_right 22 (by omega)
    omega)
  have T0 : Hid (TellW w o t ad m c [] (.slice none 0 0) (w.alloc (.cells #[.int .i64 o, .int .i64 t, .slice ad m c] 28))) := hid ⟨World.ownsRow_nil _ _ _ _, heap_alloc_new w _, (Below.refl _ _).alloc (Nat.le_refl _) _⟩
  have HP1 : Hid (Calls Try.prog 56 #[.slice none 0 0, .int .i64 1, .slice (some ⟨w.heap.size + 1, 0, none⟩) 1 1] ((w.alloc (.cells #[.int .i64 o, .int .i64 t, .slice ad m c] 28)).alloc (.cells #[.int .i64 o] 3)) fun e w' => ∃ v', e = .returned v' ∧ Hid (TellW w o t ad m c (putsN 1 [o]) v' w' ∧ KeepU (w.heap.size + 1) ((w.alloc (.cells #[.int .i64 o, .int .i64 t, .slice ad m c] 28)).alloc (.cells #[.int .i64 o] 3)) w')) := hid (by
    have := T0.out.put1 (s := 1) (x := o) (by omega) (by omega) (by omega) (by omega) (by simp)
    rw [World.size_alloc, List.nil_append] at this
    exact this)
  have HC : Hid (∀ W, Below w.heap.size w W → CArg W l A ad m c) := hid (fun W hW => h.later hW)
  clear h hf
  go_enter Try.func32, Try.ntmps32
  go_wp2_with first
    | (go_at_call 56; (with_reducible_and_instances (refine HP1.out.mono ?_)); rintro x w1 ⟨v1, rfl, h1⟩; have T1 := hid h1.out.1; have k0 : w1.cell? ⟨w.heap.size, 1, none⟩ = some (.int .i64 t) := T1.out.box.cell 1; have HP2 := hid (T1.out.put1 (s := 6) (x := t) (by omega) (by omega) (by omega) (by omega) (by simp [putsN_length])); clear h1)
    | (go_at_call 56; (with_reducible_and_instances (refine HP2.out.mono ?_)); rintro x w2 ⟨v2, rfl, h2⟩; have T2 := hid h2.out.1; clear k0; have k0 : w2.cell? ⟨w.heap.size, 2, none⟩ = some (.slice ad m c) := T2.out.box.cell 2; have HP3 := hid (T2.out.put1 (s := 1) (x := (m : Int)) (by omega) (by omega) (by omega) (by omega) (by simp [putsN_length])); clear h2)
    | (go_at_call 56; (with_reducible_and_instances (refine HP3.out.mono ?_)); rintro x w3 ⟨v3, rfl, h3⟩; have T3 := hid h3.out.1; clear k0; have k0 : w3.cell? ⟨w.heap.size, 2, none⟩ = some (.slice ad m c) := T3.out.box.cell 2; clear h3)
  have T3' : Hid (TellW w o t ad m c (headN o t m) v3 w3) := hid T3.out
  clear T0 T1 T2 T3 HP1 HP2 HP3 k0
  go_loopw [3, 24] (fun v' i wr => ∃ j : Nat, j ≤ m ∧ i = .int .i64 j ∧ Hid (TellW w o t ad m c (headN o t m ++ (l.take j).flatMap partN) v' wr)) (fun _ i _ => m - (intOf i).toNat)
  case atStart => exact ⟨0, by omega, rfl, hid (by rw [List.take_zero, List.flatMap_nil, List.append_nil]; exact T3'.out)⟩
  case round =>
    obtain ⟨j, hj, rfl, HW⟩ := hrel
    clear T3'
    by_cases hlt : j < m
    · have hlti : decide ((j : Int) < (m : Int)) = true := by simp; omega
      obtain ⟨adu, nu, cu, rfl⟩ := owns_slice' HW.out.own
      have hcw := HC.out wr HW.out.below
      obtain ⟨b, off, rfl, hs, hc⟩ := hcw.cells (by omega)
      obtain ⟨r0, r1, r2⟩ := hc j hlt
      have hfit := HF.out j hlt
      have hnl := (hcw.ints j hlt).1.len
      have hbl := HLP.out j hj
      have T4 := hid (HW.out.later ((Below.refl _ _).alloc (Nat.le_refl _) (.cells #[.int .i64 (ptAt l j).first, .int .i64 (ptAt l j).id, .slice (A j).ad (A j).m (A j).c] 61)))
      have HQ1 := hid (T4.out.put2 (x := (ptAt l j).first) (y := (ptAt l j).id) hfit.1 hfit.2.1 (by rw [List.length_append, headN_length]; omega))
      rw [World.size_alloc] at HQ1
      have HBP : Hid (Blk (wr.alloc (.cells #[.int .i64 (ptAt l j).first, .int .i64 (ptAt l j).id, .slice (A j).ad (A j).m (A j).c] 61)) wr.heap.size #[.int .i64 (ptAt l j).first, .int .i64 (ptAt l j).id, .slice (A j).ad (A j).m (A j).c] 61) := hid (heap_alloc_new wr _)
      have HIN : Hid (∀ Y, Below w.heap.size w Y → Ints Y (ptAt l j).nodes (A j).ad (A j).m (A j).c) := hid (fun Y hY => ((HC.out Y hY).ints j hlt).1)
      have HND : Hid (∀ x ∈ (ptAt l j).nodes, 0 ≤ x ∧ x < 2 ^ (8 * 1)) := hid (fun x hx => hfit.2.2.2 x hx)
      have h9 := hfit.2.2.1
      clear hcw hc hs hfit T4
      go_wp2_with first
        | (go_at_call 56; (with_reducible_and_instances (refine HQ1.out.mono ?_)); rintro x w4 ⟨v4, rfl, h4⟩; have T5 := hid h4.out.1; have HB4 := hid ((HBP.out.later ((Below.refl _ _).alloc (Nat.le_refl _) _)).keepU h4.out.2 (by decide)); have q2 : w4.cell? ⟨wr.heap.size, 2, none⟩ = some (.slice (A j).ad (A j).m (A j).c) := HB4.out.cell 2; have HQ2 := hid (T5.out.put1 (s := 1) (x := ((A j).m : Int)) (by omega) (by omega) (by omega) (by omega) (by rw [List.length_append, List.length_append, headN_length, putsN_length]; simp only [List.length_cons, List.length_nil]; omega)); clear h4)
        | (go_at_call 56; (with_reducible_and_instances (refine HQ2.out.mono ?_)); rintro x w5 ⟨v5, rfl, h5⟩; have T6 := hid h5.out.1; have HB5 := hid ((HB4.out.later ((Below.refl _ _).alloc (Nat.le_refl _) _)).keepU h5.out.2 (by decide)); clear q2; have q2 : w5.cell? ⟨wr.heap.size, 2, none⟩ = some (.slice (A j).ad (A j).m (A j).c) := HB5.out.cell 2; have HQ3 := hid (T6.out.put (s := 1) (ns := (ptAt l j).nodes) (fun Y hY => HIN.out Y (T6.out.below.trans (hY.below.mono (by omega)))) (by omega) (by omega) HND.out (by rw [List.length_append, List.length_append, List.length_append, headN_length, putsN_length, putsN_length]; simp only [List.length_cons, List.length_nil]; omega)); clear h5)
        | (go_at_call 56; (with_reducible_and_instances (refine HQ3.out.mono ?_)); rintro x w6 ⟨v6, rfl, h6⟩; have T7 := hid h6.out.1; clear h6)
      refine ⟨⟨j + 1, by omega, by go_num, hid ?_⟩, by simp [intOf]; omega⟩
      have e : headN o t m ++ (l.take (j + 1)).flatMap partN = (((headN o t m ++ (l.take j).flatMap partN) ++ putsN 6 [(ptAt l j).first, (ptAt l j).id]) ++ putsN 1 [((A j).m : Int)]) ++ putsN 1 (ptAt l j).nodes := by
        rw [take_snocP' l j (by omega), List.flatMap_append, List.flatMap_cons, List.flatMap_nil, List.append_nil]
        unfold partN
        rw [hnl]
        simp only [List.append_assoc]
      rw [e]
      exact T7.out
    · obtain rfl : j = m := by omega
      have hlti : decide ((j : Int) < (j : Int)) = false := by simp
      go_wp2_with fail
      go_ret
      refine ⟨_, rfl, hid ⟨?_, HW.out.below⟩⟩
      have := HW.out.own
      rw [List.take_of_length_le (by omega)] at this
      unfold tellN
      rw [hl]
      exact this
end Go.Proofs.Ythadagpfmacemaa
