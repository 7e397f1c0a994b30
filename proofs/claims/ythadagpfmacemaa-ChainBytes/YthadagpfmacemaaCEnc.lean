/- Encode of package chain. -/
import Derived.Test.YthadagpfmacemaaCTell
import Derived.Test.YthadagpfmacemaaCInsist
import Derived.Test.YthadagpfmacemaaCAttB
namespace Go.Proofs.Ythadagpfmacemaa
open Go.RowKit
variable {w W : World} {l : List Pt} {A : Nat → Sl} {ad : Option Addr} {m c gn gc : Nat} {o t n : Int}

/-- Encode's error, and its bytes. -/
def encE (o t : Int) (l : List Pt) (n : Int) : Int := if mayC o t l n then (if n ≤ 256 then 0 else 6) else 1
def encB (o t : Int) (l : List Pt) (n : Int) : List Nat := if encE o t l n = 0 then tellN o t l else []
theorem encE_1 (h : ¬ mayC o t l n) : encE o t l n = 1 := by unfold encE; rw [if_neg h]
theorem encE_6 (h : mayC o t l n) (h2 : ¬ n ≤ 256) : encE o t l n = 6 := by unfold encE; rw [if_pos h, if_neg h2]
theorem encE_0 (h : mayC o t l n) (h2 : n ≤ 256) : encE o t l n = 0 := by unfold encE; rw [if_pos h, if_pos h2]
theorem encE_ok (h : encE o t l n = 0) : mayC o t l n ∧ n ≤ 256 := by
  unfold encE at h
  split at h
  · split at h
    · rename_i h1 h2; exact ⟨h1, h2⟩
    · cases h
  · cases h
theorem tellN_lt (o t : Int) (l : List Pt) : ∀ x ∈ tellN o t l, x < 256 := by
  intro x hx
  unfold tellN headN at hx
  simp only [List.mem_append, List.mem_flatMap] at hx
  rcases hx with ((hx | hx) | hx) | ⟨p, -, hx⟩
  · exact putsN_lt _ _ x hx
  · exact putsN_lt _ _ x hx
  · exact putsN_lt _ _ x hx
  · unfold partN at hx
    simp only [List.mem_append] at hx
    rcases hx with (hx | hx) | hx <;> exact putsN_lt _ _ x hx
theorem may_fit (h : mayC o t l n) (h2 : n ≤ 256) : ∀ i, i < l.length → FitP (ptAt l i) := by
  intro i hi
  obtain ⟨h1, hc, -, -⟩ := h.2.2.1 i hi
  unfold checkL at hc
  by_cases hq : 0 ≤ (ptAt l i).id ∧ (ptAt l i).id < 281474976710656 ∧ 1 ≤ (ptAt l i).nodes.length ∧ (ptAt l i).nodes.length ≤ 9 ∧ goodN n (ptAt l i).nodes (ptAt l i).nodes.length
  · refine ⟨h1, ⟨hq.1, hq.2.1⟩, hq.2.2.2.1, fun x hx => ?_⟩
    obtain ⟨k, hk, rfl⟩ := List.getElem_of_mem hx
    have := hq.2.2.2.2 k hk
    rw [List.getD_eq_getElem?_getD, List.getElem?_eq_getElem hk] at this
    simp only [Option.getD_some] at this
    omega
  · rw [if_neg hq] at hc; cases hc
set_option maxRecDepth 100000 in
set_option maxHeartbeats 2000000 in
theorem enc1_any (hgc : Blk W gc #[.int .i64 o, .int .i64 t, .slice ad m c] 28) (hgn : Blk W gn #[.int .i64 n] 3) (h : CArg W l A ad m c) :
    Calls Try.prog 29 #[.pointer (some ⟨gc, 0, none⟩), .pointer (some ⟨gn, 0, none⟩)] W fun x W' =>
      ((∃ (ad' : Option Addr) (m' c' : Nat), x = .returned (.slice ad' m' c') ∧ (encE o t l n = 0 ∧ OwnB W' W.heap.size (.slice ad' m' c') (tellN o t l))) ∨ (∃ y : Int, x = .panicked (refusal y) ∧ (y = encE o t l n ∧ y ≠ 0))) ∧ Below W.heap.size W W' := by
  have HI := hid (insistChain_any h o t n 1)
  have HB : Hid (∀ X, Below W.heap.size W X → (X.cell? ⟨gc, 0, none⟩ = some (.int .i64 o) ∧ X.cell? ⟨gc, 1, none⟩ = some (.int .i64 t) ∧ X.cell? ⟨gc, 2, none⟩ = some (.slice ad m c)) ∧ X.cell? ⟨gn, 0, none⟩ = some (.int .i64 n)) := hid (fun X hX => ⟨⟨(hgc.later hX).cell 0, (hgc.later hX).cell 1, (hgc.later hX).cell 2⟩, (hgn.later hX).cell 0⟩)
  obtain ⟨⟨k0, k1, k2⟩, k3⟩ := HB.out W (Below.refl _ _)
  have hl := h.len
  have H := hid h
  clear h hgc hgn
  by_cases a1 : mayC o t l n
  case neg =>
    have HE := hid (encE_1 a1)
    rw [insC_no a1] at HI
    clear a1
    go_enter Try.func29, Try.ntmps29
    go_wp2_with (go_at_call 30; refine HI.out.mono ?_; rintro x w1 ⟨rfl, hb1⟩)
    exact ⟨rfl, Or.inr ⟨1, rfl, HE.out.symm, by decide⟩, hb1⟩
  rw [insC_ok a1] at HI
  by_cases a2 : n ≤ 256
  case neg =>
    have HE := hid (encE_6 a1 a2)
    have d2 : decide (n ≤ 256) = false := by simpa using a2
    clear a1 a2
    go_enter Try.func29, Try.ntmps29
    go_wp2_with first
      | (go_at_call 30; refine HI.out.mono ?_; rintro x w1 ⟨rfl, hb1⟩; have HB1 := hid hb1; clear k0 k1 k2 k3; obtain ⟨⟨k0, k1, k2⟩, k3⟩ := HB.out w1 hb1; clear hb1)
      | (go_at_call 31; refine (insist_no 6 _).mono ?_; rintro x w2 ⟨rfl, hw2⟩; obtain rfl := hw2.symm)
    exact ⟨rfl, Or.inr ⟨6, rfl, HE.out.symm, by decide⟩, HB1.out⟩
  have HE := hid (encE_0 a1 a2)
  have d2 : decide (n ≤ 256) = true := by simpa using a2
  have HT : Hid (∀ X, Below W.heap.size W X → Calls Try.prog 32 #[.agg #[.int .i64 o, .int .i64 t, .slice ad m c]] X fun e w' => ∃ ad' m' c', e = .returned (.slice ad' m' c') ∧ Hid (OwnB w' X.heap.size (.slice ad' m' c') (tellN o t l) ∧ Below X.heap.size X w')) := hid (fun X hX => (tell_any (H.out.later hX) (by have := a1.1; omega) (by have := a1.2.1.1; unfold isN at this; exact this) (by have := a1.2.1.2; omega) (fun i hi => may_fit a1 a2 i (by omega))).mono (fun e w' hh => by
    obtain ⟨v, rfl, ho⟩ := hh
    obtain ⟨ad', m', c', rfl⟩ := owns_slice' ho.out.1
    refine ⟨ad', m', c', rfl, hid ⟨?_, ho.out.2⟩⟩
    exact (show Own w' X.heap.size _ _ from Own.down ⟨tellN_lt o t l, ho.out.1⟩ (by omega)).2))
  clear a1 a2
  go_enter Try.func29, Try.ntmps29
  go_wp2_with first
    | (go_at_call 30; refine HI.out.mono ?_; rintro x w1 ⟨rfl, hb1⟩; have HB1 := hid hb1; clear k0 k1 k2 k3; obtain ⟨⟨k0, k1, k2⟩, k3⟩ := HB.out w1 hb1; clear hb1)
    | (go_at_call 31; refine (insist_ok 6 _).mono ?_; rintro x w2 ⟨rfl, hw2⟩; obtain rfl := hw2.symm)
    | (go_at_call 32; refine (HT.out _ HB1.out).mono ?_; rintro x w3 ⟨ad', m', c', rfl, hh⟩)
  go_ret
  exact ⟨Or.inl ⟨ad', m', c', rfl, HE.out, (Own.down ⟨tellN_lt o t l, hh.out.1⟩ HB1.out.size : Own w3 W.heap.size _ _).2⟩, HB1.out.trans (hh.out.2.mono HB1.out.size)⟩
theorem enters_enc1 : ∀ args w, (callFunc 29 args).run Try.prog w = .ok (.enter 29 args) w := fun _ _ => by kernel_rfl
set_option maxRecDepth 100000 in
set_option maxHeartbeats 1000000 in
theorem encode_any (h : CArg w l A ad m c) (o t n : Int) : Calls Try.prog 9 #[.agg #[.int .i64 o, .int .i64 t, .slice ad m c], .int .i64 n] w fun x w' =>
      ∃ ad' m' c', x = .returned (.tuple #[.slice ad' m' c', .int .i64 (encE o t l n)]) ∧ Hid (Own w' w.heap.size (.slice ad' m' c') (encB o t l n)) ∧ Below w.heap.size w w' := by
  obtain ⟨W2, hW2⟩ : ∃ W2, ((w.alloc (.cells #[.int .i64 o, .int .i64 t, .slice ad m c] 28)).alloc (.cells #[.int .i64 n] 3)) = W2 := ⟨_, rfl⟩
  have hb2 : Below w.heap.size w W2 := by rw [← hW2]; exact ((Below.refl _ w).alloc (Nat.le_refl _) _).alloc (by simp) _
  have hs2 : W2.heap.size = w.heap.size + 2 := by rw [← hW2]; simp
  have q0 : Blk W2 w.heap.size #[.int .i64 o, .int .i64 t, .slice ad m c] 28 := by rw [← hW2]; exact (show Blk (w.alloc (.cells #[.int .i64 o, .int .i64 t, .slice ad m c] 28)) w.heap.size _ _ from heap_alloc_new w _).later ((Below.refl _ _).alloc (Nat.le_refl _) _)
  have q1 : Blk W2 (w.heap.size + 1) #[.int .i64 n] 3 := by rw [← hW2]; exact heap_alloc_new' _ _ _ (by simp)
  have n1 := (Below.refl W2.heap.size W2).alloc (Nat.le_refl _) (.cells #[.int .i64 0] 31)
  have HX1 := enc1_any (q0.later n1) (q1.later n1) ((h.later hb2).later n1)
  rw [World.size_alloc] at HX1
  have HAT := hid (attemptbyte 29 _ W2 enters_enc1 (fun ad' m' c' X => encE o t l n = 0 ∧ OwnB X (W2.heap.size + 1) (.slice ad' m' c') (tellN o t l)) (fun y => y = encE o t l n ∧ y ≠ 0) HX1)
  have HAT2 : Hid (Calls Try.prog 28 #[.func (.func 29) #[] #[.pointer (some ⟨w.heap.size, 0, none⟩), .pointer (some ⟨w.heap.size + 1, 0, none⟩)]] W2 fun x w' => ∃ ad' m' c', x = .returned (.tuple #[.slice ad' m' c', .int .i64 (encE o t l n)]) ∧ Hid (Own w' w.heap.size (.slice ad' m' c') (encB o t l n)) ∧ Hid (Below w.heap.size w w')) := hid (HAT.out.mono (by
    rintro x w' ⟨h1, hb⟩
    have hbw := hb2.trans (hb.mono hb2.size)
    rcases h1 with ⟨X, hch, -, ad', m', c', rfl, hE, ho⟩ | ⟨y, rfl, rfl, hy⟩
    · refine ⟨ad', m', c', by rw [hE], hid ?_, hid hbw⟩
      unfold encB
      rw [if_pos hE]
      refine Own.down (base := W2.heap.size + 1) ⟨tellN_lt o t l, ownsR_chg ho hch (fun g hg hm => ?_)⟩ (by omega)
      have := owns_base ho g (by simpa using hg)
      simp at hm
      omega
    · refine ⟨none, 0, 0, rfl, hid ?_, hid hbw⟩
      unfold encB
      rw [if_neg hy]
      exact Own.nil _ _))
  have hmf : ∀ (fn : Fn) (first cap : Array Value) (w : World), (Instr.makeFunc fn first cap).run Try.prog w = .ok (.func fn first cap) w := fun _ _ _ _ => rfl
  clear h HAT HX1 n1 q0 q1 hb2
  go_enter Try.func9, Try.ntmps9
  go_wp2_with (go_at_call 28; refine HAT2.out.mono ?_; rintro x w' ⟨ad', m', c', rfl, HR, HBW⟩)
  refine bodyPost_ret (v := .tuple #[.slice ad' m' c', .int .i64 (encE o t l n)]) (by simp [results, Try.results9, go_sem]) rfl ⟨ad', m', c', rfl, HR, HBW.out⟩
end Go.Proofs.Ythadagpfmacemaa
