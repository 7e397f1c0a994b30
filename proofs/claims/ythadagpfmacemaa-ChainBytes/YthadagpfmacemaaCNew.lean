/- isNew of package chain. -/
import Derived.Test.YthadagpfmacemaaCTrim
import Derived.WalkLawsBesides
namespace Go.Proofs.Ythadagpfmacemaa
open Go.RowKit
variable {w w' : World} {l : List Pt} {A : Nat → Sl} {ad : Option Addr} {m c : Nat}

theorem isNew1_any (f x id : Int) (v : Value) (hv : ∃ a b c, v = .slice a b c) (g : Nat) (w : World) (hg : w.cell? ⟨g, 0, none⟩ = some (.int .i64 id)) (hl : g < w.heap.size) : Calls Try.prog 66 #[.agg #[.int .i64 f, .int .i64 x, v], .pointer (some ⟨g, 0, none⟩)] w fun e w' => e = .returned (.bool (x == id)) ∧ Below w.heap.size w w' := by
  obtain ⟨a, b, c, rfl⟩ := hv
  have b0 : Below w.heap.size w (w.alloc (.cells #[.int .i64 f, .int .i64 x, .slice a b c] 61)) := (Below.refl _ _).alloc (Nat.le_refl _) _
  have hc := (b0.cell (p := ⟨g, 0, none⟩) hl).trans hg
  clear hg
  go_enter Try.func66, Try.ntmps66
  go_wp2_with fail
  go_ret
  exact ⟨rfl, b0⟩
theorem newId_take {id : Int} {l : List Pt} {j : Nat} (h : newId id (l.take j)) (hj : j < l.length) (hn : (ptAt l j).id ≠ id) : newId id (l.take (j + 1)) := by
  rw [take_snocP l j hj]
  intro q hq
  rcases List.mem_append.1 hq with hq | hq
  · exact h q hq
  · rw [List.mem_singleton.1 hq]; exact hn
theorem newId_not {id : Int} {l : List Pt} {j : Nat} (hj : j < l.length) (hn : (ptAt l j).id = id) : ¬ newId id l := fun h => h _ (ptAt_mem l j hj) hn
set_option maxHeartbeats 1000000 in
theorem indexFunc_any (h : CArg w l A ad m c) (id : Int) (g : Nat) (hg : w.cell? ⟨g, 0, none⟩ = some (.int .i64 id)) (hgl : g < w.heap.size) : Calls Try.prog 71 #[.slice ad m c, .func (.func 66) #[] #[.pointer (some ⟨g, 0, none⟩)]] w fun e w' => (∃ q : Int, e = .returned (.int .i64 q) ∧ -1 ≤ q ∧ q ≤ 9223372036854775807 ∧ (0 ≤ q ↔ ¬ newId id l)) ∧ Below w.heap.size w w' := by
  have H : Hid (CArg w l A ad m c) := h
  have hm : m ≤ 9223372036854775807 := by have := h.cap; have := h.room; unfold maxLen at this; omega
  have HG : Hid (∀ W, Below w.heap.size w W → W.cell? ⟨g, 0, none⟩ = some (.int .i64 id) ∧ g < W.heap.size) := fun W hW => ⟨(hW.cell (p := ⟨g, 0, none⟩) hgl).trans hg, Nat.lt_of_lt_of_le hgl hW.size⟩
  clear h hg hgl
  go_enter Try.func71, Try.ntmps71
  go_wp2_with fail
  go_loopw [8] (fun i wr => ∃ j : Nat, j ≤ m ∧ i = .int .i64 j ∧ Hid (newId id (l.take j)) ∧ Hid (Below w.heap.size w wr)) (fun i _ => m - (intOf i).toNat)
  case atStart => exact ⟨0, by omega, rfl, (show Hid (newId id (l.take 0)) from fun q hq => by simp at hq), (show Hid _ from Below.refl _ _)⟩
  case round =>
    obtain ⟨j, hj, rfl, HT, HB⟩ := hrel
    by_cases hlt : j < m
    · have H2 := H.out.later (HB.out)
      obtain ⟨b, off, rfl, hs, hc⟩ := H2.cells (by omega)
      obtain ⟨r0, r1, r2⟩ := hc j hlt
      have HL : Hid (j < l.length) := (show Hid _ from by rw [H.out.len]; exact hlt)
      obtain ⟨g1, g2⟩ := HG.out wr HB.out
      have HC := isNew1_any (ptAt l j).first (ptAt l j).id id (.slice (A j).ad (A j).m (A j).c) ⟨_, _, _, rfl⟩ g wr g1 g2
      have HN : Hid ((ptAt l j).id ≠ id → newId id (l.take (j + 1))) := fun hn => newId_take HT.out HL.out hn
      have HO : Hid ((ptAt l j).id = id → ¬ newId id l) := fun hn => newId_not HL.out hn
      clear hc hs H2 g1 g2
      generalize (ptAt l j).id = y at *
      generalize (ptAt l j).first = z at *
      by_cases hxy : y = id
      · have e1 : (y == id) = true := by simpa using hxy
        rw [e1] at HC
        have HO2 : Hid (¬ newId id l) := HO.out hxy
        clear hxy e1 HN HO
        go_wp2_with (go_at_call 66; refine HC.mono ?_; rintro e w1 ⟨rfl, hb⟩)
        go_ret
        exact ⟨⟨_, rfl, by omega, by omega, ⟨fun _ => HO2.out, fun _ => by omega⟩⟩, HB.out.trans (hb.mono HB.out.size)⟩
      · have e1 : (y == id) = false := by simpa using hxy
        rw [e1] at HC
        have HN2 : Hid (newId id (l.take (j + 1))) := HN.out hxy
        clear hxy e1 HN HO
        go_wp2_with (go_at_call 66; refine HC.mono ?_; rintro e w1 ⟨rfl, hb⟩; have HB2 : Hid (Below w.heap.size w w1) := (show Hid _ from HB.out.trans (hb.mono HB.out.size)); clear hb)
        refine ⟨⟨j + 1, by omega, by go_num, HN2, HB2⟩, by simp [intOf]; omega⟩
    · obtain rfl : j = m := by omega
      go_wp2_with fail
      go_ret
      refine ⟨⟨_, rfl, by omega, by omega, ?_⟩, HB.out⟩
      have h2 := HT.out
      rw [List.take_of_length_le (by rw [H.out.len]; exact Nat.le_refl _)] at h2
      exact ⟨fun a => by omega, fun a => absurd h2 a⟩
theorem containsFunc_any (h : CArg w l A ad m c) (id : Int) (g : Nat) (hg : w.cell? ⟨g, 0, none⟩ = some (.int .i64 id)) (hgl : g < w.heap.size) : Calls Try.prog 65 #[.slice ad m c, .func (.func 66) #[] #[.pointer (some ⟨g, 0, none⟩)]] w fun e w' => e = .returned (.bool (!decide (newId id l))) ∧ Below w.heap.size w w' := by
  have HC := indexFunc_any h id g hg hgl
  clear h hg hgl
  go_enter Try.func65, Try.ntmps65
  go_wp2_with (go_at_call 71; refine HC.mono ?_; rintro e w1 ⟨⟨q, rfl, q1, q2, q3⟩, hb⟩)
  go_ret
  have e1 : decide (0 ≤ q) = !decide (newId id l) := by by_cases hx : newId id l <;> simp [hx, q3]
  rw [← e1]
  exact ⟨by first | rfl | simp, hb⟩
theorem isNew_any (h : CArg w l A ad m c) (id : Int) : Calls Try.prog 53 #[.int .i64 id, .slice ad m c] w fun e w' => e = .returned (.bool (decide (newId id l))) ∧ Below w.heap.size w w' := by
  have b0 : Below w.heap.size w (w.alloc (.cells #[.int .i64 id] 3)) := (Below.refl _ _).alloc (Nat.le_refl _) _
  have HC := containsFunc_any (h.later b0) id w.heap.size (by simp [go_sem]) (by simp)
  have hmf : ∀ (fn : Fn) (first cap : Array Value) (w : World), (Instr.makeFunc fn first cap).run Try.prog w = .ok (.func fn first cap) w := fun _ _ _ _ => rfl
  clear h
  go_enter Try.func53, Try.ntmps53
  go_wp2_with (go_at_call 65; refine HC.mono ?_; rintro e w1 ⟨rfl, hb⟩)
  go_ret
  exact ⟨by simp, b0.trans (hb.mono b0.size)⟩
end Go.Proofs.Ythadagpfmacemaa
