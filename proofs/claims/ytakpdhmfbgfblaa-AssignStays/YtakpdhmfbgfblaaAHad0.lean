/- Shares that came in, listed by names; slices.Backward over them. -/
import Derived.Test.YtakpdhmfbgfblaaARange0
import Derived.Test.YtakpdhmfbgfblaaMapF
import Derived.Test.YtakpdhmfbgfblaaRangeA
import Derived.Shelf.Abstract
namespace Go.Proofs.Ytakpdhmfbgfblaa
open Go.RowKit Go.Shelf
attribute [local go_sem] Oper.semAt_some
variable {w w' : World} {a : Option Addr} {m c : Nat} {A : List ShA}

/-- Round k is handed share m - 1 - k. -/
def BackR (A : List ShA) (m : Nat) (k : Nat) (args : Array Value) (_ : World) : Prop := k < m ∧ args = #[.int .i64 ((m - 1 - k : Nat) : Int), .agg #[.string (nmS (A.getD (m - 1 - k) sh0).1), .slice (A.getD (m - 1 - k) sh0).2.ad (A.getD (m - 1 - k) sh0).2.m (A.getD (m - 1 - k) sh0).2.c]]
set_option maxRecDepth 100000 in
set_option maxHeartbeats 400000 in
theorem back_seq (h : ArgK kSh w A a m c) (gb : Nat) (Gs : List Nat) (K : Nat → World → Prop) (hgb : w.cell? ⟨gb, 0, none⟩ = some (.slice a m c)) (hg : gb ∈ Gs) (hrow : ∀ b off, a = some ⟨b, off, none⟩ → m ≠ 0 → b ∈ Gs) (hlt : ∀ g ∈ Gs, g < w.heap.size) :
    SeqR Try.prog 42 #[.pointer (some ⟨gb, 0, none⟩)] (Kg Gs) K (BackR A m) m w := by
  intro q J Jx W hW hJ _ _ hY h0
  have hk0 : Kg Gs w W := Kg.below hW hlt
  have HK0 : Hid (Kg Gs w W) := hk0
  have H := hid h
  have HR : Hid (∀ b off, a = some ⟨b, off, none⟩ → m ≠ 0 → b ∈ Gs) := hrow
  have HY : Hid (∀ k args X, k < m → J k X → BackR A m k args X → YieldAt Fence.wide 1 Try.prog q args X fun e Y => (e = .returned (.bool true) ∧ J (k + 1) Y ∧ Kg Gs X Y) ∨ (e = .returned (.bool false) ∧ Jx (k + 1) Y)) := hY
  have HC : Hid (w.cell? ⟨gb, 0, none⟩ = some (.slice a m c)) := hgb
  have ct0 : W.cell? ⟨gb, 0, none⟩ = some (.slice a m c) := (hk0.cell hg (i := 0)).trans hgb
  have hmx : m ≤ 9223372036854775807 := by have := h.cap; have := h.room; unfold maxLen at this; omega
  clear hW hJ hY h hrow hlt hk0 hgb
  refine callsIn_of_wp Try.func42 rfl trivial ?_ rfl
  simp only [Try.ntmps42, List.size_toArray, List.length_cons, List.length_nil, Nat.reduceAdd, Nat.reduceSub, Array.replicate_succ, Array.replicate_zero, List.push_toArray, List.append_toArray, List.nil_append, List.cons_append]
  gi_wp2
  gi_loopw [3] (fun i wr => ∃ k : Nat, k ≤ m ∧ i = .int .i64 ((m : Int) - 1 - (k : Int)) ∧ Hid (J k wr) ∧ Hid (Kg Gs w wr)) (fun i _ => (intOf i + 1).toNat)
  case atStart => exact ⟨0, Nat.zero_le _, by go_num, h0, HK0⟩
  case round =>
    obtain ⟨k, hk, rfl, HJk, HKk⟩ := hrel
    by_cases hkl : k < m
    · have c1 : wr.cell? ⟨gb, 0, none⟩ = some (.slice a m c) := (HKk.out.cell hg (i := 0)).trans HC.out
      have hz : decide ((0 : Int) ≤ (m : Int) - 1 - (k : Int)) = true := by simp; omega
      obtain ⟨b, off, rfl, hs, hc⟩ := H.out.cells (by omega)
      have hbg := HR.out b off rfl (by omega)
      have r0 : wr.cell? ⟨b, off + (m - 1 - k) * 2, none⟩ = some (.string (nmS (A.getD (m - 1 - k) sh0).1)) := (HKk.out.cell hbg (i := off + (m - 1 - k) * 2)).trans (by have := hc (m - 1 - k) (by omega) 0 (by decide); rw [Nat.add_zero] at this; exact this)
      have r1 : wr.cell? ⟨b, off + (m - 1 - k) * 2 + 1, none⟩ = some (.slice (A.getD (m - 1 - k) sh0).2.ad (A.getD (m - 1 - k) sh0).2.m (A.getD (m - 1 - k) sh0).2.c) := (HKk.out.cell hbg (i := off + (m - 1 - k) * 2 + 1)).trans (hc (m - 1 - k) (by omega) 1 (by decide))
      have hix : ((m : Int) - 1 - (k : Int)).toNat = m - 1 - k := by omega
      have hil : m - 1 - k < m := by omega
      have hie : (m : Int) - 1 - (k : Int) = ((m - 1 - k : Nat) : Int) := by omega
      obtain ⟨fn, tmps, assign, body, hy, hR⟩ := YieldAt.mono (R' := fun e Y => ∃ b : Bool, e = .returned (.bool b) ∧ Hid ((b = true → J (k + 1) Y ∧ Kg Gs wr Y) ∧ (b = false → Jx (k + 1) Y))) (HY.out k _ wr hkl HJk.out ⟨hkl, rfl⟩) (by
        rintro e Y (⟨rfl, h1⟩ | ⟨rfl, h1⟩)
        · exact ⟨true, rfl, fun _ => h1, fun h => (by cases h)⟩
        · exact ⟨false, rfl, fun h => (by cases h), fun _ => h1⟩)
      have HRd := hid hR
      clear hR hc hs hbg ct0 HY
      rw [hie] at hz hix ⊢
      clear hix hie
      generalize hi : m - 1 - k = i at *
      have HI := hid hi
      have hz2 : decide ((0 : Int) ≤ (i : Int)) = true := hz
      generalize A.getD i sh0 = x at *
      obtain ⟨nm, xa, xm, xc⟩ := x
      dsimp only at *
      generalize nmS nm = e0 at *
      clear hi hz
      gi_wp2_with (refine HRd.out.mono ?_; rintro e W3 ⟨b, rfl, hb⟩; have HBb := hid hb; clear hb; rcases b with _ | _)
      · have HX := hid (HBb.out.out.2 (by first | rfl | trivial))
        refine bodyPost_ret (results_none rfl _ _ _) rfl ?_
        exact ⟨⟨_, rfl⟩, .inr ⟨k + 1, by omega, HX.out⟩⟩
      · have HJn := hid (HBb.out.out.1 (by first | rfl | trivial)).1
        have HKn := hid (HKk.out.trans (HBb.out.out.1 (by first | rfl | trivial)).2)
        have hI := HI.out
        exact ⟨⟨k + 1, by omega, by congr 1; omega, HJn, HKn⟩, by simp [intOf]⟩
    · obtain rfl : k = m := by omega
      have hz : decide ((0 : Int) ≤ (k : Int) - 1 - (k : Int)) = false := by simp; omega
      gi_wp2
      go_end0
      exact ⟨⟨_, rfl⟩, .inl HJk.out⟩
theorem enters_back : ∀ args w, (callFunc 42 args).run Try.prog w = .ok (.enter 42 args) w := fun _ _ => by kernel_rfl
theorem back_any (ad : Option Addr) (m c : Nat) (w : World) : Calls Try.prog 34 #[.slice ad m c] w fun e w' => e = .returned (.func (.func 42) #[] #[.pointer (some ⟨w.heap.size, 0, none⟩)]) ∧ w' = w.alloc (.cells #[.slice ad m c] 24) := by
  have hmf : ∀ (fn : Fn) (first cap : Array Value) (w : World), (Instr.makeFunc fn first cap).run Try.prog w = .ok (.func fn first cap) w := fun _ _ _ _ => rfl
  go_enter Try.func34, Try.ntmps34
  go_wp2_with fail
  go_ret
  exact ⟨rfl, rfl⟩
end Go.Proofs.Ytakpdhmfbgfblaa
