/- slices.Backward of steps: the iterator; what isTimely's two functions tell. -/
import Derived.Test.YtpjemifoilbjeaaHOrd
import Derived.Test.YtpjemifoilbjeaaRangeA
import Derived.Shelf.Abstract
import Derived.Shelf.RegionOpen
import Derived.Stop.RegionWithIn
import Derived.OwnWalkIn
import Derived.TacticsInMore
import Derived.LoopNIn
import Derived.LoopIn
namespace Go.Proofs.Ytpjemifoilbjeaa
open Go.RowKit Hy
variable {w w' : World} {l : List Stp} {ad : Option Addr} {m c : Nat}

theorem begin_any (x : Stp) (w : World) : Calls Try.prog 36 #[.agg #[.int .i64 x.1, .int .i64 x.2.1, .int .i64 x.2.2]] w fun e w' => e = .returned (.int .i64 x.2.1) ∧ w' = w.alloc (.cells #[.int .i64 x.1, .int .i64 x.2.1, .int .i64 x.2.2] 75) := by
  obtain ⟨a, b, d⟩ := x
  dsimp only
  go_enter Try.func36, Try.ntmps36
  go_wp2_with fail
  go_ret
  exact ⟨rfl, rfl⟩
theorem end_any (x : Stp) (w : World) : Calls Try.prog 37 #[.agg #[.int .i64 x.1, .int .i64 x.2.1, .int .i64 x.2.2]] w fun e w' => e = .returned (.int .i64 x.2.2) ∧ w' = w.alloc (.cells #[.int .i64 x.1, .int .i64 x.2.1, .int .i64 x.2.2] 75) := by
  obtain ⟨a, b, d⟩ := x
  dsimp only
  go_enter Try.func37, Try.ntmps37
  go_wp2_with fail
  go_ret
  exact ⟨rfl, rfl⟩
def st0 : Stp := (0, 0, 0)
/-- Round k is handed step m - 1 - k. -/
def BackR (l : List Stp) (m : Nat) (k : Nat) (args : Array Value) (_ : World) : Prop := k < m ∧ args = #[.int .i64 ((m - 1 - k : Nat) : Int), .agg #[.int .i64 (l.getD (m - 1 - k) st0).1, .int .i64 (l.getD (m - 1 - k) st0).2.1, .int .i64 (l.getD (m - 1 - k) st0).2.2]]
set_option maxRecDepth 100000 in
set_option maxHeartbeats 400000 in
theorem back_seq (h : ArgK kSt w l ad m c) (gb : Nat) (Gs : List Nat) (K : Nat → World → Prop) (hgb : w.cell? ⟨gb, 0, none⟩ = some (.slice ad m c)) (hg : gb ∈ Gs) (hrow : ∀ b off, ad = some ⟨b, off, none⟩ → m ≠ 0 → b ∈ Gs) (hlt : ∀ g ∈ Gs, g < w.heap.size) :
    SeqR Try.prog 49 #[.pointer (some ⟨gb, 0, none⟩)] (Kg Gs) K (BackR l m) m w := by
  intro q J Jx W hW hJ _ _ hY h0
  have hm : m ≤ 9223372036854775807 := by have := h.cap; have := h.room; unfold maxLen at this; omega
  have hk0 : Kg Gs w W := Kg.below hW hlt
  have HK0 : Hid (Kg Gs w W) := hk0
  have H : Hid (ArgK kSt w l ad m c) := h
  have HR : Hid (∀ b off, ad = some ⟨b, off, none⟩ → m ≠ 0 → b ∈ Gs) := hrow
  have HY : Hid (∀ k args X, k < m → J k X → BackR l m k args X → YieldAt Fence.wide 1 Try.prog q args X fun e Y => (e = .returned (.bool true) ∧ J (k + 1) Y ∧ Kg Gs X Y) ∨ (e = .returned (.bool false) ∧ Jx (k + 1) Y)) := hY
  have HC : Hid (w.cell? ⟨gb, 0, none⟩ = some (.slice ad m c)) := hgb
  have ct0 : W.cell? ⟨gb, 0, none⟩ = some (.slice ad m c) := (hk0.cell hg (i := 0)).trans hgb
  clear hW hJ hY h hrow hlt hk0 hgb
  refine callsIn_of_wp Try.func49 rfl trivial ?_ rfl
  simp only [Try.ntmps49, List.size_toArray, List.length_cons, List.length_nil, Nat.reduceAdd, Nat.reduceSub, Array.replicate_succ, Array.replicate_zero, List.push_toArray, List.append_toArray, List.nil_append, List.cons_append]
  gi_wp2
  gi_loopw [3] (fun i wr => ∃ k : Nat, k ≤ m ∧ i = .int .i64 ((m : Int) - 1 - (k : Int)) ∧ Hid (J k wr) ∧ Hid (Kg Gs w wr)) (fun i _ => (intOf i + 1).toNat)
  case atStart => exact ⟨0, Nat.zero_le _, by go_num, h0, HK0⟩
  case round =>
    obtain ⟨k, hk, rfl, HJk, HKk⟩ := hrel
    by_cases hkl : k < m
    · have c1 : wr.cell? ⟨gb, 0, none⟩ = some (.slice ad m c) := (HKk.out.cell hg (i := 0)).trans HC.out
      have hz : decide ((0 : Int) ≤ (m : Int) - 1 - (k : Int)) = true := by simp; omega
      obtain ⟨b, off, rfl, hs, hc⟩ := H.out.cells (by omega)
      have hbg := HR.out b off rfl (by omega)
      have r0 := (HKk.out.cell hbg (i := off + (m - 1 - k) * 3)).trans (hc (m - 1 - k) (by omega) 0 (by decide))
      have r1 := (HKk.out.cell hbg (i := off + (m - 1 - k) * 3 + 1)).trans (hc (m - 1 - k) (by omega) 1 (by decide))
      have r2 := (HKk.out.cell hbg (i := off + (m - 1 - k) * 3 + 2)).trans (hc (m - 1 - k) (by omega) 2 (by decide))
      have hix : ((m : Int) - 1 - (k : Int)).toNat = m - 1 - k := by omega
      have hil : m - 1 - k < m := by omega
      have hie : (m : Int) - 1 - (k : Int) = ((m - 1 - k : Nat) : Int) := by omega
      obtain ⟨fn, tmps, assign, body, hy, hR⟩ := YieldAt.mono (R' := fun e Y => ∃ b : Bool, e = .returned (.bool b) ∧ Hid ((b = true → J (k + 1) Y ∧ Kg Gs wr Y) ∧ (b = false → Jx (k + 1) Y))) (HY.out k _ wr hkl HJk.out ⟨hkl, rfl⟩) (by
        rintro e Y (⟨rfl, h1⟩ | ⟨rfl, h1⟩)
        · exact ⟨true, rfl, fun _ => h1, fun h => (by cases h)⟩
        · exact ⟨false, rfl, fun h => (by cases h), fun _ => h1⟩)
      have HRd := hid hR
      clear hR hc hs hbg ct0 HY
      rw [hie] at hz hix ⊢
      clear hix hie
      generalize hi : m - 1 - k = i at *
      have HI := hid hi
      have hz2 : decide ((0 : Int) ≤ (i : Int)) = true := hz
      have q0 : wr.cell? ⟨b, off + i * 3, none⟩ = some (.int .i64 (l.getD i st0).1) := r0
      have q1 : wr.cell? ⟨b, off + i * 3 + 1, none⟩ = some (.int .i64 (l.getD i st0).2.1) := r1
      have q2 : wr.cell? ⟨b, off + i * 3 + 2, none⟩ = some (.int .i64 (l.getD i st0).2.2) := r2
      clear r0 r1 r2
      generalize (l.getD i st0).1 = e0 at *
      generalize (l.getD i st0).2.1 = e1 at *
      generalize (l.getD i st0).2.2 = e2 at *
      clear hi hz
      gi_wp2_with (refine HRd.out.mono ?_; rintro e W3 ⟨b, rfl, hb⟩; have HBb := hid hb; clear hb; rcases b with _ | _)
      · have HX := hid (HBb.out.out.2 (by first | rfl | trivial))
        refine bodyPost_ret (results_none rfl _ _ _) rfl ?_
        exact ⟨⟨_, rfl⟩, .inr ⟨k + 1, by omega, HX.out⟩⟩
      · have HJn := hid (HBb.out.out.1 (by first | rfl | trivial)).1
        have HKn := hid (HKk.out.trans (HBb.out.out.1 (by first | rfl | trivial)).2)
        have hI := HI.out
        exact ⟨⟨k + 1, by omega, by congr 1; omega, HJn, HKn⟩, by simp [intOf]⟩
    · obtain rfl : k = m := by omega
      have hz : decide ((0 : Int) ≤ (k : Int) - 1 - (k : Int)) = false := by simp; omega
      gi_wp2
      go_end0
      exact ⟨⟨_, rfl⟩, .inl HJk.out⟩
theorem enters_back : ∀ args w, (callFunc 49 args).run Try.prog w = .ok (.enter 49 args) w := fun _ _ => by kernel_rfl
theorem back_any (ad : Option Addr) (m c : Nat) (w : World) : Calls Try.prog 44 #[.slice ad m c] w fun e w' => e = .returned (.func (.func 49) #[] #[.pointer (some ⟨w.heap.size, 0, none⟩)]) ∧ w' = w.alloc (.cells #[.slice ad m c] 55) := by
  have hmf : ∀ (fn : Fn) (first cap : Array Value) (w : World), (Instr.makeFunc fn first cap).run Try.prog w = .ok (.func fn first cap) w := fun _ _ _ _ => rfl
  go_enter Try.func44, Try.ntmps44
  go_wp2_with fail
  go_ret
  exact ⟨rfl, rfl⟩
end Go.Proofs.Ytpjemifoilbjeaa
