/- attempt of package group, of truth values: what gives up is answered as an error. -/
import Derived.Test.YtipgociofjokeaaGreatPGEv
import Derived.Defers
import Derived.Recover
namespace Go.Proofs.YtipgociofjokeaaGreat
open Go.RowKit

theorem Blk.keep {w w' : World} {B N : Nat} {cs : Array Value} {T : TypeId} (h : Blk w B cs T) (hb : Below N w w') (hn : B < N) : Blk w' B cs T := (hb.block B hn).trans h
set_option maxRecDepth 100000 in
theorem catchB (g : Nat) (y0 y : Int) (w : World) (hb : Blk w g #[.int .i64 y0] 24) :
    CallsD Tryz.prog 35 #[.pointer (some ⟨g, 0, none⟩)] (.panicking (refusal y)) w fun e u' w' =>
      e = .returned (.tuple #[]) ∧ u' = .panicking [{ v := .iface 69 (.agg #[.int .i64 y]), recovered := true }] ∧ w' = (w.setCell ⟨g, 0, none⟩ (.int .i64 y)).alloc (.cells #[.int .i64 y] 69) := by
  have hc : w.cell? ⟨g, 0, none⟩ = some (.int .i64 y0) := hb.cell 0
  have hgl := hb.lt
  have hz := hb.free 0
  refine callsD_of_wpS Tryz.func35 rfl fun c₀ cs hu => ?_
  apply wpS_seq
  apply wpS_region
  simp [wpOpsS, go_sem, recoverD, hu, Tryz.ntmps35, Exit.thenS]
  simp only [Array.replicate_succ, Array.replicate_zero, List.push_toArray, List.append_toArray, List.nil_append, List.cons_append, List.setIfInBounds_toArray, List.set_cons_zero, List.set_cons_succ]
  refine wpS_of_wp ?_
  have hta : ∀ w : World, (Instr.typeAssert (.iface 69 (.agg #[.int .i64 y])) 20 69 true).run Tryz.prog w = .ok (.tuple #[.agg #[.int .i64 y], .bool true]) w := fun w => by kernel_rfl
  generalize hc1 : ({ c₀ with mode := FrameMode.panicking [{ v := .iface 69 (.agg #[.int .i64 y]), recovered := true }] } : Frame) = c1
  clear hu
  go_wp2
  exact ⟨rfl, _, by rw [← hc1], .tuple #[], by simp [results, Tryz.results35, go_sem], rfl, rfl, rfl⟩
set_option maxRecDepth 100000 in
theorem idleB (g : Nat) (w : World) :
    CallsD Tryz.prog 35 #[.pointer (some ⟨g, 0, none⟩)] .returning w fun e u' w' => e = .returned (.tuple #[]) ∧ u' = .returning ∧ w' = w := by
  refine callsD_of_wpS Tryz.func35 rfl fun c₀ cs hu => ?_
  apply wpS_seq
  apply wpS_region
  simp [wpOpsS, go_sem, recoverD, hu, Tryz.ntmps35, Exit.thenS]
  simp only [Array.replicate_succ, Array.replicate_zero, List.push_toArray, List.append_toArray, List.nil_append, List.cons_append, List.setIfInBounds_toArray, List.set_cons_zero, List.set_cons_succ]
  refine wpS_of_wp ?_
  have hc1 : c₀ = { c₀ with mode := FrameMode.returning } := by cases c₀; simp_all
  clear hu
  go_wp2
  exact ⟨rfl, _, by rw [← hc1], .tuple #[], by simp [results, Tryz.results35, go_sem], rfl, rfl, rfl⟩
/-- attempt: what work answers, or why it gave up. -/
theorem attemptB (f : Nat) (caps : Array Value) (w : World) (hf : ∀ args W, (callFunc f args).run Tryz.prog W = .ok (.enter f args) W) (R : Bool → World → Prop) (B : Int → Prop)
    (HC : Calls Tryz.prog f caps (w.alloc (.cells #[.int .i64 0] 24)) fun e W => ((∃ d : Bool, e = .returned (.bool d) ∧ R d W) ∨ (∃ y : Int, e = .panicked (refusal y) ∧ B y)) ∧ Below (w.heap.size + 1) (w.alloc (.cells #[.int .i64 0] 24)) W) :
    Calls Tryz.prog 20 #[.func (.func f) #[] caps] w fun e w' => ((∃ W, Chg [w.heap.size] W w' ∧ w.heap.size + 1 ≤ W.heap.size ∧ ∃ d : Bool, e = .returned (.tuple #[.bool d, .int .i64 0]) ∧ R d W) ∨ (∃ y : Int, e = .returned (.tuple #[.bool false, .int .i64 y]) ∧ B y)) ∧ Below w.heap.size w w' := by
  have hmf : ∀ (fn : Fn) (first cap : Array Value) (w : World), (Instr.makeFunc fn first cap).run Tryz.prog w = .ok (.func fn first cap) w := fun _ _ _ _ => rfl
  have HBX : Hid (∀ W, Below (w.heap.size + 1) (w.alloc (.cells #[.int .i64 0] 24)) W → Blk W (w.heap.size) #[.int .i64 0] 24 ∧ Below w.heap.size w W ∧ w.heap.size + 1 ≤ W.heap.size) := fun W hW => ⟨(show Blk _ w.heap.size _ _ from heap_alloc_new w (.cells #[.int .i64 0] 24)).keep hW (by omega), ((Below.refl _ w).alloc (Nat.le_refl _) _).trans (hW.mono (by omega)), by have := hW.size; simpa using this⟩
  have HC2 := HC.mono (fun e W hh => (show (((∃ d : Bool, e = .returned (.bool d) ∧ Hid (R d W)) ∨ (∃ y : Int, e = .panicked (refusal y) ∧ Hid (B y))) ∧ (W.cell? ⟨w.heap.size, 0, none⟩ = some (.int .i64 0) ∧ W.frozen? ⟨w.heap.size, 0, none⟩ = false) ∧ Hid (Blk W (w.heap.size) #[.int .i64 0] 24 ∧ Below w.heap.size w W ∧ w.heap.size + 1 ≤ W.heap.size)) from by
    have hk := HBX.out W hh.2
    exact ⟨hh.1, ⟨hk.1.cell 0, hk.1.free 0⟩, hk⟩))
  clear HC HBX
  go_enter_defers Tryz.func20, Tryz.ntmps20
  go_wp2_with (refine HC2.mono ?_; rintro e W ⟨⟨d, rfl, HG⟩ | ⟨y, rfl, HBy⟩, ⟨q0, qf⟩, HK⟩)
  · have hsz := HK.out.2.2
    refine leaves_cons (f := 35) (args := #[.pointer (some ⟨w.heap.size, 0, none⟩)]) (by simp) (by simp [go_sem]) ?_
    refine (idleB _ _).mono ?_
    rintro e u' w'' ⟨rfl, rfl, rfl⟩
    obtain ⟨k1, hbl, hsz⟩ := HK.out
    have m1 := k1.set 0 (.int .i64 0)
    have s3 := m1.cell 0
    simp only [List.setIfInBounds_toArray, List.set_cons_zero, List.getElem?_toArray, List.getElem?_cons_zero] at s3
    refine ⟨.tuple #[.bool d, .int .i64 0], by simp [results, Tryz.results20, go_sem, s3], Or.inl ⟨W, ?_, hsz, d, rfl, HG.out⟩, ?_⟩
    · exact (Chg.refl _ W).set (Or.inl (by simp)) _ _
    · exact hbl.setCell (p := ⟨w.heap.size, 0, none⟩) (Nat.le_refl _) _
  · obtain ⟨k1, hbl, hsz⟩ := HK.out
    refine leaves_cons (f := 35) (args := #[.pointer (some ⟨w.heap.size, 0, none⟩)]) (by simp) (by simp [go_sem]) ?_
    refine (catchB (w.heap.size) 0 y W k1).mono ?_
    rintro e u' w'' ⟨rfl, rfl, rfl⟩
    have m1 := (k1.set 0 (.int .i64 y)).later ((Below.refl _ _).alloc (Nat.le_refl _) (.cells #[.int .i64 y] 69))
    have s3 := m1.cell 0
    simp only [List.setIfInBounds_toArray, List.set_cons_zero, List.getElem?_toArray, List.getElem?_cons_zero] at s3
    refine ⟨.tuple #[.bool false, .int .i64 y], by simp [results, Tryz.results20, go_sem, s3], Or.inr ⟨y, rfl, HBy.out⟩, ?_⟩
    exact (hbl.setCell (p := ⟨w.heap.size, 0, none⟩) (Nat.le_refl _) _).alloc (by simp [World.setCell]; omega) _
end Go.Proofs.YtipgociofjokeaaGreat
