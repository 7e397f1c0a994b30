/- attempt of package chain: what gives up is answered as an error (by genatt.py). -/
import Derived.Test.YthadagpfmacemaaCTrim
import Derived.Defers
import Derived.Recover
namespace Go.Proofs.Ythadagpfmacemaa
open Go.RowKit

theorem Blk.keep {w w' : World} {B N : Nat} {cs : Array Value} {T : TypeId} (h : Blk w B cs T) (hb : Below N w w') (hn : B < N) : Blk w' B cs T := (hb.block B hn).trans h
set_option maxRecDepth 100000 in
theorem catchChain (g : Nat) (y0 y : Int) (w : World) (hb : Blk w g #[.int .i64 y0] 31) :
    CallsD Try.prog 58 #[.pointer (some ⟨g, 0, none⟩)] (.panicking (refusal y)) w fun e u' w' =>
      e = .returned (.tuple #[]) ∧ u' = .panicking [{ v := .iface 90 (.agg #[.int .i64 y]), recovered := true }] ∧ w' = (w.setCell ⟨g, 0, none⟩ (.int .i64 y)).alloc (.cells #[.int .i64 y] 90) := by
  have hc : w.cell? ⟨g, 0, none⟩ = some (.int .i64 y0) := hb.cell 0
  have hgl := hb.lt
  have hz := hb.free 0
  refine callsD_of_wpS Try.func58 rfl fun c₀ cs hu => ?_
  apply wpS_seq
  apply wpS_region
  simp [wpOpsS, go_sem, recoverD, hu, Try.ntmps58, Exit.thenS]
  simp only [Array.replicate_succ, Array.replicate_zero, List.push_toArray, List.append_toArray, List.nil_append, List.cons_append, List.setIfInBounds_toArray, List.set_cons_zero, List.set_cons_succ]
  refine wpS_of_wp ?_
  have hta : ∀ w : World, (Instr.typeAssert (.iface 90 (.agg #[.int .i64 y])) 20 90 true).run Try.prog w = .ok (.tuple #[.agg #[.int .i64 y], .bool true]) w := fun w => by kernel_rfl
  generalize hc1 : ({ c₀ with mode := FrameMode.panicking [{ v := .iface 90 (.agg #[.int .i64 y]), recovered := true }] } : Frame) = c1
  clear hu
  go_wp2
  exact ⟨rfl, _, by rw [← hc1], .tuple #[], by simp [results, Try.results58, go_sem], rfl, rfl, rfl⟩
set_option maxRecDepth 100000 in
theorem idleChain (g : Nat) (w : World) :
    CallsD Try.prog 58 #[.pointer (some ⟨g, 0, none⟩)] .returning w fun e u' w' => e = .returned (.tuple #[]) ∧ u' = .returning ∧ w' = w := by
  refine callsD_of_wpS Try.func58 rfl fun c₀ cs hu => ?_
  apply wpS_seq
  apply wpS_region
  simp [wpOpsS, go_sem, recoverD, hu, Try.ntmps58, Exit.thenS]
  simp only [Array.replicate_succ, Array.replicate_zero, List.push_toArray, List.append_toArray, List.nil_append, List.cons_append, List.setIfInBounds_toArray, List.set_cons_zero, List.set_cons_succ]
  refine wpS_of_wp ?_
  have hc1 : c₀ = { c₀ with mode := FrameMode.returning } := by cases c₀; simp_all
  clear hu
  go_wp2
  exact ⟨rfl, _, by rw [← hc1], .tuple #[], by simp [results, Try.results58, go_sem], rfl, rfl, rfl⟩
/-- attempt: what work answers, or why it gave up. -/
theorem attemptChain (f : Nat) (caps : Array Value) (w : World) (hf : ∀ args W, (callFunc f args).run Try.prog W = .ok (.enter f args) W) (G : Int → Int → Option Addr → Nat → Nat → World → Prop) (B : Int → Prop)
    (HC : Calls Try.prog f caps ((w.alloc (.cells #[.int .i64 0, .int .i64 0, .slice none 0 0] 28)).alloc (.cells #[.int .i64 0] 31)) fun e W => ((∃ (o t : Int) (ad : Option Addr) (m c : Nat), e = .returned (.agg #[.int .i64 o, .int .i64 t, .slice ad m c]) ∧ G o t ad m c W) ∨ (∃ y : Int, e = .panicked (refusal y) ∧ B y)) ∧ Below (w.heap.size + 2) ((w.alloc (.cells #[.int .i64 0, .int .i64 0, .slice none 0 0] 28)).alloc (.cells #[.int .i64 0] 31)) W) :
    Calls Try.prog 34 #[.func (.func f) #[] caps] w fun e w' => ((∃ W, Chg [w.heap.size, w.heap.size + 1] W w' ∧ w.heap.size + 2 ≤ W.heap.size ∧ ∃ (o t : Int) (ad : Option Addr) (m c : Nat), e = .returned (.tuple #[.agg #[.int .i64 o, .int .i64 t, .slice ad m c], .int .i64 0]) ∧ G o t ad m c W) ∨ (∃ y : Int, e = .returned (.tuple #[.agg #[.int .i64 0, .int .i64 0, .slice none 0 0], .int .i64 y]) ∧ B y)) ∧ Below w.heap.size w w' := by
  have hmf : ∀ (fn : Fn) (first cap : Array Value) (w : World), (Instr.makeFunc fn first cap).run Try.prog w = .ok (.func fn first cap) w := fun _ _ _ _ => rfl
  have HBX : Hid (∀ W, Below (w.heap.size + 2) ((w.alloc (.cells #[.int .i64 0, .int .i64 0, .slice none 0 0] 28)).alloc (.cells #[.int .i64 0] 31)) W → Blk W w.heap.size #[.int .i64 0, .int .i64 0, .slice none 0 0] 28 ∧ Blk W (w.heap.size + 1) #[.int .i64 0] 31 ∧ Below w.heap.size w W ∧ w.heap.size + 2 ≤ W.heap.size) := fun W hW => ⟨((show Blk _ w.heap.size _ _ from heap_alloc_new w (.cells #[.int .i64 0, .int .i64 0, .slice none 0 0] 28)).later ((Below.refl _ _).alloc (Nat.le_refl _) _)).keep (hW) (by omega), (show Blk ((w.alloc (.cells #[.int .i64 0, .int .i64 0, .slice none 0 0] 28)).alloc (.cells #[.int .i64 0] 31)) (w.heap.size + 1) _ _ from by have := heap_alloc_new (w.alloc (.cells #[.int .i64 0, .int .i64 0, .slice none 0 0] 28)) (.cells #[.int .i64 0] 31); rwa [World.size_alloc] at this).keep hW (by omega), (((Below.refl _ w).alloc (Nat.le_refl _) _).alloc (by simp) _).trans (hW.mono (by omega)), by have := hW.size; simpa using this⟩
  have HC2 := HC.mono (fun e W hh => (show (((∃ (o t : Int) (ad : Option Addr) (m c : Nat), e = .returned (.agg #[.int .i64 o, .int .i64 t, .slice ad m c]) ∧ Hid (G o t ad m c W)) ∨ (∃ y : Int, e = .panicked (refusal y) ∧ Hid (B y))) ∧ (W.cell? ⟨w.heap.size, 0, none⟩ = some (.int .i64 0) ∧ W.frozen? ⟨w.heap.size, 0, none⟩ = false ∧ W.cell? ⟨w.heap.size, 1, none⟩ = some (.int .i64 0) ∧ W.frozen? ⟨w.heap.size, 1, none⟩ = false ∧ W.cell? ⟨w.heap.size, 2, none⟩ = some (.slice none 0 0) ∧ W.frozen? ⟨w.heap.size, 2, none⟩ = false ∧ W.cell? ⟨w.heap.size + 1, 0, none⟩ = some (.int .i64 0) ∧ W.frozen? ⟨w.heap.size + 1, 0, none⟩ = false) ∧ Hid (Blk W w.heap.size #[.int .i64 0, .int .i64 0, .slice none 0 0] 28 ∧ Blk W (w.heap.size + 1) #[.int .i64 0] 31 ∧ Below w.heap.size w W ∧ w.heap.size + 2 ≤ W.heap.size)) from by
    have hk := HBX.out W hh.2
    exact ⟨hh.1, ⟨hk.1.cell 0, hk.1.free 0, hk.1.cell 1, hk.1.free 1, hk.1.cell 2, hk.1.free 2, hk.2.1.cell 0, hk.2.1.free 0⟩, hk⟩))
  clear HC HBX
  go_enter_defers Try.func34, Try.ntmps34
  go_wp2_with (refine HC2.mono ?_; rintro e W ⟨⟨o, t, ad, m, c, rfl, HG⟩ | ⟨y, rfl, HBy⟩, ⟨p0, pf0, p1, pf1, p2, pf2, q0, qf⟩, HK⟩)
  · have hsz := HK.out.2.2.2
    refine leaves_cons (f := 58) (args := #[.pointer (some ⟨w.heap.size + 1, 0, none⟩)]) (by simp) (by simp [go_sem]) ?_
    refine (idleChain _ _).mono ?_
    rintro e u' w'' ⟨rfl, rfl, rfl⟩
    obtain ⟨k0, k1, hbl, hsz⟩ := HK.out
    have m0 := ((((k0.set 0 (.int .i64 o)).set 1 (.int .i64 t)).set 2 (.slice ad m c)).other (C := w.heap.size + 1) (by omega) 0 (.int .i64 0))
    have m1 := ((((k1.other (C := w.heap.size) (by omega) 0 (.int .i64 o)).other (C := w.heap.size) (by omega) 1 (.int .i64 t)).other (C := w.heap.size) (by omega) 2 (.slice ad m c)).set 0 (.int .i64 0))
    have s0 := m0.cell 0
    have s1 := m0.cell 1
    have s2 := m0.cell 2
    have s3 := m1.cell 0
    simp only [List.setIfInBounds_toArray, List.set_cons_zero, List.set_cons_succ, List.getElem?_toArray, List.getElem?_cons_zero, List.getElem?_cons_succ] at s0 s1 s2 s3
    refine ⟨.tuple #[.agg #[.int .i64 o, .int .i64 t, .slice ad m c], .int .i64 0], by simp [results, Try.results34, go_sem, s0, s1, s2, s3], Or.inl ⟨W, ?_, hsz, o, t, ad, m, c, rfl, HG.out⟩, ?_⟩
    · exact ((((Chg.refl _ W).set (Or.inl (by simp)) _ _).set (Or.inl (by simp)) _ _).set (Or.inl (by simp)) _ _).set (Or.inl (by simp)) _ _
    · exact (((hbl.setCell (p := ⟨w.heap.size, 0, none⟩) (Nat.le_refl _) _).setCell (p := ⟨w.heap.size, 1, none⟩) (Nat.le_refl _) _).setCell (p := ⟨w.heap.size, 2, none⟩) (Nat.le_refl _) _).setCell (p := ⟨w.heap.size + 1, 0, none⟩) (Nat.le_succ _) _
  · obtain ⟨k0, k1, hbl, hsz⟩ := HK.out
    refine leaves_cons (f := 58) (args := #[.pointer (some ⟨w.heap.size + 1, 0, none⟩)]) (by simp) (by simp [go_sem]) ?_
    refine (catchChain (w.heap.size + 1) 0 y W k1).mono ?_
    rintro e u' w'' ⟨rfl, rfl, rfl⟩
    have m0 := (k0.other (C := w.heap.size + 1) (by omega) 0 (.int .i64 y)).later ((Below.refl _ _).alloc (Nat.le_refl _) (.cells #[.int .i64 y] 90))
    have m1 := (k1.set 0 (.int .i64 y)).later ((Below.refl _ _).alloc (Nat.le_refl _) (.cells #[.int .i64 y] 90))
    have s0 := m0.cell 0
    have s1 := m0.cell 1
    have s2 := m0.cell 2
    have s3 := m1.cell 0
    simp only [List.setIfInBounds_toArray, List.set_cons_zero, List.getElem?_toArray, List.getElem?_cons_zero, List.getElem?_cons_succ] at s0 s1 s2 s3
    refine ⟨.tuple #[.agg #[.int .i64 0, .int .i64 0, .slice none 0 0], .int .i64 y], by simp [results, Try.results34, go_sem, s0, s1, s2, s3], Or.inr ⟨y, rfl, HBy.out⟩, ?_⟩
    exact (hbl.setCell (p := ⟨w.heap.size + 1, 0, none⟩) (Nat.le_succ _) _).alloc (by simp [World.setCell]; omega) _
end Go.Proofs.Ythadagpfmacemaa

/- attempt of package chain, of bytes (by genatt.py). -/
namespace Go.Proofs.Ythadagpfmacemaa
open Go.RowKit

set_option maxRecDepth 100000 in
theorem catchbyte (g : Nat) (y0 y : Int) (w : World) (hb : Blk w g #[.int .i64 y0] 31) :
    CallsD Try.prog 50 #[.pointer (some ⟨g, 0, none⟩)] (.panicking (refusal y)) w fun e u' w' =>
      e = .returned (.tuple #[]) ∧ u' = .panicking [{ v := .iface 90 (.agg #[.int .i64 y]), recovered := true }] ∧ w' = (w.setCell ⟨g, 0, none⟩ (.int .i64 y)).alloc (.cells #[.int .i64 y] 90) := by
  have hc : w.cell? ⟨g, 0, none⟩ = some (.int .i64 y0) := hb.cell 0
  have hgl := hb.lt
  have hz := hb.free 0
  refine callsD_of_wpS Try.func50 rfl fun c₀ cs hu => ?_
  apply wpS_seq
  apply wpS_region
  simp [wpOpsS, go_sem, recoverD, hu, Try.ntmps50, Exit.thenS]
  simp only [Array.replicate_succ, Array.replicate_zero, List.push_toArray, List.append_toArray, List.nil_append, List.cons_append, List.setIfInBounds_toArray, List.set_cons_zero, List.set_cons_succ]
  refine wpS_of_wp ?_
  have hta : ∀ w : World, (Instr.typeAssert (.iface 90 (.agg #[.int .i64 y])) 20 90 true).run Try.prog w = .ok (.tuple #[.agg #[.int .i64 y], .bool true]) w := fun w => by kernel_rfl
  generalize hc1 : ({ c₀ with mode := FrameMode.panicking [{ v := .iface 90 (.agg #[.int .i64 y]), recovered := true }] } : Frame) = c1
  clear hu
  go_wp2
  exact ⟨rfl, _, by rw [← hc1], .tuple #[], by simp [results, Try.results50, go_sem], rfl, rfl, rfl⟩
set_option maxRecDepth 100000 in
theorem idlebyte (g : Nat) (w : World) :
    CallsD Try.prog 50 #[.pointer (some ⟨g, 0, none⟩)] .returning w fun e u' w' => e = .returned (.tuple #[]) ∧ u' = .returning ∧ w' = w := by
  refine callsD_of_wpS Try.func50 rfl fun c₀ cs hu => ?_
  apply wpS_seq
  apply wpS_region
  simp [wpOpsS, go_sem, recoverD, hu, Try.ntmps50, Exit.thenS]
  simp only [Array.replicate_succ, Array.replicate_zero, List.push_toArray, List.append_toArray, List.nil_append, List.cons_append, List.setIfInBounds_toArray, List.set_cons_zero, List.set_cons_succ]
  refine wpS_of_wp ?_
  have hc1 : c₀ = { c₀ with mode := FrameMode.returning } := by cases c₀; simp_all
  clear hu
  go_wp2
  exact ⟨rfl, _, by rw [← hc1], .tuple #[], by simp [results, Try.results50, go_sem], rfl, rfl, rfl⟩
/-- attempt: what work answers, or why it gave up. -/
theorem attemptbyte (f : Nat) (caps : Array Value) (w : World) (hf : ∀ args W, (callFunc f args).run Try.prog W = .ok (.enter f args) W) (G : Option Addr → Nat → Nat → World → Prop) (B : Int → Prop)
    (HC : Calls Try.prog f caps (w.alloc (.cells #[.int .i64 0] 31)) fun e W => ((∃ (ad : Option Addr) (m c : Nat), e = .returned (.slice ad m c) ∧ G ad m c W) ∨ (∃ y : Int, e = .panicked (refusal y) ∧ B y)) ∧ Below (w.heap.size + 1) (w.alloc (.cells #[.int .i64 0] 31)) W) :
    Calls Try.prog 28 #[.func (.func f) #[] caps] w fun e w' => ((∃ W, Chg [w.heap.size] W w' ∧ w.heap.size + 1 ≤ W.heap.size ∧ ∃ (ad : Option Addr) (m c : Nat), e = .returned (.tuple #[.slice ad m c, .int .i64 0]) ∧ G ad m c W) ∨ (∃ y : Int, e = .returned (.tuple #[.slice none 0 0, .int .i64 y]) ∧ B y)) ∧ Below w.heap.size w w' := by
  have hmf : ∀ (fn : Fn) (first cap : Array Value) (w : World), (Instr.makeFunc fn first cap).run Try.prog w = .ok (.func fn first cap) w := fun _ _ _ _ => rfl
  have HBX : Hid (∀ W, Below (w.heap.size + 1) (w.alloc (.cells #[.int .i64 0] 31)) W → Blk W (w.heap.size) #[.int .i64 0] 31 ∧ Below w.heap.size w W ∧ w.heap.size + 1 ≤ W.heap.size) := fun W hW => ⟨(show Blk _ w.heap.size _ _ from heap_alloc_new w (.cells #[.int .i64 0] 31)).keep hW (by omega), ((Below.refl _ w).alloc (Nat.le_refl _) _).trans (hW.mono (by omega)), by have := hW.size; simpa using this⟩
  have HC2 := HC.mono (fun e W hh => (show (((∃ (ad : Option Addr) (m c : Nat), e = .returned (.slice ad m c) ∧ Hid (G ad m c W)) ∨ (∃ y : Int, e = .panicked (refusal y) ∧ Hid (B y))) ∧ (W.cell? ⟨w.heap.size, 0, none⟩ = some (.int .i64 0) ∧ W.frozen? ⟨w.heap.size, 0, none⟩ = false) ∧ Hid (Blk W (w.heap.size) #[.int .i64 0] 31 ∧ Below w.heap.size w W ∧ w.heap.size + 1 ≤ W.heap.size)) from by
    have hk := HBX.out W hh.2
    exact ⟨hh.1, ⟨hk.1.cell 0, hk.1.free 0⟩, hk⟩))
  clear HC HBX
  go_enter_defers Try.func28, Try.ntmps28
  go_wp2_with (refine HC2.mono ?_; rintro e W ⟨⟨ad, m, c, rfl, HG⟩ | ⟨y, rfl, HBy⟩, ⟨q0, qf⟩, HK⟩)
  · have hsz := HK.out.2.2
    refine leaves_cons (f := 50) (args := #[.pointer (some ⟨w.heap.size, 0, none⟩)]) (by simp) (by simp [go_sem]) ?_
    refine (idlebyte _ _).mono ?_
    rintro e u' w'' ⟨rfl, rfl, rfl⟩
    obtain ⟨k1, hbl, hsz⟩ := HK.out
    have m1 := k1.set 0 (.int .i64 0)
    have s3 := m1.cell 0
    simp only [List.setIfInBounds_toArray, List.set_cons_zero, List.getElem?_toArray, List.getElem?_cons_zero] at s3
    refine ⟨.tuple #[.slice ad m c, .int .i64 0], by simp [results, Try.results28, go_sem, s3], Or.inl ⟨W, ?_, hsz, ad, m, c, rfl, HG.out⟩, ?_⟩
    · exact (Chg.refl _ W).set (Or.inl (by simp)) _ _
    · exact hbl.setCell (p := ⟨w.heap.size, 0, none⟩) (Nat.le_refl _) _
  · obtain ⟨k1, hbl, hsz⟩ := HK.out
    refine leaves_cons (f := 50) (args := #[.pointer (some ⟨w.heap.size, 0, none⟩)]) (by simp) (by simp [go_sem]) ?_
    refine (catchbyte (w.heap.size) 0 y W k1).mono ?_
    rintro e u' w'' ⟨rfl, rfl, rfl⟩
    have m1 := (k1.set 0 (.int .i64 y)).later ((Below.refl _ _).alloc (Nat.le_refl _) (.cells #[.int .i64 y] 90))
    have s3 := m1.cell 0
    simp only [List.setIfInBounds_toArray, List.set_cons_zero, List.getElem?_toArray, List.getElem?_cons_zero] at s3
    refine ⟨.tuple #[.slice none 0 0, .int .i64 y], by simp [results, Try.results28, go_sem, s3], Or.inr ⟨y, rfl, HBy.out⟩, ?_⟩
    exact (hbl.setCell (p := ⟨w.heap.size, 0, none⟩) (Nat.le_refl _) _).alloc (by simp [World.setCell]; omega) _
end Go.Proofs.Ythadagpfmacemaa
