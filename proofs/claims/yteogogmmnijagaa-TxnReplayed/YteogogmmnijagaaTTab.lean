/- The tables of package txn: what is asked ahead of an event, and what it does, by Kinds (by gentab16.py). -/
import Derived.Test.YteogogmmnijagaaTBook
namespace Go.Proofs.Yteogogmmnijagaa
open Go.RowKit
variable {w w' : World} {F : List Nat} {g M : Nat} {v : Value} {Z : List (Pr × Sl)} {B : Bk}

abbrev TQ : TypeId := 55
abbrev TD : TypeId := 58
theorem keyI : Maps.Keyed Try.prog 3 := Maps.int_keyed Try.underlying3
theorem keyOf_z {p : Int} (h : 1 ≤ p ∧ p ≤ 5) : keyOf Try.prog 3 (.int .i64 p) = some (Lit.int .i64 p) :=
  Maps.keyOf_int_mk Try.underlying3 (by have e1 : IntKind.i64.min = -9223372036854775808 := rfl; have e2 : IntKind.i64.max = 9223372036854775807 := rfl; simp [Lit.wf, e1, e2]; omega)
theorem lit_ne {a b : Int} (h : a ≠ b) : Lit.int .i64 a ≠ Lit.int .i64 b := fun e => h (by injection e)
/-- Five entries of a new map. -/
theorem put5 {t e : TypeId} (ht : Try.prog.underlying t = some (.map 3 e)) (w : World) (f1 f2 f3 f4 f5 : Value) :
    ∃ W1 W2 W3 W4 W5, ((Instr.mapUpdate t (.map (some w.heap.size)) (.int .i64 1) f1).run Try.prog (w.alloc (.map #[] 0)) = .ok () W1 ∧ (Instr.mapUpdate t (.map (some w.heap.size)) (.int .i64 2) f2).run Try.prog W1 = .ok () W2 ∧ (Instr.mapUpdate t (.map (some w.heap.size)) (.int .i64 3) f3).run Try.prog W2 = .ok () W3 ∧ (Instr.mapUpdate t (.map (some w.heap.size)) (.int .i64 4) f4).run Try.prog W3 = .ok () W4 ∧ (Instr.mapUpdate t (.map (some w.heap.size)) (.int .i64 5) f5).run Try.prog W4 = .ok () W5) ∧ Below w.heap.size w W5 ∧ ∃ f, MapF W5 3 w.heap.size 5 f ∧ f (.int .i64 1) = some f1 ∧ f (.int .i64 2) = some f2 ∧ f (.int .i64 3) = some f3 ∧ f (.int .i64 4) = some f4 ∧ f (.int .i64 5) = some f5 := by
  have h0 : MapF (w.alloc (.map #[] 0)) 3 w.heap.size 0 (fun _ => none) := MapF.empty (World.alloc_heap_new w _)
  have b0 : Below w.heap.size w (w.alloc (.map #[] 0)) := (Below.refl _ w).alloc (Nat.le_refl _) _
  obtain ⟨W1, r1, h1, c1⟩ := h0.store (t := t) (e := e) keyI ht (by unfold maxLen; omega) (val := f1) (keyOf_z (p := 1) (by omega))
  have b1 : Below w.heap.size w W1 := below_chg b0 c1 (Nat.le_refl _) (fun b hb => by simp at hb; omega)
  obtain ⟨W2, r2, h2, c2⟩ := h1.store (t := t) (e := e) keyI ht (by unfold maxLen; omega) (val := f2) (keyOf_z (p := 2) (by omega))
  have b2 : Below w.heap.size w W2 := below_chg b1 c2 (Nat.le_refl _) (fun b hb => by simp at hb; omega)
  obtain ⟨W3, r3, h3, c3⟩ := h2.store (t := t) (e := e) keyI ht (by unfold maxLen; omega) (val := f3) (keyOf_z (p := 3) (by omega))
  have b3 : Below w.heap.size w W3 := below_chg b2 c3 (Nat.le_refl _) (fun b hb => by simp at hb; omega)
  obtain ⟨W4, r4, h4, c4⟩ := h3.store (t := t) (e := e) keyI ht (by unfold maxLen; omega) (val := f4) (keyOf_z (p := 4) (by omega))
  have b4 : Below w.heap.size w W4 := below_chg b3 c4 (Nat.le_refl _) (fun b hb => by simp at hb; omega)
  obtain ⟨W5, r5, h5, c5⟩ := h4.store (t := t) (e := e) keyI ht (by unfold maxLen; omega) (val := f5) (keyOf_z (p := 5) (by omega))
  have b5 : Below w.heap.size w W5 := below_chg b4 c5 (Nat.le_refl _) (fun b hb => by simp at hb; omega)
  refine ⟨W1, W2, W3, W4, W5, ⟨r1, r2, r3, r4, r5⟩, b5, _, h5, ?_, ?_, ?_, ?_, ?_⟩
  · rw [updF_other _ (lit_ne (by decide)), updF_other _ (lit_ne (by decide)), updF_other _ (lit_ne (by decide)), updF_other _ (lit_ne (by decide)), updF_same]
  · rw [updF_other _ (lit_ne (by decide)), updF_other _ (lit_ne (by decide)), updF_other _ (lit_ne (by decide)), updF_same]
  · rw [updF_other _ (lit_ne (by decide)), updF_other _ (lit_ne (by decide)), updF_same]
  · rw [updF_other _ (lit_ne (by decide)), updF_same]
  · rw [updF_same]
def qFn (k : Int) : Nat := if k = 1 then 28 else if k = 2 then 29 else if k = 3 then 30 else if k = 4 then 31 else 32
def dFn (k : Int) : Nat := if k = 1 then 33 else if k = 2 then 34 else if k = 3 then 35 else if k = 4 then 36 else 37
/-- In w the map at M says for each Kind which function of the book at g it is. -/
def TabP (t : TypeId) (fn : Int → Nat) (g M : Nat) (w : World) : Prop := ∀ k, 1 ≤ k → k ≤ 5 → ∀ W, Below w.heap.size w W → (Instr.lookup t (.map (some M)) (.int .i64 k) false).run Try.prog W = .ok (.func (.func (fn k)) #[.pointer (some ⟨g, 0, none⟩)] #[]) W
theorem tab_of {t e : TypeId} (ht : Try.prog.underlying t = some (.map 3 e)) (hz : ∀ w, (zeroValue e).run Try.prog w = .ok .nilFunc w) {fn : Int → Nat} {f : Lit → Option Value} (h : MapF w 3 M 5 f) (hf : ∀ k, 1 ≤ k → k ≤ 5 → f (.int .i64 k) = some (.func (.func (fn k)) #[.pointer (some ⟨g, 0, none⟩)] #[])) : TabP t fn g M w := fun k h1 h2 W hW => by
  rw [(h.keep (hW.block M h.lt)).look keyI ht (hz W) (keyOf_z ⟨h1, h2⟩), hf k h1 h2]
  rfl
theorem cases5 {k : Int} (h1 : 1 ≤ k) (h2 : k ≤ 5) : k = 1 ∨ k = 2 ∨ k = 3 ∨ k = 4 ∨ k = 5 := by omega
set_option maxRecDepth 100000 in
set_option maxHeartbeats 1000000 in
theorem questions_any (g : Nat) (w : World) : Calls Try.prog 17 #[.pointer (some ⟨g, 0, none⟩)] w fun e w' => ∃ M, e = .returned (.map (some M)) ∧ TabP TQ qFn g M w' ∧ Below w.heap.size w w' := by
  have hmm : ∀ (t : TypeId) (w : World), (Instr.makeMap t none).run Try.prog w = .ok (.map (some w.heap.size)) (w.alloc (.map #[] 0)) := fun t w => run_makeMap _ w
  have hmf : ∀ (fn : Fn) (first cap : Array Value) (w : World), (Instr.makeFunc fn first cap).run Try.prog w = .ok (.func fn first cap) w := fun _ _ _ _ => rfl
  obtain ⟨W1, W2, W3, W4, W5, ⟨r1, r2, r3, r4, r5⟩, hb, f, hM, g1, g2, g3, g4, g5⟩ := put5 (t := TQ) Try.underlying55 w (.func (.func 28) #[.pointer (some ⟨g, 0, none⟩)] #[]) (.func (.func 29) #[.pointer (some ⟨g, 0, none⟩)] #[]) (.func (.func 30) #[.pointer (some ⟨g, 0, none⟩)] #[]) (.func (.func 31) #[.pointer (some ⟨g, 0, none⟩)] #[]) (.func (.func 32) #[.pointer (some ⟨g, 0, none⟩)] #[])
  have HT : Hid (TabP TQ qFn g w.heap.size W5) := hid (tab_of Try.underlying55 (Try.zeroValue28) hM (fun k h1 h2 => by rcases cases5 h1 h2 with rfl | rfl | rfl | rfl | rfl <;> assumption))
  have HB := hid hb
  clear hM g1 g2 g3 g4 g5 hb
  go_enter Try.func17, Try.ntmps17
  go_wp2_with fail
  go_ret
  exact ⟨_, rfl, HT.out, HB.out⟩
set_option maxRecDepth 100000 in
set_option maxHeartbeats 1000000 in
theorem deeds_any (g : Nat) (w : World) : Calls Try.prog 18 #[.pointer (some ⟨g, 0, none⟩)] w fun e w' => ∃ M, e = .returned (.map (some M)) ∧ TabP TD dFn g M w' ∧ Below w.heap.size w w' := by
  have hmm : ∀ (t : TypeId) (w : World), (Instr.makeMap t none).run Try.prog w = .ok (.map (some w.heap.size)) (w.alloc (.map #[] 0)) := fun t w => run_makeMap _ w
  have hmf : ∀ (fn : Fn) (first cap : Array Value) (w : World), (Instr.makeFunc fn first cap).run Try.prog w = .ok (.func fn first cap) w := fun _ _ _ _ => rfl
  obtain ⟨W1, W2, W3, W4, W5, ⟨r1, r2, r3, r4, r5⟩, hb, f, hM, g1, g2, g3, g4, g5⟩ := put5 (t := TD) Try.underlying58 w (.func (.func 33) #[.pointer (some ⟨g, 0, none⟩)] #[]) (.func (.func 34) #[.pointer (some ⟨g, 0, none⟩)] #[]) (.func (.func 35) #[.pointer (some ⟨g, 0, none⟩)] #[]) (.func (.func 36) #[.pointer (some ⟨g, 0, none⟩)] #[]) (.func (.func 37) #[.pointer (some ⟨g, 0, none⟩)] #[])
  have HT : Hid (TabP TD dFn g w.heap.size W5) := hid (tab_of Try.underlying58 (Try.zeroValue57) hM (fun k h1 h2 => by rcases cases5 h1 h2 with rfl | rfl | rfl | rfl | rfl <;> assumption))
  have HB := hid hb
  clear hM g1 g2 g3 g4 g5 hb
  go_enter Try.func18, Try.ntmps18
  go_wp2_with fail
  go_ret
  exact ⟨_, rfl, HT.out, HB.out⟩
end Go.Proofs.Yteogogmmnijagaa
