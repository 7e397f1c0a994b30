/- Check of package chain (by gencut.py). -/
import Derived.Test.YthadagpfmacemaaCExt
namespace Go.Proofs.Ythadagpfmacemaa
open Go.RowKit
variable {w W : World} {l : List Pt} {A : Nat → Sl} {ad : Option Addr} {m c : Nat}

set_option maxRecDepth 100000 in
set_option maxHeartbeats 1000000 in
theorem chk1_any {gc gn : Nat} {o t n : Int} (bc : Blk W gc #[.int .i64 o, .int .i64 t, .slice ad m c] 28) (bn : Blk W gn #[.int .i64 n] 3) (h : CArg W l A ad m c) :
    Calls Try.prog 38 #[.pointer (some ⟨gc, 0, none⟩), .pointer (some ⟨gn, 0, none⟩)] W fun x W' => ((∃ (o' t' : Int) (ad' : Option Addr) (m' c' : Nat), x = .returned (.agg #[.int .i64 o', .int .i64 t', .slice ad' m' c']) ∧ mayC o t l n) ∨ (∃ y : Int, x = .panicked (refusal y) ∧ (y = 1 ∧ ¬ mayC o t l n))) ∧ Below W.heap.size W W' := by
  have HB0 : Hid (Below W.heap.size W (W.alloc (.cells #[.int .i64 0, .int .i64 0, .slice none 0 0] 28))) := hid ((Below.refl _ _).alloc (Nat.le_refl _) _)
  have HC : Hid (∀ X, Below W.heap.size W X → X.cell? ⟨gc, 0, none⟩ = some (.int .i64 o) ∧ X.cell? ⟨gc, 1, none⟩ = some (.int .i64 t) ∧ X.cell? ⟨gc, 2, none⟩ = some (.slice ad m c) ∧ X.cell? ⟨gn, 0, none⟩ = some (.int .i64 n)) := hid (fun X hX => ⟨(bc.later hX).cell 0, (bc.later hX).cell 1, (bc.later hX).cell 2, (bn.later hX).cell 0⟩)
  have HZ : Hid (∀ X, Below (W.alloc (.cells #[.int .i64 0, .int .i64 0, .slice none 0 0] 28)).heap.size (W.alloc (.cells #[.int .i64 0, .int .i64 0, .slice none 0 0] 28)) X → Blk X W.heap.size #[.int .i64 0, .int .i64 0, .slice none 0 0] 28) := hid (fun X hX => (show Blk _ W.heap.size _ _ from heap_alloc_new W _).later hX)
  have HI1 := insistChain_any (h.later HB0.out) o t n 1
  obtain ⟨k0, k1, k2, k3⟩ := HC.out (W.alloc (.cells #[.int .i64 0, .int .i64 0, .slice none 0 0] 28)) HB0.out
  clear h bc bn
  by_cases p1 : mayC o t l n
  · have HP := hid p1
    rw [insC_ok p1] at HI1
    clear p1
    go_enter Try.func38, Try.ntmps38
    go_wp2_with (go_at_call 30; refine HI1.mono ?_; rintro x w1 ⟨rfl, hb1⟩; have HB1 := hid hb1; clear k0 k1 k2 k3; obtain ⟨k0, k1, k2, k3⟩ := HC.out w1 (HB0.out.trans (hb1.mono HB0.out.size)); have z0 : w1.cell? ⟨W.heap.size, 0, none⟩ = some (.int .i64 0) := (HZ.out w1 hb1).cell 0; have z1 : w1.cell? ⟨W.heap.size, 1, none⟩ = some (.int .i64 0) := (HZ.out w1 hb1).cell 1; have z2 : w1.cell? ⟨W.heap.size, 2, none⟩ = some (.slice none 0 0) := (HZ.out w1 hb1).cell 2; have f0 := (HZ.out w1 hb1).free 0; have f1 := (HZ.out w1 hb1).free 1; have f2 := (HZ.out w1 hb1).free 2; clear hb1)
    have m0 := (((HZ.out w1 HB1.out).set 0 (.int .i64 o)).set 1 (.int .i64 t)).set 2 (.slice ad m c)
    have s0 : (((w1.setCell ⟨W.heap.size, 0, none⟩ (.int .i64 o)).setCell ⟨W.heap.size, 1, none⟩ (.int .i64 t)).setCell ⟨W.heap.size, 2, none⟩ (.slice ad m c)).cell? ⟨W.heap.size, 0, none⟩ = some (.int .i64 o) := m0.cell 0
    have s1 : (((w1.setCell ⟨W.heap.size, 0, none⟩ (.int .i64 o)).setCell ⟨W.heap.size, 1, none⟩ (.int .i64 t)).setCell ⟨W.heap.size, 2, none⟩ (.slice ad m c)).cell? ⟨W.heap.size, 1, none⟩ = some (.int .i64 t) := m0.cell 1
    have s2 : (((w1.setCell ⟨W.heap.size, 0, none⟩ (.int .i64 o)).setCell ⟨W.heap.size, 1, none⟩ (.int .i64 t)).setCell ⟨W.heap.size, 2, none⟩ (.slice ad m c)).cell? ⟨W.heap.size, 2, none⟩ = some (.slice ad m c) := m0.cell 2
    have hbw : Below W.heap.size W w1 := HB0.out.trans (HB1.out.mono HB0.out.size)
    have hcg : Chg [W.heap.size] w1 (((w1.setCell ⟨W.heap.size, 0, none⟩ (.int .i64 o)).setCell ⟨W.heap.size, 1, none⟩ (.int .i64 t)).setCell ⟨W.heap.size, 2, none⟩ (.slice ad m c)) := (((Chg.refl _ w1).set (Or.inl (by simp)) _ _).set (Or.inl (by simp)) _ _).set (Or.inl (by simp)) _ _
    exact bodyPost_ret (v := .agg #[.int .i64 o, .int .i64 t, .slice ad m c]) (by simp [results, Try.results38, go_sem, s0, s1, s2]) rfl ⟨Or.inl ⟨o, t, ad, m, c, rfl, HP.out⟩, hbw.trans (hcg.below (fun k hk => by simp at hk; omega) hbw.size)⟩
  · have HP := hid p1
    rw [insC_no p1] at HI1
    clear p1
    go_enter Try.func38, Try.ntmps38
    go_wp2_with (go_at_call 30; refine HI1.mono ?_; rintro x w1 ⟨rfl, hb1⟩; have HB1 := hid hb1; clear hb1)
    exact ⟨rfl, Or.inr ⟨1, rfl, rfl, HP.out⟩, HB0.out.trans (HB1.out.mono HB0.out.size)⟩
theorem enters_chk1 : ∀ args w, (callFunc 38 args).run Try.prog w = .ok (.enter 38 args) w := fun _ _ => by kernel_rfl
set_option maxRecDepth 100000 in
set_option maxHeartbeats 1000000 in
theorem chk_any (h : CArg w l A ad m c) (o t n : Int) : Calls Try.prog 14 #[.agg #[.int .i64 o, .int .i64 t, .slice ad m c], .int .i64 n] w fun x w' => x = .returned (.int .i64 (if mayC o t l n then 0 else 1)) ∧ Below w.heap.size w w' := by
  obtain ⟨W2, hW2⟩ : ∃ W2, (w.alloc (.cells #[.int .i64 o, .int .i64 t, .slice ad m c] 28)).alloc (.cells #[.int .i64 n] 3) = W2 := ⟨_, rfl⟩
  have hb2 : Below w.heap.size w W2 := by rw [← hW2]; exact ((Below.refl _ w).alloc (Nat.le_refl _) _).alloc (by simp) _
  have q0 : Blk W2 w.heap.size #[.int .i64 o, .int .i64 t, .slice ad m c] 28 := by rw [← hW2]; exact blk_alloc _ _ (heap_alloc_new w _)
  have q1 : Blk W2 (w.heap.size + 1) #[.int .i64 n] 3 := by rw [← hW2]; exact heap_alloc_new' _ _ _ (by simp)
  have n1 := (Below.refl W2.heap.size W2).alloc (Nat.le_refl _) (.cells #[.int .i64 0, .int .i64 0, .slice none 0 0] 28)
  have n2 : Below W2.heap.size W2 ((W2.alloc (.cells #[.int .i64 0, .int .i64 0, .slice none 0 0] 28)).alloc (.cells #[.int .i64 0] 31)) := n1.alloc n1.size _
  have hsz : ((W2.alloc (.cells #[.int .i64 0, .int .i64 0, .slice none 0 0] 28)).alloc (.cells #[.int .i64 0] 31)).heap.size = W2.heap.size + 2 := by simp
  have HX1 := chk1_any (q0.later n2) (q1.later n2) ((h.later hb2).later n2)
  rw [hsz] at HX1
  have HAT := hid ((attemptChain 38 _ W2 enters_chk1 (fun _ _ _ _ _ _ => mayC o t l n) (fun y => y = 1 ∧ ¬ mayC o t l n) HX1).mono (R' := fun x w' => ∃ o' t' ad' m' c', x = .returned (.tuple #[.agg #[.int .i64 o', .int .i64 t', .slice ad' m' c'], .int .i64 (if mayC o t l n then 0 else 1)]) ∧ Hid (Below W2.heap.size W2 w')) (by
    rintro x w' ⟨h1, hb⟩
    rcases h1 with ⟨X, -, -, o', t', ad', m', c', rfl, hE⟩ | ⟨y, rfl, rfl, hy⟩
    · exact ⟨o', t', ad', m', c', by rw [if_pos hE], hb⟩
    · exact ⟨0, 0, none, 0, 0, by rw [if_neg hy], hb⟩))
  have hmf : ∀ (fn : Fn) (first cap : Array Value) (w : World), (Instr.makeFunc fn first cap).run Try.prog w = .ok (.func fn first cap) w := fun _ _ _ _ => rfl
  have HB2 := hid hb2
  clear h HX1 n1 n2 hsz q0 q1 hb2
  generalize (if mayC o t l n then (0 : Int) else 1) = y at *
  go_enter Try.func14, Try.ntmps14
  go_wp2_with (go_at_call 34; refine HAT.out.mono ?_; rintro x w' ⟨o', t', ad', m', c', rfl, HR⟩)
  go_ret
  exact ⟨rfl, (HB2.out.trans (HR.out.mono HB2.out.size)).alloc (Nat.le_trans HB2.out.size HR.out.size) _⟩
end Go.Proofs.Ythadagpfmacemaa
