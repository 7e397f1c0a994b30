/- slices.Clone of numbers. -/
import Derived.Test.YthadagpfmacemaaCApp
namespace Go.Proofs.Ythadagpfmacemaa
open Go.RowKit
variable {w w' : World} {l : List Int} {ad : Option Addr} {m c : Nat}

/-- New numbers: in blocks from base on. -/
structure NewI (w : World) (base : Nat) (l : List Int) (s : Sl) : Prop where
  ints : Ints w l s.ad s.m s.c
  nil : s.ad = none → s.m = 0 ∧ s.c = 0
  new : s.m ≠ 0 → ∀ b off, s.ad = some ⟨b, off, none⟩ → base ≤ b ∧ ∃ cur, w.heap[b]? = some (.cells cur 3)
theorem NewI.chg {base : Nat} {s : Sl} {F : List Nat} (h : NewI w base l s) (hb : Chg F w w') (hF : ∀ g ∈ F, ∀ cur, w.heap[g]? ≠ some (.cells cur 3)) : NewI w' base l s := by
  have hn : s.m ≠ 0 → ∀ b off, s.ad = some ⟨b, off, none⟩ → b ∉ F := fun h0 b off e hm => by
    obtain ⟨-, cur, hc⟩ := h.new h0 b off e
    exact hF b hm cur hc
  refine ⟨h.ints.chg hb hn, h.nil, fun h0 b off e => ?_⟩
  obtain ⟨h1, cur, hc⟩ := h.new h0 b off e
  have hlt : b < w.heap.size := by
    rcases Nat.lt_or_ge b w.heap.size with hlt | hge
    · exact hlt
    · rw [Array.getElem?_eq_none hge] at hc; cases hc
  exact ⟨h1, cur, (hb.block b hlt (hn h0 b off e)).trans hc⟩
theorem NewI.later {base : Nat} {s : Sl} (h : NewI w base l s) (hb : Below w.heap.size w w') : NewI w' base l s := h.chg (F := []) (Chg.of hb) (fun g hg => by cases hg)
theorem NewI.down {base b' : Nat} {s : Sl} (h : NewI w base l s) (hb : b' ≤ base) : NewI w b' l s := ⟨h.ints, h.nil, fun h0 b off e => ⟨Nat.le_trans hb (h.new h0 b off e).1, (h.new h0 b off e).2⟩⟩
set_option maxRecDepth 100000 in
theorem clone_any (h : Ints w l ad m c) (hnone : ad = none → m = 0 ∧ c = 0) (hbytes : m * 8 ≤ 140737488355328) : Calls Try.prog 63 #[.slice ad m c] w fun e w' => ∃ s : Sl, e = .returned (.slice s.ad s.m s.c) ∧ Hid (NewI w' w.heap.size l s) ∧ Below w.heap.size w w' := by
  cases ad with
  | none =>
    obtain ⟨rfl, rfl⟩ := hnone rfl
    have e0 : l = [] := List.eq_nil_of_length_eq_zero h.len
    have HI : Hid (NewI w w.heap.size l ⟨none, 0, 0⟩) := ⟨h, fun _ => ⟨rfl, rfl⟩, fun _ b off e => (by cases e)⟩
    have hn : ∀ w : World, (binOp BinOp.eql 47 (.slice none 0 0) (.slice none 0 0)).run Try.prog w = .ok (.bool true) w := fun _ => by kernel_rfl
    clear h hnone e0
    go_enter Try.func63, Try.ntmps63
    go_wp2_with fail
    go_ret
    exact ⟨⟨none, 0, 0⟩, rfl, HI, Below.refl _ _⟩
  | some a =>
    have HB : Below w.heap.size w (w.alloc (.cells #[] 3)) := (Below.refl _ _).alloc (Nat.le_refl _) _
    have HI : Hid (Ints (w.alloc (.cells #[] 3)) l (some a) m c) := h.later HB
    have HL : Hid (∀ x ∈ l, -9223372036854775808 ≤ x ∧ x ≤ 9223372036854775807) := h.rng
    have hl : Hid (l.length = m) := h.len
    have HBh : Hid (Below w.heap.size w (w.alloc (.cells #[] 3))) := HB
    have q : ∀ w, (binOp .eql 47 (.slice (some a) m c) (.slice none 0 0)).run Try.prog w = .ok (.bool false) w := fun w => Lib.run_eql_slice_nil w _ _ _ m c 0 0 Try.underlying47
    clear h hnone HB
    go_enter Try.func63, Try.ntmps63
    go_wp2_with (at_builtin; refine app_ints rfl _ _ rfl w.heap.size 0 _ [] rfl (emptyI_own w _ (Nat.le_refl _)) (some a) m c l rfl HI.out (fun e => by cases e) (by omega) (by simp) ?_; intro v' w2 r1 r2; have HO : Hid (OwnI w2 w.heap.size v' l) := (show Hid _ from by rw [Nat.zero_add, List.nil_append] at r1; unfold OwnI; rw [hl.out]; exact r1); have HG : Hid (Below w.heap.size (w.alloc (.cells #[] 3)) w2) := (show Hid _ from grown_below r2 (fun g hg => by cases hg; exact Nat.le_refl _) (by simp)); clear r1 r2)
    go_ret
    obtain ⟨s, rfl, hm, hi, hn, hnew⟩ := HO.out.form HL.out
    exact ⟨s, rfl, ⟨hi, hn, fun _ => hnew⟩, HBh.out.trans HG.out⟩
end Go.Proofs.Ythadagpfmacemaa
