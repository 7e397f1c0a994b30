/- Small functions of package store, and bytes.Equal, bytes.Clone. -/
import Derived.Test.YtikomnbhmmjfnaaGreatSStN
import Derived.Test.YtikomnbhmmjfnaaGreatStr
import Derived.Test.YtikomnbhmmjfnaaGreatSText
import Derived.Lib.LazyBuf
import Derived.Laws.StructEq
namespace Go.Proofs.YtikomnbhmmjfnaaGreat
open Go.RowKit

theorem bstr_inj {a b : List Nat} (ha : ∀ x ∈ a, x < 256) (hb : ∀ x ∈ b, x < 256) (h : bstr a = bstr b) : a = b := by
  rw [← sbytes_bstr a ha, ← sbytes_bstr b hb, h]
set_option maxRecDepth 100000 in
theorem isLoglet_any (n : Int) (w : World) : Calls Tryz.prog 48 #[.int .i64 n] w fun e w' => e = .returned (.bool (isLogletN n)) ∧ w' = w := by
  unfold isLogletN
  by_cases h : 0 ≤ n
  all_goals
    go_enter Tryz.func48, Tryz.ntmps48
    go_wp2
    all_goals go_ret
    all_goals simp
    all_goals omega
set_option maxRecDepth 100000 in
theorem isPlace_any (n : Int) (w : World) : Calls Tryz.prog 49 #[.int .i64 n] w fun e w' => e = .returned (.bool (isPlaceN n)) ∧ w' = w := by
  unfold isPlaceN
  by_cases h : 0 ≤ n
  all_goals
    go_enter Tryz.func49, Tryz.ntmps49
    go_wp2
    all_goals go_ret
    all_goals simp
    all_goals omega
set_option maxRecDepth 100000 in
theorem isTrim_any (n : Int) (w : World) : Calls Tryz.prog 54 #[.int .i64 n] w fun e w' => e = .returned (.bool (isTrimN n)) ∧ w' = w := by
  unfold isTrimN
  by_cases h : 0 ≤ n
  all_goals
    go_enter Tryz.func54, Tryz.ntmps54
    go_wp2
    all_goals go_ret
    all_goals simp
    all_goals omega
set_option maxRecDepth 100000 in
theorem equal_any (a b : Option Addr) (la ca lb cb : Nat) (x y : List Nat) (w : World) (ha : Part.ok w ⟨a, la, ca, x⟩) (hb : Part.ok w ⟨b, lb, cb, y⟩) :
    Calls Tryz.prog 85 #[.slice a la ca, .slice b lb cb] w fun e w' => e = .returned (.bool (decide (x = y))) ∧ w' = w := by
  have e1 := conv_any ha.2.2 la ca ha.1
  have e2 := conv_any hb.2.2 lb cb hb.1
  have HX : Hid (∀ z ∈ x, z < 256) := ha.2.2.1
  have HY : Hid (∀ z ∈ y, z < 256) := hb.2.2.1
  clear ha hb
  go_enter Tryz.func85, Tryz.ntmps85
  go_wp2
  go_ret
  refine ⟨?_, rfl⟩
  by_cases h : x = y
  · subst h; simp
  · have : ¬ bstr x = bstr y := fun e => h (bstr_inj HX.out HY.out e)
    have h2 : ¬ (bstr x).toList = (bstr y).toList := fun e => this (by rw [ByteArray.toList_eq, ByteArray.toList_eq] at e; exact ByteArray.ext (Array.toList_inj.1 e))
    simp [h, h2]
set_option maxRecDepth 100000 in
theorem bclone_any (a : Option Addr) (n c : Nat) (l : List Nat) (w : World) (ha : Part.ok w ⟨a, n, c, l⟩) (hn : n ≤ 1000000000) :
    Calls Tryz.prog 50 #[.slice a n c] w fun e w' => ∃ p : Part, e = .returned (.slice p.ad p.len p.cap) ∧ Hid (p.l = l) ∧ Hid (Own w' w.heap.size (.slice p.ad p.len p.cap) l) ∧ Hid (p.ok w') ∧ Below w.heap.size w w' := by
  have fin : ∀ (w' : World) (v : Value), Own w' w.heap.size v l → Below w.heap.size w w' → ∃ p : Part, Ending.returned v = .returned (.slice p.ad p.len p.cap) ∧ Hid (p.l = l) ∧ Hid (Own w' w.heap.size (.slice p.ad p.len p.cap) l) ∧ Hid (p.ok w') ∧ Below w.heap.size w w' := fun w' v ho hb => by
    obtain ⟨p, rfl, h1, h2⟩ := Part.of_own ho
    exact ⟨p, rfl, h1, ho, h2, hb⟩
  have hnil := fun W => _root_.Go.run_eql_slice_nil (P := Tryz.prog) W 28 5 a n c Tryz.underlying28
  have HF : Hid (∀ (w' : World) (v : Value), Own w' w.heap.size v l → Below w.heap.size w w' → ∃ p : Part, Ending.returned v = .returned (.slice p.ad p.len p.cap) ∧ Hid (p.l = l) ∧ Hid (Own w' w.heap.size (.slice p.ad p.len p.cap) l) ∧ Hid (p.ok w') ∧ Below w.heap.size w w') := fin
  clear fin
  have HA : Hid (Part.ok w ⟨a, n, c, l⟩) := ha
  clear ha
  cases a with
  | none =>
    obtain ⟨h1, h2, h3⟩ := HA.out
    obtain ⟨e1, e2⟩ := h2 rfl
    simp only at e1 e2 h1
    subst e1 e2
    have hl : l = [] := List.eq_nil_of_length_eq_zero h1
    clear h1 h2 h3
    subst hl
    go_enter Tryz.func50, Tryz.ntmps50
    go_wp2
    go_ret
    exact HF.out w _ (Own.nil _ _) (Below.refl _ _)
  | some a =>
    have b0 : Below w.heap.size w (w.alloc (.cells #[] 5)) := (Below.refl _ _).alloc (Nat.le_refl _) _
    have HB : Hid (Below w.heap.size w (w.alloc (.cells #[] 5))) := b0
    clear b0
    go_enter Tryz.func50, Tryz.ntmps50
    go_wp2_with (at_builtin; refine app_any rfl _ _ rfl w.heap.size (.slice (some ⟨w.heap.size, 0, none⟩) 0 0) 0 [] rfl (empty_own w w.heap.size (Nat.le_refl _)) (some a) n c l rfl HA.out.1 HA.out.2.1 (HA.out.2.2.later HB.out) (by omega) (by simp) ?_; intro v1 w1 hown1 hg1; have b1 := HB.out.grown hg1 (by simp) (by intro k hk; simp [Value.ownBlock] at hk; omega); simp only [Nat.zero_add, List.nil_append] at hown1; clear hg1)
    go_ret
    refine HF.out w1 v1 ⟨HA.out.2.2.1, ?_⟩ b1
    have := HA.out.1
    simp only at this
    rw [this]
    exact hown1
set_option maxRecDepth 100000 in
theorem count_any (n : Nat) (w : World) (hn : n ≤ 1000000000) : Calls Tryz.prog 109 #[.int .i64 (n : Int)] w fun e w' => e = .returned (.int .i64 (partsN n : Nat)) ∧ w' = w := by
  have e1 : (partsN n : Int) = ((n : Int) + 240 - 1) / 240 := by unfold partsN; omega
  go_enter Tryz.func109, Tryz.ntmps109
  go_wp2
  go_ret
  exact ⟨ret_int e1.symm, rfl⟩
set_option maxRecDepth 100000 in
theorem blocks_any (e : Ent) (ad : Option Addr) (len cap : Nat) (hl : e.data.length = len) (w : World) (hn : len ≤ 100000000) : Calls Tryz.prog 86 #[entV e.kind e.loglet e.pos ad len cap] w fun x w' => x = .returned (.int .i64 (e.parts : Nat)) ∧ Below w.heap.size w w' := by
  have HE : Hid (e.parts = partsN (13 + len)) := (show _ = _ by unfold Ent.parts; rw [hl])
  have hc := fun W => count_any (13 + len) W (by omega)
  have e1 : ((13 + len : Nat) : Int) = 13 + (len : Int) := by omega
  simp only [e1] at hc
  unfold entV
  go_enter Tryz.func86, Tryz.ntmps86
  go_wp2_with (go_at_call 109; refine (hc _).mono ?_; rintro x w' ⟨rfl, hw'⟩; obtain rfl := hw'.symm)
  go_ret
  exact ⟨ret_int (by rw [HE.out]), (Below.refl _ _).alloc (Nat.le_refl _) _⟩
set_option maxRecDepth 100000 in
theorem parts_any (p number : Nat) (ad : Option Addr) (len cap : Nat) (w : World) : Calls Tryz.prog 87 #[.int .i64 (p : Int), .int .i64 (number : Int), .slice ad len cap] w fun e w' =>
    e = .returned (.func (.func 110) #[] #[.pointer (some ⟨w.heap.size + 2, 0, none⟩), .pointer (some ⟨w.heap.size, 0, none⟩), .pointer (some ⟨w.heap.size + 1, 0, none⟩)]) ∧ w' = ((w.alloc (.cells #[.int .i64 (p : Int)] 3)).alloc (.cells #[.int .i64 (number : Int)] 3)).alloc (.cells #[.slice ad len cap] 28) := by
  go_enter Tryz.func87, Tryz.ntmps87
  go_wp2
  go_ret
  exact ⟨rfl, rfl⟩
set_option maxRecDepth 100000 in
theorem leftovers_any (q : Option Addr) (w : World) : Calls Tryz.prog 46 #[.pointer q] w fun e w' =>
    e = .returned (.func (.func 83) #[] #[.pointer (some ⟨w.heap.size, 0, none⟩)]) ∧ w' = w.alloc (.cells #[.pointer q] 33) := by
  go_enter Tryz.func46, Tryz.ntmps46
  go_wp2
  go_ret
  exact ⟨rfl, rfl⟩
end Go.Proofs.YtikomnbhmmjfnaaGreat
