/- slices.Clone of bytes; Read of package disk. -/
import Derived.Test.YtofpojfkooigiaaDRead
namespace Go.Proofs.Ytofpojfkooigiaa
open Go.RowKit
variable {w : World} {F : List Nat} {D B M : Nat} {Dm : DataW Value} {V C : Nat → Nat} {s : DSt}

set_option maxRecDepth 100000 in
set_option maxHeartbeats 1000000 in
theorem clone_any (b off n c : Nat) (l : List Nat) (w : World) (hp : Part.ok w ⟨some ⟨b, off, none⟩, n, c, l⟩) (hn : n ≤ 281474976710656 / 4) :
    Calls Try.prog 37 #[.slice (some ⟨b, off, none⟩) n c] w fun e w' => ∃ v, e = .returned v ∧ Own w' w.heap.size v l ∧ Below w.heap.size w w' := by
  have HP : Hid (Part.ok w ⟨some ⟨b, off, none⟩, n, c, l⟩) := hp
  clear hp
  have HO : Hid ((w.alloc (.cells #[] 5)).ownsRow w.heap.size 5 1 (.slice (some ⟨w.heap.size, 0, none⟩) 0 0) 0 (([] : List Nat).map bv)) :=
    (show Hid _ from ⟨by simp, Or.inr ⟨w.heap.size, 0, #[], rfl, Nat.le_refl _, heap_alloc_last _ _, by omega, by unfold maxLen; omega, by simp, by simp⟩⟩)
  have q : ∀ w, (binOp .eql 32 (.slice (some ⟨b, off, none⟩) n c) (.slice none 0 0)).run Try.prog w = .ok (.bool false) w := fun w => Lib.run_eql_slice_nil w _ _ _ n c 0 0 Try.underlying32
  go_enter Try.func37, Try.ntmps37
  go_wp2_with (at_builtin; refine app_any rfl _ _ rfl w.heap.size _ 0 [] rfl HO.out (some ⟨b, off, none⟩) n c l rfl HP.out.1 (by intro h; cases h) (HP.out.later ((Below.refl _ w).alloc (Nat.le_refl _) _)).2.2 (by omega) (by simp) ?_; intro v w1 hown hg)
  go_ret
  refine ⟨v, rfl, ⟨HP.out.2.2.1, by simpa [HP.out.1] using hown⟩, ?_⟩
  exact ((Below.refl w.heap.size w).alloc (Nat.le_refl _) _).grown hg (by simp) (fun k hk => by cases hk; exact Nat.le_refl _)
/-- The present text, as it is loaded. -/
theorem nowV_of {x : DBlock} : nowV x = match x.now with
    | some t => t.map bv ++ [Value.bool false]
    | none => z256 ++ [Value.bool true] := by
  unfold nowV DBlock.now durV
  by_cases h : x.vs = []
  · rw [if_pos h, if_pos h]
    cases x.dur <;> rfl
  · rw [if_neg h, if_neg h]
    cases hq : x.vs.getLast? with
    | none => exact absurd (List.getLast?_eq_none_iff.1 hq) h
    | some l => rw [List.getLastD_eq_getLast?, hq]; rfl
theorem now_ok {s : DSt} (h : s.ok) {x : DBlock} (hx : x ∈ s.bs) {t : List Nat} (ht : x.now = some t) : t.length = 256 ∧ ∀ y ∈ t, y < 256 := by
  unfold DBlock.now at ht
  split at ht
  · exact h.dur x hx t ht
  · exact h.vs x hx t (getLast_mem ht)
theorem text_row (w : World) (t : List Nat) (b : Value) (ht : t.length = 256 ∧ ∀ y ∈ t, y < 256) : Part.ok (w.alloc (.cells (t.map bv ++ [b]).toArray TD)) ⟨some ⟨w.heap.size, 0, none⟩, 256, 256, t⟩ := by
  refine ⟨ht.1, fun h => (by cases h), ht.2, Or.inr ⟨w.heap.size, 0, rfl, by simp, fun i hi => ?_⟩⟩
  have hi : i < t.length := hi
  show _ = some (Value.int .u8 (t.getD i 0 : Nat))
  rw [cell_of_row _ _ _ _ _ _ (heap_alloc_last _ _), List.getElem?_toArray, List.getElem?_append_left (by rw [List.length_map]; omega), List.getElem?_map, Nat.zero_add, List.getElem?_eq_getElem hi, List.getD_eq_getElem?_getD, List.getElem?_eq_getElem hi]
  rfl
theorem flag_cell (w : World) (l : List Value) (b : Value) (hl : l.length = 256) : (w.alloc (.cells (l ++ [b]).toArray TD)).cell? ⟨w.heap.size, 256, none⟩ = some b := by
  rw [cell_of_row _ _ _ _ _ _ (heap_alloc_last _ _), List.getElem?_toArray, List.getElem?_append_right (by omega), hl]
  rfl
theorem one_of {l : List Value} (h : ∀ v ∈ l, v.oneCell' = true) (b : Bool) : ∀ v ∈ l ++ [Value.bool b], v.oneCell' = true := fun v hv => by
  rcases List.mem_append.1 hv with h1 | h1
  · exact h v h1
  · simp at h1; rw [h1]; rfl
set_option maxRecDepth 100000 in
set_option maxHeartbeats 1000000 in
theorem read_pic (h : Pic w F D B M Dm V C s) (i : Int) : Calls Try.prog 16 #[.pointer (some ⟨D, 0, none⟩), .int .i64 i] w fun x w' => ∃ v, x = .returned (.tuple #[v, .int .i64 (readD s i).2]) ∧ Own w' w.heap.size v (readD s i).1 ∧ Below w.heap.size w w' := by
  obtain ⟨-, -, c2, -⟩ := h.cells
  have hh := has_pic h i
  unfold readD
  by_cases hi : s.has i = true
  · rw [hi] at hh
    obtain ⟨j, hj⟩ : ∃ j : Nat, i = j := ⟨i.toNat, by have := (has_lt hi).1; omega⟩
    subst hj
    have hlt : j < s.bs.length := by have := (has_lt hi).2; omega
    rw [if_pos hi]
    have hp := present_pic h j hlt
    have HP : Hid (Pic w F D B M Dm V C s) := h
    clear h
    cases hoff : s.off with
    | true =>
      rw [hoff] at c2
      go_enter Try.func16, Try.ntmps16
      go_wp2_with (go_at_call 35; refine hh.mono ?_; rintro e w' ⟨rfl, hw'⟩; obtain rfl := hw'.symm)
      go_ret2
      exact ⟨_, rfl, Own.nil _ _, Below.refl _ _⟩
    | false =>
      rw [hoff] at c2
      simp only [Bool.false_eq_true, if_false, Int.toNat_natCast]
      cases hnow : (s.at j).now with
      | none =>
        rw [nowV_of, hnow] at hp
        simp only at hp ⊢
        go_enter Try.func16, Try.ntmps16
        go_wp2_with (first
          | (go_at_call 35; refine hh.mono ?_; rintro e w' ⟨rfl, hw'⟩; obtain rfl := hw'.symm)
          | (go_at_call 36; refine hp.mono ?_; rintro e w1 ⟨rfl, b1⟩; have B1 : Hid (Below w.heap.size w w1) := b1; clear b1; have cf := flag_cell w1 z256 (.bool true) z256_len)
          | (refine store_new (w0 := w1) rfl TD _ _ rfl (z256 ++ [Value.bool true]) (by rw [List.length_append, z256_len]; exact sizeD) rfl rfl TD Try.zeroCells73 rfl (by rw [List.length_append, z256_len, zcD]; simp [z256_len]) (one_of z256_one _) ?_))
        go_ret2
        exact ⟨_, rfl, Own.nil _ _, B1.out.alloc B1.out.size _⟩
      | some t =>
        have ht := now_ok HP.out.ok (at_mem hlt) hnow
        have HT : Hid (t.length = 256 ∧ ∀ y ∈ t, y < 256) := ht
        have h256 : (t.map bv).length = 256 := by rw [List.length_map]; exact ht.1
        clear ht
        rw [nowV_of, hnow] at hp
        simp only at hp ⊢
        go_enter Try.func16, Try.ntmps16
        go_wp2_with (first
          | (go_at_call 35; refine hh.mono ?_; rintro e w' ⟨rfl, hw'⟩; obtain rfl := hw'.symm)
          | (go_at_call 36; refine hp.mono ?_; rintro e w1 ⟨rfl, b1⟩; have B1 : Hid (Below w.heap.size w w1) := b1; clear b1; have cf := flag_cell w1 (t.map bv) (.bool false) h256)
          | (refine store_new (w0 := w1) rfl TD _ _ rfl (t.map bv ++ [Value.bool false]) (by rw [List.length_append, h256]; exact sizeD) rfl rfl TD Try.zeroCells73 rfl (by rw [List.length_append, h256, zcD]; simp [z256_len]) (one_of (verV_one t) _) ?_)
          | (go_at_call 37; refine (clone_any w1.heap.size 0 256 256 t _ (text_row w1 t (.bool false) HT.out) (by omega)).mono ?_; rintro e w2 ⟨v, rfl, ho, b2⟩))
        go_ret2
        have b3 := B1.out.alloc B1.out.size (.cells (t.map bv ++ [Value.bool false]).toArray TD)
        exact ⟨v, rfl, ho.down b3.size, b3.trans (b2.mono b3.size)⟩
  · have hi2 : s.has i = false := by simpa using hi
    rw [hi2] at hh
    rw [if_neg hi]
    go_enter Try.func16, Try.ntmps16
    go_wp2_with (go_at_call 35; refine hh.mono ?_; rintro e w' ⟨rfl, hw'⟩; obtain rfl := hw'.symm)
    go_ret2
    exact ⟨_, rfl, Own.nil _ _, Below.refl _ _⟩
end Go.Proofs.Ytofpojfkooigiaa
