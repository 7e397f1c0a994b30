/- put of package chain. -/
import Derived.Test.YthadagpfmacemaaCPart
import Derived.Test.YthadagpfmacemaaPut
namespace Go.Proofs.Ythadagpfmacemaa
open Go.RowKit
variable {w w' : World} {ad : Option Addr} {m c base s : Nat} {ns : List Int} {v : Value} {L : List Nat}

/-- Numbers of s bytes each. -/
def putsN (s : Nat) (ns : List Int) : List Nat := ns.flatMap (fun x => spellN x.toNat s)
theorem putsN_snoc (s : Nat) (ns : List Int) (x : Int) : putsN s (ns ++ [x]) = putsN s ns ++ spellN x.toNat s := by unfold putsN; simp
theorem putsN_length (s : Nat) (ns : List Int) : (putsN s ns).length = ns.length * s := by
  induction ns with
  | nil => simp [putsN]
  | cons x ns ih => unfold putsN at *; rw [List.flatMap_cons, List.length_append, ih, spellN_length, List.length_cons, Nat.add_mul]; omega
theorem putsN_lt (s : Nat) (ns : List Int) : ∀ x ∈ putsN s ns, x < 256 := by
  intro x hx
  unfold putsN at hx
  obtain ⟨y, -, hy⟩ := List.mem_flatMap.1 hx
  exact spellN_lt _ _ x hy
theorem take_succI (l : List Int) (j : Nat) (h : j < l.length) : l.take (j + 1) = l.take j ++ [l.getD j 0] := by
  rw [List.take_add_one, List.getD_eq_getElem?_getD, List.getElem?_eq_getElem h]; rfl
/-- Bytes in memory of the call's own. -/
def OwnB (w : World) (base : Nat) (v : Value) (L : List Nat) : Prop := w.ownsRow base 5 1 v L.length (L.map bv)
/-- Nothing but bytes from base on was changed. -/
structure KeepU (base : Nat) (w w' : World) : Prop where
  below : Below base w w'
  typed : ∀ (g : Nat) (cs : Array Value) (T : TypeId), w.heap[g]? = some (.cells cs T) → T ≠ 5 → w'.heap[g]? = some (.cells cs T)
theorem KeepU.refl (base : Nat) (w : World) : KeepU base w w := ⟨Below.refl _ _, fun _ _ _ h _ => h⟩
theorem KeepU.trans {w'' : World} (h : KeepU base w w') (h' : KeepU base w' w'') : KeepU base w w'' := ⟨h.below.trans h'.below, fun g cs T hg hT => h'.typed g cs T (h.typed g cs T hg hT) hT⟩
theorem KeepU.of (h : Below w.heap.size w w') (hb : base ≤ w.heap.size) : KeepU base w w' := ⟨h.mono hb, fun g cs T hg _ => by
  have hlt : g < w.heap.size := by
    rcases Nat.lt_or_ge g w.heap.size with hlt | hge
    · exact hlt
    · rw [Array.getElem?_eq_none hge] at hg; cases hg
  rw [h.block g hlt]; exact hg⟩
theorem KeepU.grown {n : Nat} {xs : List Value} (ho : w.ownsRow base 5 1 v n xs) (hg : w.grownBy w' v.ownBlock) (hb : base ≤ w.heap.size) : KeepU base w w' := by
  refine ⟨grown_below hg (fun g e => owns_base ho g e) hb, fun g cs T h hT => ?_⟩
  have hlt : g < w.heap.size := by
    rcases Nat.lt_or_ge g w.heap.size with hlt | hge
    · exact hlt
    · rw [Array.getElem?_eq_none hge] at h; cases h
  rw [hg.block g hlt (fun e => typed_ne ho (show Blk w g cs T from h) hT (by rw [← e]; simp))]
  exact h
theorem Blk.keepU {g : Nat} {cs : Array Value} {T : TypeId} (h : Blk w g cs T) (hk : KeepU base w w') (hT : T ≠ 5) : Blk w' g cs T := hk.typed g cs T h hT
/-- put in its midst. -/
structure PutW (w : World) (base s : Nat) (L : List Nat) (ns : List Int) (j : Nat) (v : Value) (W : World) : Prop where
  own : OwnB W base v (L ++ putsN s (ns.take j))
  keep : KeepU base w W
set_option maxRecDepth 100000 in
set_option maxHeartbeats 2000000 in
theorem cput_any (h : OwnB w base v L) (hb : base ≤ w.heap.size) (hx : ∀ W, KeepU base w W → Ints W ns ad m c) (h1 : 1 ≤ s) (h6 : s ≤ 6) (hr : ∀ x ∈ ns, 0 ≤ x ∧ x < 2 ^ (8 * s)) (hL : L.length + m * s ≤ 1000000) :
    Calls Try.prog 56 #[v, .int .i64 (s : Int), .slice ad m c] w fun e w' => ∃ v', e = .returned v' ∧ Hid (OwnB w' base v' (L ++ putsN s ns) ∧ KeepU base w w') := by
  have hl := (hx w (KeepU.refl _ _)).len
  have hm : m ≤ 9223372036854775807 := by have := (hx w (KeepU.refl _ _)).cap; have := (hx w (KeepU.refl _ _)).room; unfold maxLen at this; omega
  have HX := hid hx
  have HW0 : Hid (PutW w base s L ns 0 v w) := hid ⟨by simpa [putsN] using h, KeepU.refl _ _⟩
  have HR := hid hr
  clear h hx hr
  go_enter Try.func56, Try.ntmps56
  go_wp2_with fail
  go_loopw [0, 13] (fun v' i wr => ∃ j : Nat, j ≤ m ∧ i = .int .i64 j ∧ Hid (PutW w base s L ns j v' wr)) (fun _ i _ => m - (intOf i).toNat)
  case atStart => exact ⟨0, by omega, rfl, HW0⟩
  case round =>
    obtain ⟨j, hj, rfl, HW⟩ := hrel
    clear HW0
    by_cases hlt : j < m
    · have hlti : decide ((j : Int) < (m : Int)) = true := by simp; omega
      obtain ⟨adu, nu, cu, rfl⟩ := owns_slice' HW.out.own
      have hxr := HX.out wr HW.out.keep
      obtain ⟨b, off, rfl, -, hc⟩ := hxr.row.resolve_left (by omega)
      have r0 := hc j hlt
      have hjl : j < ns.length := by omega
      have hmem : ns.getD j 0 ∈ ns := by rw [List.getD_eq_getElem?_getD, List.getElem?_eq_getElem hjl]; exact List.getElem_mem hjl
      have hrng := HR.out _ hmem
      have hpn : putN (ns.getD j 0) (s : Int) = (0, spellN (ns.getD j 0).toNat s) := by
        have := putN_ok (ns.getD j 0).toNat s h1 h6 (by have := hrng.2; have h0 := hrng.1; have e : (((ns.getD j 0).toNat : Nat) : Int) = ns.getD j 0 := Int.toNat_of_nonneg h0; rw [← e] at this; exact_mod_cast this)
        rw [Int.toNat_of_nonneg hrng.1] at this
        exact this
      have HPU : Hid (Calls Try.prog 67 #[.int .i64 (ns.getD j 0), .int .i64 (s : Int)] wr fun e w' => ∃ ad' c', e = .returned (.tuple #[.slice ad' s c', .int .i64 0]) ∧ Hid (Part.ok w' ⟨ad', s, c', spellN (ns.getD j 0).toNat s⟩ ∧ Below wr.heap.size wr w')) := hid ((put_any (ns.getD j 0) s wr).mono (fun e w' h => by
        obtain ⟨vv, rfl, ho, hb⟩ := h
        rw [hpn] at ho ⊢
        obtain ⟨ad', c', rfl, hok, -⟩ := ho.slice s (spellN_length _ _)
        exact ⟨ad', c', rfl, hid ⟨hok, hb⟩⟩))
      have HLE : Hid ((L ++ putsN s (ns.take j)).length = L.length + j * s ∧ j * s + s ≤ m * s) := hid (by
        refine ⟨by rw [List.length_append, putsN_length, List.length_take, Nat.min_eq_left (by omega)], ?_⟩
        have : (j + 1) * s ≤ m * s := Nat.mul_le_mul_right s (by omega)
        rw [Nat.add_mul] at this
        omega)
      have HNX : Hid (∀ (w2 w3 : World) (v3 : Value), Below wr.heap.size wr w2 → w3.ownsRow base 5 1 v3 ((L ++ putsN s (ns.take j)).length + s) (((L ++ putsN s (ns.take j)) ++ spellN (ns.getD j 0).toNat s).map bv) → w2.grownBy w3 (Value.slice adu nu cu).ownBlock → PutW w base s L ns (j + 1) v3 w3) := hid (fun w2 w3 v3 hb2 r1 r2 => by
        have hbw : base ≤ wr.heap.size := Nat.le_trans hb HW.out.keep.below.size
        have k2 : KeepU base w w2 := HW.out.keep.trans (KeepU.of hb2 hbw)
        refine ⟨?_, k2.trans (KeepU.grown (own_kept HW.out.own hb2) r2 (Nat.le_trans hbw hb2.size))⟩
        rw [take_succI ns j hjl, putsN_snoc, ← List.append_assoc]
        unfold OwnB
        have e : ((L ++ putsN s (ns.take j)) ++ spellN (ns.getD j 0).toNat s).length = (L ++ putsN s (ns.take j)).length + s := by rw [List.length_append, spellN_length]
        rw [e]
        exact r1)
      clear hc hxr hmem hrng hpn
      generalize ns.getD j 0 = y at *
      go_wp2_with first
        | (go_at_call 67; refine HPU.out.mono ?_; rintro e w2 ⟨ad', c', rfl, hh⟩)
        | (go_at_call 31; refine (insist_ok _ _).mono ?_; rintro e w3 ⟨rfl, hw3⟩; obtain rfl := hw3.symm)
        | (at_builtin; refine app_any rfl _ _ rfl base (.slice adu nu cu) _ (L ++ putsN s (ns.take j)) rfl (own_kept HW.out.own hh.out.2) ad' s c' (spellN y.toNat s) rfl (spellN_length _ _) hh.out.1.2.1 hh.out.1.2.2 (by have := HLE.out.1; have := HLE.out.2; omega) (by have := hh.out.2.size; have := HW.out.keep.below.size; omega) ?_; intro v3 w3 r1 r2; have HN3 := hid (HNX.out w2 w3 v3 hh.out.2 r1 r2); clear r1 r2)
      exact ⟨⟨j + 1, by omega, by go_num, HN3⟩, by simp [intOf]; omega⟩
    · obtain rfl : j = m := by omega
      have hlti : decide ((j : Int) < (j : Int)) = false := by simp
      go_wp2_with fail
      go_ret
      exact ⟨_, rfl, hid ⟨by have := HW.out.own; rwa [List.take_of_length_le (by omega)] at this, HW.out.keep⟩⟩
end Go.Proofs.Ythadagpfmacemaa
