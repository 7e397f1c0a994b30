/- The walk of the statement WireSums: it returns true at every input, and writes nothing that was there. -/
import Derived.Test.YthfildanpcmfaaaLent
import Derived.Test.YthfildanpcmfaaaRefSum
namespace Go.Proofs.Ythfildanpcmfaaa
open Go.RowKit Crcm

/-- The place that the statement picks. -/
theorem place_eq (k : Int) (len : Nat) (h : 0 < len) (hl : len ≤ 140737488351232) : ∃ j : Nat, j < len ∧ (wrap64 (k.tmod len + len)).tmod len = (j : Int) := by
  have h3 := Int.lt_tmod_of_pos k (show (0 : Int) < len by omega)
  have h4 := Int.tmod_lt_of_pos k (show (0 : Int) < len by omega)
  have e : wrap64 (k.tmod len + len) = k.tmod len + len := by
    generalize k.tmod len = q at *
    simp [wrap64]; omega
  rw [e]
  have h1 := Int.tmod_lt_of_pos (k.tmod len + len) (show (0 : Int) < len by omega)
  have h0 : 0 ≤ (k.tmod len + len).tmod len := Int.tmod_nonneg _ (by omega)
  exact ⟨((k.tmod len + len).tmod len).toNat, by omega, by omega⟩

theorem set_split (l : List Nat) (j s : Nat) (h : j < l.length) : l = l.take j ++ l.getD j 0 :: l.drop (j + 1) ∧ l.set j s = l.take j ++ s :: l.drop (j + 1) := by
  refine ⟨?_, List.set_eq_take_append_cons_drop .. |>.trans (by rw [if_pos h])⟩
  rw [List.getD_eq_getElem?_getD, List.getElem?_eq_getElem h]
  simp

theorem crc_set (l : List Nat) (j s : Nat) (hl : ∀ x ∈ l, x < 256) (h : j < l.length) (hs : s < 256) (hne : s ≠ l.getD j 0) : crc (l.set j s) ≠ crc l := by
  intro e
  obtain ⟨e1, e2⟩ := set_split l j s h
  have e3 : crc (l.take j ++ s :: l.drop (j + 1)) = crc (l.take j ++ l.getD j 0 :: l.drop (j + 1)) := by rw [← e2, ← e1]; exact e
  exact hne (crc_turned _ _ _ _ (take_mem hl j) (fun x hx => hl x (List.mem_of_mem_drop hx)) hs (getD_lt hl j) e3)

theorem byte_xor (b x : Nat) (hb : b < 256) (hx : x < 256) (h0 : x ≠ 0) : ∃ s : Nat, s < 256 ∧ bits .xor .u8 (b : Int) (x : Int) = (s : Int) ∧ s ≠ b := by
  refine ⟨b ^^^ x, Nat.xor_lt_two_pow (n := 8) hb hx, u8_xor_nat b x hb hx, ?_⟩
  intro e
  have := congrArg (b ^^^ ·) e
  simp [← Nat.xor_assoc] at this
  exact h0 this

set_option maxHeartbeats 1000000 in
theorem sums_walk (ad : Option Addr) (len cap : Nat) (l : List Nat) (k : Int) (x : Nat) (w : World) (hp : Part.ok w ⟨ad, len, cap, l⟩) (hlc : len ≤ cap) (hr : cap ≤ 140737488351232) (hx : x < 256) :
    Calls Try.prog 8 #[.slice ad len cap, .int .i64 k, .int .u8 x] w fun e w' => e = .returned (.bool true) ∧ Below w.heap.size w w' := by
  have HP : Hid (Part.ok w ⟨ad, len, cap, l⟩) := hp
  have HL : Hid (l.length = len) := hp.1
  clear hp
  go_enter Try.func8, Try.ntmps8
  go_wp2_with fail
  refine (lent_any ad len cap l _ HP.out (by omega)).mono ?_
  rintro e w1 ⟨g, c, rfl, hc1, hc2, own1, b1⟩
  have ok1 : Hid (Part.ok w1 ⟨some ⟨g, 0, none⟩, len, c, l⟩) := own1.cut HL.out (by simp [HL.out])
  clear own1
  go_wp2_with fail
  refine (crc_any _ len c l _ HL.out (by unfold maxLen; omega) ok1.out.2.2).mono ?_
  rintro e w2 ⟨rfl, b2⟩
  have b12 : Below w.heap.size w w2 := b1.trans (b2.mono b1.size)
  clear ok1 b1 b2
  go_wp2_with fail
  refine (refCrc_any ad len cap l _ HL.out (by unfold maxLen; omega) (HP.out.later b12).2.2).mono ?_
  rintro e w3 ⟨rfl, rfl⟩
  go_wp2_with fail
  refine (knows_any _).mono ?_
  rintro e w4 ⟨rfl, b4⟩
  have b14 : Below w.heap.size w w4 := b12.trans (b4.mono b12.size)
  clear b12 b4
  by_cases h0 : len = 0
  · have z : ((len : Int) == 0) = true := by simp [h0]
    clear h0
    go_wp2
    go_ret
    exact ⟨rfl, b14⟩
  · have z : ((len : Int) == 0) = false := by simp; omega
    by_cases hx0 : x = 0
    · have y : ((x : Int) == 0) = true := by simp [hx0]
      clear hx0
      go_wp2
      go_ret
      exact ⟨rfl, b14⟩
    · have y : ((x : Int) == 0) = false := by simp; omega
      obtain ⟨j, hj, ej⟩ := place_eq k len (by omega) (by omega)
      obtain ⟨y0, hy0⟩ : ∃ y0, y0 = l.getD j 0 := ⟨_, rfl⟩
      obtain ⟨s, hs, es, hne⟩ := byte_xor y0 x (by rw [hy0]; exact getD_lt HP.out.2.2.1 j) hx hx0
      have HC : Hid (crc (l.set j s) ≠ crc l) := crc_set l j s HP.out.2.2.1 (by rw [HL.out]; exact hj) hs (by rw [← hy0]; exact hne)
      have hcc : (((crc (l.set j s) : Nat) : Int) != ((crc l : Nat) : Int)) = true := by
        rw [bne_iff_ne]; have := HC.out; omega
      have HY : Hid (y0 = l.getD j 0) := hy0
      clear hx0 hne hy0 HC
      have b5 : Below w4.heap.size w4 (w4.alloc (.cells #[] 5)) := (Below.refl _ _).alloc (Nat.le_refl _) _
      have HP4 : Hid (Part.ok (w4.alloc (.cells #[] 5)) ⟨ad, len, cap, l⟩) := (HP.out.later b14).later b5
      go_wp2_with (at_builtin; refine app_any rfl _ _ rfl w4.heap.size (.slice (some ⟨w4.heap.size, 0, none⟩) 0 0) 0 [] rfl (empty_own w4 w4.heap.size (Nat.le_refl _)) ad len cap l rfl HL.out HP4.out.2.1 HP4.out.2.2 (by omega) (by simp) ?_; intro v1 w5 hown1 hg1; have b6 := b5.grown hg1 (by simp) (by intro k hk; simp [Value.ownBlock] at hk; omega); simp only [Nat.zero_add, List.nil_append] at hown1; clear hg1; obtain ⟨g5, c5, rfl, -, -⟩ := hown1.form (by omega); have hcj : w5.cell? ⟨g5, j, none⟩ = some (.int .u8 (y0 : Int)) := (by rw [hown1.cellAt j (by omega), HY.out, List.getElem?_map, List.getD_eq_getElem?_getD, List.getElem?_eq_getElem (by rw [HL.out]; exact hj)]; rfl); have hfj := hown1.frozenAt j; obtain ⟨hr1, hr2⟩ := own_room hown1)
      have hst := hown1.stored j (bv s)
      have b7 : Below w.heap.size w (w5.setCell ⟨g5, j, none⟩ (bv s)) := (b14.trans (b6.mono b14.size)).setCell (by
        have := (hown1.lt g5 rfl).1
        have := b14.size
        show w.heap.size ≤ g5
        omega) _
      have own2 : Hid (Own (w5.setCell ⟨g5, j, none⟩ (bv s)) w4.heap.size (.slice (some ⟨g5, 0, none⟩) len c5) (l.set j s)) := by
        refine ⟨?_, ?_⟩
        · intro y hy
          rcases List.mem_or_eq_of_mem_set hy with h | h
          · exact HP.out.2.2.1 y h
          · omega
        · rw [List.length_set, HL.out, List.map_set]; exact hst.1
      clear hst hown1 b6 b5 HP4
      obtain ⟨ad2, c2, e2, ok2, -⟩ := own2.out.slice len (by rw [List.length_set, HL.out])
      cases e2
      have OK2 : Hid (Part.ok (w5.setCell ⟨g5, j, none⟩ (bv s)) ⟨some ⟨g5, 0, none⟩, len, c5, l.set j s⟩) := ok2
      clear ok2 own2
      refine (crc_any _ len c5 (l.set j s) _ (by rw [List.length_set, HL.out]) (by unfold maxLen; omega) OK2.out.2.2).mono ?_
      rintro e w6 ⟨rfl, b8⟩
      go_wp2
      go_ret
      exact ⟨rfl, b7.trans (b8.mono b7.size)⟩
end Go.Proofs.Ythfildanpcmfaaa
