/- What the statements' helper Lent answers: a copy with two marked bytes behind it. What the statements' helper Stays answers of bytes that were lent and not written: true. -/
import Derived.Test.YtgihmkgbkffgbaaGreatPZOpen
namespace Go.Proofs.YtgihmkgbkffgbaaGreat
open Go.RowKit

set_option maxHeartbeats 400000 in
theorem lent_any (ad : Option Addr) (len cap : Nat) (l : List Nat) (w : World) (hp : Part.ok w ⟨ad, len, cap, l⟩) (hr : len ≤ 140737488351232) :
    Calls Tryz.prog 10 #[.slice ad len cap] w fun e w' => ∃ g c, e = .returned (.slice (some ⟨g, 0, none⟩) len c) ∧ len + 2 ≤ c ∧ c ≤ maxLen ∧ Own w' w.heap.size (.slice (some ⟨g, 0, none⟩) (len + 2) c) (l ++ [201, 202]) ∧ Below w.heap.size w w' := by
  obtain ⟨h1, h2, h3⟩ := hp
  simp only at h1 h2 h3
  have HL : Hid (l.length = len) := h1
  have H2 : Hid (ad = none → len = 0 ∧ cap = 0) := h2
  have H3 : Hid (Row w ad l) := h3
  clear h1 h2 h3
  go_enter Tryz.func10, Tryz.ntmps10
  have b0 : Below w.heap.size w (w.alloc (.cells #[] 5)) := (Below.refl _ _).alloc (Nat.le_refl _) _
  go_wp2_with (first | (at_builtin; refine app_any rfl (.tmp 4) (.tmp 5) rfl w.heap.size (.slice (some ⟨w.heap.size, 0, none⟩) 0 0) 0 [] rfl (empty_own w w.heap.size (Nat.le_refl _)) ad len cap l rfl HL.out H2.out (H3.out.later b0) (by omega) (by simp) ?_; intro v1 w1 hown1 hg1; have s1 := hg1.size; have b1 := b0.grown hg1 (by simp) (by intro k hk; simp [Value.ownBlock] at hk; omega); simp only [Nat.zero_add, List.nil_append] at hown1; clear hg1) | (at_builtin; refine app_any rfl (.tmp 7) (.tmp 8) rfl w.heap.size v1 len l rfl (hown1.alloc _) (some ⟨w1.heap.size, 0, none⟩) 2 2 [201, 202] rfl rfl (by intro e; cases e) (marks_row _) (by omega) (by have := b1.size; simp; omega) ?_; intro v2 w2 hown2 hg2; have b2 := (b1.alloc b1.size _).grown hg2 (by have := b1.size; simp; omega) (fun k hk => (hown1.lt k hk).1); obtain ⟨g, c, rfl, -, -⟩ := hown2.form (by omega); obtain ⟨hc1, hc2⟩ := own_room hown2; clear hg2 hown1))
  go_ret
  exact ⟨g, c, rfl, hc1, hc2, ⟨own_lt H3.out.1, by simpa [HL.out] using hown2⟩, b2⟩
end Go.Proofs.YtgihmkgbkffgbaaGreat
namespace Go.Proofs.YtgihmkgbkffgbaaGreat
open Go.RowKit

set_option maxHeartbeats 1000000 in
theorem stays_any (g c : Nat) (ad : Option Addr) (len cap base : Nat) (l : List Nat) (w : World) (hc : len + 2 ≤ c) (hr : len ≤ 140737488351232) (hown : Own w base (.slice (some ⟨g, 0, none⟩) (len + 2) c) (l ++ [201, 202])) (hp : Part.ok w ⟨ad, len, cap, l⟩) :
    Calls Tryz.prog 14 #[.slice (some ⟨g, 0, none⟩) len c, .slice ad len cap] w fun e w' => e = .returned (.bool true) ∧ Below w.heap.size w w' := by
  have hlen : l.length = len := hp.1
  have k1 := conv_drewN (hown.cut (n := len) hlen (by simp [hlen])).2.2 len c hlen
  have k2 := conv_drewN hp.2.2 len cap hlen
  have h2 := hown.2
  have hl2 : (l ++ [201, 202]).length = len + 2 := by simp [hlen]
  rw [hl2] at h2
  have m1 : w.cell? ⟨g, len, none⟩ = some (.int .u8 201) := by
    rw [h2.cellAt len (by omega), List.getElem?_map, List.getElem?_append_right (by omega), hlen, Nat.sub_self]; rfl
  have m2 : w.cell? ⟨g, len + 1, none⟩ = some (.int .u8 202) := by
    rw [h2.cellAt (len + 1) (by omega), List.getElem?_map, List.getElem?_append_right (by omega), hlen, show len + 1 - len = 1 by omega]; rfl
  clear hown h2 hp hl2
  go_enter Tryz.func14, Tryz.ntmps14
  go_wp2
  go_quiet (fail)
  go_wp2
  go_ret
  exact ⟨rfl, below_drewN' (Below.refl _ _) _⟩
end Go.Proofs.YtgihmkgbkffgbaaGreat
