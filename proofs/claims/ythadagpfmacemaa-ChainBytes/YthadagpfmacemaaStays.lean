/- How a slice of bytes that came in is read; small rows of the call's own. -/
import Derived.Test.YthadagpfmacemaaCTrim
import Derived.ProofKit
import Derived.SizedLaws
namespace Go.Proofs.Ythadagpfmacemaa
open Go.RowKit
open Go.ChangeShapes Go.WideShapes Go.ChangeAt

theorem Try.bytes5 : Try.prog.bytesOf 5 = 1 := by kernel_rfl
theorem u8_wf {n : Int} (h : (Lit.int .u8 n).wf = true) : 0 ≤ n ∧ n < 256 := by
  simp [Lit.wf, IntKind.min, IntKind.max, IntKind.signed, IntKind.bits] at h
  omega
theorem u32_wf {n : Int} (h : (Lit.int .u32 n).wf = true) : 0 ≤ n ∧ n < 4294967296 := by
  simp [Lit.wf, IntKind.min, IntKind.max, IntKind.signed, IntKind.bits] at h
  omega
theorem i64_wf {n : Int} (h : (Lit.int .i64 n).wf = true) : -9223372036854775808 ≤ n ∧ n ≤ 9223372036854775807 := by
  simp [Lit.wf, IntKind.min, IntKind.max, IntKind.signed, IntKind.bits] at h
  omega
theorem open_bytes {H : Type} {enc : TypeId × Value → H} {W : World} {a : Option Addr} {len cap : Nat} {d : DataW H} {p : List MemPlace}
    (h : DataW.Trod enc Try.prog W 0 (fun _ => true) true 25 (.slice a len cap) d p)
    (hd : ∀ elems spare, d = .slice elems spare → elems.length + spare.length ≤ 140737488351232) :
    ∃ l, Part.ok W ⟨a, len, cap, l⟩ ∧ len ≤ cap ∧ cap ≤ 140737488351232 := by
  obtain ⟨fuel, hf⟩ := h
  rcases open_ints Try.underlying25 Try.underlying5 (by kernel_rfl) hf with ⟨hcs, hx⟩ | ⟨x, l, c, zs, hcs, _, hl, hm, hz, hx, hcell, hwz⟩
  · simp [Value.cells] at hcs
    obtain ⟨rfl, rfl, rfl⟩ := hcs
    exact ⟨[], ⟨rfl, fun _ => ⟨rfl, rfl⟩, fun _ h => (by cases h), Or.inl rfl⟩, by omega, by omega⟩
  · simp [Value.cells] at hcs
    obtain ⟨rfl, rfl, rfl⟩ := hcs
    simp only [if_true] at hz
    simp only [Prod.mk.injEq] at hx
    have hs := hd _ _ hx.1
    simp only [lits, List.length_map, List.length_take, List.length_drop] at hs
    have hw : ∀ n ∈ zs, 0 ≤ n ∧ n < 256 := fun n hn => u8_wf (hwz n hn)
    refine ⟨(zs.take len).map Int.toNat, ⟨by simp; omega, fun e => (by cases e), ?_, ?_⟩, hl, by omega⟩
    · intro y hy
      obtain ⟨z, hz, rfl⟩ := List.mem_map.1 hy
      have := hw z (List.mem_of_mem_take hz)
      omega
    · by_cases h0 : len = 0
      · subst h0; exact Or.inl (by simp)
      · right
        obtain ⟨b, off, spot⟩ := x
        have hc0 := hcell 0 (by omega)
        have hspot : spot = none := by simpa [Addr.add] using World.cell?_spot hc0
        subst hspot
        have hb : b < W.heap.size := by
          rcases Nat.lt_or_ge b W.heap.size with h | h
          · exact h
          · simp [Addr.add, World.cell?, Array.getElem?_eq_none h] at hc0
        refine ⟨b, off, rfl, hb, ?_⟩
        intro i hi
        simp only [List.length_map, List.length_take] at hi
        have e := hcell i (by omega)
        rw [addr_add] at e
        rw [e]
        have hiz : i < zs.length := by omega
        have := hw _ (List.getElem_mem hiz)
        simp only [List.getD_eq_getElem?_getD, List.getElem?_map, List.getElem?_take, List.getElem?_eq_getElem hiz, if_pos (show i < len by omega), Option.map_some, Option.getD_some]
        congr 2
        omega
theorem marks_row (w : World) : Row (w.alloc (.cells #[.int .u8 201, .int .u8 202] 5)) (some ⟨w.heap.size, 0, none⟩) [201, 202] := by
  refine ⟨by decide, Or.inr ⟨w.heap.size, 0, rfl, by simp, ?_⟩⟩
  intro i hi
  have hi' : i < 2 := hi
  rw [cell_of_row _ w.heap.size _ _ 5 (0, 0) (heap_alloc_new w _)]
  rcases (show i = 0 ∨ i = 1 by omega) with rfl | rfl <;> rfl
theorem own_lt {l : List Nat} (h : ∀ x ∈ l, x < 256) : ∀ x ∈ l ++ [201, 202], x < 256 := by
  intro x hx
  simp at hx
  rcases hx with hx | hx | hx
  · exact h x hx
  · omega
  · omega
end Go.Proofs.Ythadagpfmacemaa

/- What the statements' helper Lent answers: a copy with two marked bytes behind it. -/
namespace Go.Proofs.Ythadagpfmacemaa
open Go.RowKit

set_option maxHeartbeats 400000 in
theorem lent_any (ad : Option Addr) (len cap : Nat) (l : List Nat) (w : World) (hp : Part.ok w ⟨ad, len, cap, l⟩) (hr : len ≤ 140737488351232) :
    Calls Try.prog 8 #[.slice ad len cap] w fun e w' => ∃ g c, e = .returned (.slice (some ⟨g, 0, none⟩) len c) ∧ len + 2 ≤ c ∧ c ≤ maxLen ∧ Own w' w.heap.size (.slice (some ⟨g, 0, none⟩) (len + 2) c) (l ++ [201, 202]) ∧ Below w.heap.size w w' := by
  obtain ⟨h1, h2, h3⟩ := hp
  simp only at h1 h2 h3
  have HL : Hid (l.length = len) := h1
  have H2 : Hid (ad = none → len = 0 ∧ cap = 0) := h2
  have H3 : Hid (Row w ad l) := h3
  clear h1 h2 h3
  go_enter Try.func8, Try.ntmps8
  have b0 : Below w.heap.size w (w.alloc (.cells #[] 5)) := (Below.refl _ _).alloc (Nat.le_refl _) _
  go_wp2_with (first | (at_builtin; refine app_any rfl (.tmp 4) (.tmp 5) rfl w.heap.size (.slice (some ⟨w.heap.size, 0, none⟩) 0 0) 0 [] rfl (empty_own w w.heap.size (Nat.le_refl _)) ad len cap l rfl HL.out H2.out (H3.out.later b0) (by omega) (by simp) ?_; intro v1 w1 hown1 hg1; have s1 := hg1.size; have b1 := b0.grown hg1 (by simp) (by intro k hk; simp [Value.ownBlock] at hk; omega); simp only [Nat.zero_add, List.nil_append] at hown1; clear hg1) | (at_builtin; refine app_any rfl (.tmp 7) (.tmp 8) rfl w.heap.size v1 len l rfl (hown1.alloc _) (some ⟨w1.heap.size, 0, none⟩) 2 2 [201, 202] rfl rfl (by intro e; cases e) (marks_row _) (by omega) (by have := b1.size; simp; omega) ?_; intro v2 w2 hown2 hg2; have b2 := (b1.alloc b1.size _).grown hg2 (by have := b1.size; simp; omega) (fun k hk => (hown1.lt k hk).1); obtain ⟨g, c, rfl, -, -⟩ := hown2.form (by omega); obtain ⟨hc1, hc2⟩ := own_room hown2; clear hg2 hown1))
  go_ret
  exact ⟨g, c, rfl, hc1, hc2, ⟨own_lt H3.out.1, by simpa [HL.out] using hown2⟩, b2⟩
end Go.Proofs.Ythadagpfmacemaa

/- What the statements' helper Stays answers of bytes that were lent and not written: true. -/
namespace Go.Proofs.Ythadagpfmacemaa
open Go.RowKit

set_option maxHeartbeats 1000000 in
theorem stays_any (g c : Nat) (ad : Option Addr) (len cap base : Nat) (l : List Nat) (w : World) (hc : len + 2 ≤ c) (hr : len ≤ 140737488351232) (hown : Own w base (.slice (some ⟨g, 0, none⟩) (len + 2) c) (l ++ [201, 202])) (hp : Part.ok w ⟨ad, len, cap, l⟩) :
    Calls Try.prog 17 #[.slice (some ⟨g, 0, none⟩) len c, .slice ad len cap] w fun e w' => e = .returned (.bool true) ∧ Below w.heap.size w w' := by
  have hlen : l.length = len := hp.1
  have k1 := conv_drewN (hown.cut (n := len) hlen (by simp [hlen])).2.2 len c hlen
  have k2 := conv_drewN hp.2.2 len cap hlen
  have h2 := hown.2
  have hl2 : (l ++ [201, 202]).length = len + 2 := by simp [hlen]
  rw [hl2] at h2
  have m1 : w.cell? ⟨g, len, none⟩ = some (.int .u8 201) := by
    rw [h2.cellAt len (by omega), List.getElem?_map, List.getElem?_append_right (by omega), hlen, Nat.sub_self]; rfl
  have m2 : w.cell? ⟨g, len + 1, none⟩ = some (.int .u8 202) := by
    rw [h2.cellAt (len + 1) (by omega), List.getElem?_map, List.getElem?_append_right (by omega), hlen, show len + 1 - len = 1 by omega]; rfl
  clear hown h2 hp hl2
  go_enter Try.func17, Try.ntmps17
  go_wp2
  go_quiet (fail)
  go_wp2
  go_ret
  exact ⟨rfl, below_drewN' (Below.refl _ _) _⟩
end Go.Proofs.Ythadagpfmacemaa
