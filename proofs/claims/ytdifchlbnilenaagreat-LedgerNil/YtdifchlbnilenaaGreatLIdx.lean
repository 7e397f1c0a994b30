/- slices.IndexFunc and ContainsFunc of a ledger's slices, over what the closure tells (by genlidx.py). -/
import Derived.Test.YtdifchlbnilenaaGreatLDel
import Derived.Test.YtdifchlbnilenaaGreatPEnt
import Derived.WalkLawsBesides
namespace Go.Proofs.YtdifchlbnilenaaGreat
open Go.RowKit Go.Shelf
variable {w w' : World} {ad : Option Addr} {m c : Nat}

def en0 : En × Value := (⟨0, 0, 0, []⟩, .slice none 0 0)
abbrev kEn : Kd (En × Value) := ⟨TEn, TEns, 4, 48, fun x => enL x.1 x.2, en0, .agg #[.int .i64 0, .int .i64 0, .int .i64 0, .slice none 0 0]⟩
theorem kEn_fit : kEn.fit := ⟨fun a => rfl, by decide⟩
theorem getD_mem_any {α : Type} (l : List α) (z : α) (j : Nat) (h : j < l.length) : l.getD j z ∈ l := by
  rw [List.getD_eq_getElem?_getD, List.getElem?_eq_getElem h]
  exact List.getElem_mem h
set_option maxHeartbeats 1000000 in
theorem indexTxn {l : List Tx} (gc : Nat) (p : Tx → Bool) (h : ArgK kTx w l ad m c) (hp : ∀ W, Below w.heap.size w W → ∀ j, j < m → Calls Tryz.prog 137 #[.agg #[.int .i64 (l.getD j tx0).prod, .int .i64 (l.getD j tx0).first], .pointer (some ⟨gc, 0, none⟩)] W fun e w' => e = .returned (.bool (p (l.getD j tx0))) ∧ Below W.heap.size W w') :
    Calls Tryz.prog 136 #[.slice ad m c, .func (.func 137) #[] #[.pointer (some ⟨gc, 0, none⟩)]] w fun e w' => e = .returned (.int .i64 (idxI p l)) ∧ Below w.heap.size w w' := by
  have H := hid h
  have HPp := hid hp
  have hm : m ≤ 9223372036854775807 := by have := h.cap; have := h.room; unfold maxLen at this; omega
  clear h hp
  go_enter Tryz.func136, Tryz.ntmps136
  go_wp2_with fail
  go_loopw [8] (fun i wr => ∃ j : Nat, j ≤ m ∧ i = .int .i64 j ∧ Hid (∀ i, i < j → p (l.getD i tx0) = false) ∧ Hid (Below w.heap.size w wr)) (fun i _ => m - (intOf i).toNat)
  case atStart => exact ⟨0, by omega, rfl, (fun i hi => by omega), Below.refl _ _⟩
  case round =>
    obtain ⟨j, hj, rfl, HT, HB⟩ := hrel
    by_cases hlt : j < m
    · have H2 := H.out.later HB.out
      obtain ⟨b, off, rfl, hs, hc⟩ := H2.cells (by omega)
      have r0 : wr.cell? ⟨b, off + j * 2, none⟩ = some (.int .i64 (l.getD j tx0).prod) := hc j hlt 0 (by decide)
      have r1 : wr.cell? ⟨b, off + j * 2 + 1, none⟩ = some (.int .i64 (l.getD j tx0).first) := hc j hlt 1 (by decide)
      have HL : Hid (j < l.length) := by rw [H.out.len]; exact hlt
      have HC := HPp.out wr HB.out j hlt
      have HN : Hid (p (l.getD j tx0) = false → ∀ i, i < j + 1 → p (l.getD i tx0) = false) := fun hn i hi => by
        by_cases e : i = j
        · rw [e]; exact hn
        · exact HT.out i (by omega)
      have HO : Hid (p (l.getD j tx0) = true → idxI p l = (j : Int)) := fun hn => by unfold idxI; rw [idx_hit HT.out HL.out hn]
      clear hc hs H2
      generalize l.getD j tx0 = y at *
      cases hpy : p y with
      | true =>
        rw [hpy] at HC
        have HO2 := hid (HO.out hpy)
        clear hpy HN HO
        go_wp2_with (go_at_call 137; refine HC.mono ?_; rintro e w1 ⟨rfl, hb⟩)
        go_ret
        exact ⟨by rw [HO2.out]; rfl, HB.out.trans (hb.mono HB.out.size)⟩
      | false =>
        rw [hpy] at HC
        have HN2 := hid (HN.out hpy)
        clear hpy HN HO
        go_wp2_with (go_at_call 137; refine HC.mono ?_; rintro e w1 ⟨rfl, hb⟩; have HB2 := hid (HB.out.trans (hb.mono HB.out.size)); clear hb)
        refine ⟨⟨j + 1, by omega, by go_num, HN2, HB2⟩, by simp [intOf]; omega⟩
    · obtain rfl : j = m := by omega
      go_wp2_with fail
      go_ret
      exact ⟨by unfold idxI; rw [idx_none (z := tx0) (fun i hi => HT.out i (by rw [← H.out.len]; exact hi))]; rfl, HB.out⟩
set_option maxHeartbeats 1000000 in
theorem indexGone {l : List Gn} (gc : Nat) (p : Gn → Bool) (h : ArgK kGn w l ad m c) (hp : ∀ W, Below w.heap.size w W → ∀ j, j < m → Calls Tryz.prog 130 #[.agg #[.int .i64 (l.getD j gn0).prod, .int .i64 (l.getD j gn0).first, .int .i64 (l.getD j gn0).last], .pointer (some ⟨gc, 0, none⟩)] W fun e w' => e = .returned (.bool (p (l.getD j gn0))) ∧ Below W.heap.size W w') :
    Calls Tryz.prog 162 #[.slice ad m c, .func (.func 130) #[] #[.pointer (some ⟨gc, 0, none⟩)]] w fun e w' => e = .returned (.int .i64 (idxI p l)) ∧ Below w.heap.size w w' := by
  have H := hid h
  have HPp := hid hp
  have hm : m ≤ 9223372036854775807 := by have := h.cap; have := h.room; unfold maxLen at this; omega
  clear h hp
  go_enter Tryz.func162, Tryz.ntmps162
  go_wp2_with fail
  go_loopw [8] (fun i wr => ∃ j : Nat, j ≤ m ∧ i = .int .i64 j ∧ Hid (∀ i, i < j → p (l.getD i gn0) = false) ∧ Hid (Below w.heap.size w wr)) (fun i _ => m - (intOf i).toNat)
  case atStart => exact ⟨0, by omega, rfl, (fun i hi => by omega), Below.refl _ _⟩
  case round =>
    obtain ⟨j, hj, rfl, HT, HB⟩ := hrel
    by_cases hlt : j < m
    · have H2 := H.out.later HB.out
      obtain ⟨b, off, rfl, hs, hc⟩ := H2.cells (by omega)
      have r0 : wr.cell? ⟨b, off + j * 3, none⟩ = some (.int .i64 (l.getD j gn0).prod) := hc j hlt 0 (by decide)
      have r1 : wr.cell? ⟨b, off + j * 3 + 1, none⟩ = some (.int .i64 (l.getD j gn0).first) := hc j hlt 1 (by decide)
      have r2 : wr.cell? ⟨b, off + j * 3 + 2, none⟩ = some (.int .i64 (l.getD j gn0).last) := hc j hlt 2 (by decide)
      have HL : Hid (j < l.length) := by rw [H.out.len]; exact hlt
      have HC := HPp.out wr HB.out j hlt
      have HN : Hid (p (l.getD j gn0) = false → ∀ i, i < j + 1 → p (l.getD i gn0) = false) := fun hn i hi => by
        by_cases e : i = j
        · rw [e]; exact hn
        · exact HT.out i (by omega)
      have HO : Hid (p (l.getD j gn0) = true → idxI p l = (j : Int)) := fun hn => by unfold idxI; rw [idx_hit HT.out HL.out hn]
      clear hc hs H2
      generalize l.getD j gn0 = y at *
      cases hpy : p y with
      | true =>
        rw [hpy] at HC
        have HO2 := hid (HO.out hpy)
        clear hpy HN HO
        go_wp2_with (go_at_call 130; refine HC.mono ?_; rintro e w1 ⟨rfl, hb⟩)
        go_ret
        exact ⟨by rw [HO2.out]; rfl, HB.out.trans (hb.mono HB.out.size)⟩
      | false =>
        rw [hpy] at HC
        have HN2 := hid (HN.out hpy)
        clear hpy HN HO
        go_wp2_with (go_at_call 130; refine HC.mono ?_; rintro e w1 ⟨rfl, hb⟩; have HB2 := hid (HB.out.trans (hb.mono HB.out.size)); clear hb)
        refine ⟨⟨j + 1, by omega, by go_num, HN2, HB2⟩, by simp [intOf]; omega⟩
    · obtain rfl : j = m := by omega
      go_wp2_with fail
      go_ret
      exact ⟨by unfold idxI; rw [idx_none (z := gn0) (fun i hi => HT.out i (by rw [← H.out.len]; exact hi))]; rfl, HB.out⟩
theorem containsGone {l : List Gn} (gc : Nat) (p : Gn → Bool) (h : ArgK kGn w l ad m c) (hp : ∀ W, Below w.heap.size w W → ∀ j, j < m → Calls Tryz.prog 130 #[.agg #[.int .i64 (l.getD j gn0).prod, .int .i64 (l.getD j gn0).first, .int .i64 (l.getD j gn0).last], .pointer (some ⟨gc, 0, none⟩)] W fun e w' => e = .returned (.bool (p (l.getD j gn0))) ∧ Below W.heap.size W w') :
    Calls Tryz.prog 129 #[.slice ad m c, .func (.func 130) #[] #[.pointer (some ⟨gc, 0, none⟩)]] w fun e w' => e = .returned (.bool (l.any p)) ∧ Below w.heap.size w w' := by
  have HC := indexGone gc p h hp
  have HE := hid (idxI_ge p l)
  clear h hp
  generalize idxI p l = q at *
  go_enter Tryz.func129, Tryz.ntmps129
  go_wp2_with (go_at_call 162; refine HC.mono ?_; rintro e w1 ⟨rfl, hb⟩)
  go_ret
  exact ⟨by rw [← HE.out]; first | rfl | simp, hb⟩
set_option maxHeartbeats 1000000 in
theorem indexEntry {l : List (En × Value)} (gc gd : Nat) (p : (En × Value) → Bool) (h : ArgK kEn w l ad m c) (hsh : ∀ x ∈ l, ∃ a b c, x.2 = .slice a b c) (hp : ∀ W, Below w.heap.size w W → ∀ j, j < m → Calls Tryz.prog 140 #[.agg #[.int .i64 (l.getD j en0).1.p, .int .i64 (l.getD j en0).1.e, .int .i64 (l.getD j en0).1.n, (l.getD j en0).2], .pointer (some ⟨gc, 0, none⟩), .pointer (some ⟨gd, 0, none⟩)] W fun e w' => e = .returned (.bool (p (l.getD j en0))) ∧ Below W.heap.size W w') :
    Calls Tryz.prog 164 #[.slice ad m c, .func (.func 140) #[] #[.pointer (some ⟨gc, 0, none⟩), .pointer (some ⟨gd, 0, none⟩)]] w fun e w' => e = .returned (.int .i64 (idxI p l)) ∧ Below w.heap.size w w' := by
  have H := hid h
  have HPp := hid hp
  have HSh := hid hsh
  clear hsh
  have hm : m ≤ 9223372036854775807 := by have := h.cap; have := h.room; unfold maxLen at this; omega
  clear h hp
  go_enter Tryz.func164, Tryz.ntmps164
  go_wp2_with fail
  go_loopw [8] (fun i wr => ∃ j : Nat, j ≤ m ∧ i = .int .i64 j ∧ Hid (∀ i, i < j → p (l.getD i en0) = false) ∧ Hid (Below w.heap.size w wr)) (fun i _ => m - (intOf i).toNat)
  case atStart => exact ⟨0, by omega, rfl, (fun i hi => by omega), Below.refl _ _⟩
  case round =>
    obtain ⟨j, hj, rfl, HT, HB⟩ := hrel
    by_cases hlt : j < m
    · have H2 := H.out.later HB.out
      obtain ⟨b, off, rfl, hs, hc⟩ := H2.cells (by omega)
      have r0 : wr.cell? ⟨b, off + j * 4, none⟩ = some (.int .i64 (l.getD j en0).1.p) := hc j hlt 0 (by decide)
      have r1 : wr.cell? ⟨b, off + j * 4 + 1, none⟩ = some (.int .i64 (l.getD j en0).1.e) := hc j hlt 1 (by decide)
      have r2 : wr.cell? ⟨b, off + j * 4 + 2, none⟩ = some (.int .i64 (l.getD j en0).1.n) := hc j hlt 2 (by decide)
      have r3 : wr.cell? ⟨b, off + j * 4 + 3, none⟩ = some ((l.getD j en0).2) := hc j hlt 3 (by decide)
      have HL : Hid (j < l.length) := by rw [H.out.len]; exact hlt
      have HC := HPp.out wr HB.out j hlt
      have HN : Hid (p (l.getD j en0) = false → ∀ i, i < j + 1 → p (l.getD i en0) = false) := fun hn i hi => by
        by_cases e : i = j
        · rw [e]; exact hn
        · exact HT.out i (by omega)
      have HO : Hid (p (l.getD j en0) = true → idxI p l = (j : Int)) := fun hn => by unfold idxI; rw [idx_hit HT.out HL.out hn]
      obtain ⟨sa, sb, sc, hsl⟩ := HSh.out _ (getD_mem_any l en0 j HL.out)
      rw [hsl] at r3 HC
      clear hsl
      clear hc hs H2
      generalize l.getD j en0 = y at *
      cases hpy : p y with
      | true =>
        rw [hpy] at HC
        have HO2 := hid (HO.out hpy)
        clear hpy HN HO
        go_wp2_with (go_at_call 140; refine HC.mono ?_; rintro e w1 ⟨rfl, hb⟩)
        go_ret
        exact ⟨by rw [HO2.out]; rfl, HB.out.trans (hb.mono HB.out.size)⟩
      | false =>
        rw [hpy] at HC
        have HN2 := hid (HN.out hpy)
        clear hpy HN HO
        go_wp2_with (go_at_call 140; refine HC.mono ?_; rintro e w1 ⟨rfl, hb⟩; have HB2 := hid (HB.out.trans (hb.mono HB.out.size)); clear hb)
        refine ⟨⟨j + 1, by omega, by go_num, HN2, HB2⟩, by simp [intOf]; omega⟩
    · obtain rfl : j = m := by omega
      go_wp2_with fail
      go_ret
      exact ⟨by unfold idxI; rw [idx_none (z := en0) (fun i hi => HT.out i (by rw [← H.out.len]; exact hi))]; rfl, HB.out⟩
theorem containsEntry {l : List (En × Value)} (gc gd : Nat) (p : (En × Value) → Bool) (h : ArgK kEn w l ad m c) (hsh : ∀ x ∈ l, ∃ a b c, x.2 = .slice a b c) (hp : ∀ W, Below w.heap.size w W → ∀ j, j < m → Calls Tryz.prog 140 #[.agg #[.int .i64 (l.getD j en0).1.p, .int .i64 (l.getD j en0).1.e, .int .i64 (l.getD j en0).1.n, (l.getD j en0).2], .pointer (some ⟨gc, 0, none⟩), .pointer (some ⟨gd, 0, none⟩)] W fun e w' => e = .returned (.bool (p (l.getD j en0))) ∧ Below W.heap.size W w') :
    Calls Tryz.prog 138 #[.slice ad m c, .func (.func 140) #[] #[.pointer (some ⟨gc, 0, none⟩), .pointer (some ⟨gd, 0, none⟩)]] w fun e w' => e = .returned (.bool (l.any p)) ∧ Below w.heap.size w w' := by
  have HC := indexEntry gc gd p h hsh hp
  have HE := hid (idxI_ge p l)
  clear h hp
  generalize idxI p l = q at *
  go_enter Tryz.func138, Tryz.ntmps138
  go_wp2_with (go_at_call 164; refine HC.mono ?_; rintro e w1 ⟨rfl, hb⟩)
  go_ret
  exact ⟨by rw [← HE.out]; first | rfl | simp, hb⟩
end Go.Proofs.YtdifchlbnilenaaGreat
