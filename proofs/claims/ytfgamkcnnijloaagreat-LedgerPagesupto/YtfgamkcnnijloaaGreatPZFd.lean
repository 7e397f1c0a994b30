/- slices.IndexFunc and ContainsFunc of a ledger's slices, over what the closure tells (by genlidx.py). findOpen of a ledger; whether its table knows a producer with an epoch. mayBe of package ledger: an entry that may be (by the script that wrote it: nested cases on the conditions). decideBatch of a ledger: what it takes for granted (by genldec.py). -/
import Derived.Test.YtfgamkcnnijloaaGreatPZMem
import Derived.Test.YtfgamkcnnijloaaGreatPZEn
import Derived.WalkLawsBesides
import Derived.Test.YtfgamkcnnijloaaGreatPZSm
import Derived.Test.YtfgamkcnnijloaaGreatPZCheck
import Derived.Test.YtfgamkcnnijloaaGreatPZPM
import Derived.Test.YtfgamkcnnijloaaGreatPZBM
import Derived.Test.YtfgamkcnnijloaaGreatPZAsked
import Derived.Deep.RegionHeld3
import Derived.OrdersHeld
namespace Go.Proofs.YtfgamkcnnijloaaGreat
open Go.RowKit Go.Shelf
variable {w w' : World} {ad : Option Addr} {m c : Nat}

def en0 : En × Value := (⟨0, 0, 0, []⟩, .slice none 0 0)
abbrev kEn : Kd (En × Value) := ⟨TEn, TEns, 4, 48, fun x => enL x.1 x.2, en0, .agg #[.int .i64 0, .int .i64 0, .int .i64 0, .slice none 0 0]⟩
theorem kEn_fit : kEn.fit := ⟨fun a => rfl, by decide⟩
theorem getD_mem_any {α : Type} (l : List α) (z : α) (j : Nat) (h : j < l.length) : l.getD j z ∈ l := by
  rw [List.getD_eq_getElem?_getD, List.getElem?_eq_getElem h]
  exact List.getElem_mem h
set_option maxHeartbeats 1000000 in
theorem indexTxn {l : List Tx} (gc : Nat) (p : Tx → Bool) (h : ArgK kTx w l ad m c) (hp : ∀ W, Below w.heap.size w W → ∀ j, j < m → Calls Tryz.prog 74 #[.agg #[.int .i64 (l.getD j tx0).prod, .int .i64 (l.getD j tx0).first], .pointer (some ⟨gc, 0, none⟩)] W fun e w' => e = .returned (.bool (p (l.getD j tx0))) ∧ Below W.heap.size W w') :
    Calls Tryz.prog 73 #[.slice ad m c, .func (.func 74) #[] #[.pointer (some ⟨gc, 0, none⟩)]] w fun e w' => e = .returned (.int .i64 (idxI p l)) ∧ Below w.heap.size w w' := by
  have H := hid h
  have HPp := hid hp
  have hm : m ≤ 9223372036854775807 := by have := h.cap; have := h.room; unfold maxLen at this; omega
  clear h hp
  go_enter Tryz.func73, Tryz.ntmps73
  go_wp2_with fail
  go_loopw [8] (fun i wr => ∃ j : Nat, j ≤ m ∧ i = .int .i64 j ∧ Hid (∀ i, i < j → p (l.getD i tx0) = false) ∧ Hid (Below w.heap.size w wr)) (fun i _ => m - (intOf i).toNat)
  case atStart => exact ⟨0, by omega, rfl, (fun i hi => by omega), Below.refl _ _⟩
  case round =>
    obtain ⟨j, hj, rfl, HT, HB⟩ := hrel
    by_cases hlt : j < m
    · have H2 := H.out.later HB.out
      obtain ⟨b, off, rfl, hs, hc⟩ := H2.cells (by omega)
      have r0 : wr.cell? ⟨b, off + j * 2, none⟩ = some (.int .i64 (l.getD j tx0).prod) := hc j hlt 0 (by decide)
      have r1 : wr.cell? ⟨b, off + j * 2 + 1, none⟩ = some (.int .i64 (l.getD j tx0).first) := hc j hlt 1 (by decide)
      have HL : Hid (j < l.length) := by rw [H.out.len]; exact hlt
      have HC := HPp.out wr HB.out j hlt
      have HN : Hid (p (l.getD j tx0) = false → ∀ i, i < j + 1 → p (l.getD i tx0) = false) := fun hn i hi => by
        by_cases e : i = j
        · rw [e]; exact hn
        · exact HT.out i (by omega)
      have HO : Hid (p (l.getD j tx0) = true → idxI p l = (j : Int)) := fun hn => by unfold idxI; rw [idx_hit HT.out HL.out hn]
      clear hc hs H2
      generalize l.getD j tx0 = y at *
      cases hpy : p y with
      | true =>
        rw [hpy] at HC
        have HO2 := hid (HO.out hpy)
        clear hpy HN HO
        go_wp2_with (go_at_call 74; refine HC.mono ?_; rintro e w1 ⟨rfl, hb⟩)
        go_ret
        exact ⟨by rw [HO2.out]; rfl, HB.out.trans (hb.mono HB.out.size)⟩
      | false =>
        rw [hpy] at HC
        have HN2 := hid (HN.out hpy)
        clear hpy HN HO
        go_wp2_with (go_at_call 74; refine HC.mono ?_; rintro e w1 ⟨rfl, hb⟩; have HB2 := hid (HB.out.trans (hb.mono HB.out.size)); clear hb)
        refine ⟨⟨j + 1, by omega, by go_num, HN2, HB2⟩, by simp [intOf]; omega⟩
    · obtain rfl : j = m := by omega
      go_wp2_with fail
      go_ret
      exact ⟨by unfold idxI; rw [idx_none (z := tx0) (fun i hi => HT.out i (by rw [← H.out.len]; exact hi))]; rfl, HB.out⟩
set_option maxHeartbeats 1000000 in
theorem indexGone {l : List Gn} (gc : Nat) (p : Gn → Bool) (h : ArgK kGn w l ad m c) (hp : ∀ W, Below w.heap.size w W → ∀ j, j < m → Calls Tryz.prog 83 #[.agg #[.int .i64 (l.getD j gn0).prod, .int .i64 (l.getD j gn0).first, .int .i64 (l.getD j gn0).last], .pointer (some ⟨gc, 0, none⟩)] W fun e w' => e = .returned (.bool (p (l.getD j gn0))) ∧ Below W.heap.size W w') :
    Calls Tryz.prog 116 #[.slice ad m c, .func (.func 83) #[] #[.pointer (some ⟨gc, 0, none⟩)]] w fun e w' => e = .returned (.int .i64 (idxI p l)) ∧ Below w.heap.size w w' := by
  have H := hid h
  have HPp := hid hp
  have hm : m ≤ 9223372036854775807 := by have := h.cap; have := h.room; unfold maxLen at this; omega
  clear h hp
  go_enter Tryz.func116, Tryz.ntmps116
  go_wp2_with fail
  go_loopw [8] (fun i wr => ∃ j : Nat, j ≤ m ∧ i = .int .i64 j ∧ Hid (∀ i, i < j → p (l.getD i gn0) = false) ∧ Hid (Below w.heap.size w wr)) (fun i _ => m - (intOf i).toNat)
  case atStart => exact ⟨0, by omega, rfl, (fun i hi => by omega), Below.refl _ _⟩
  case round =>
    obtain ⟨j, hj, rfl, HT, HB⟩ := hrel
    by_cases hlt : j < m
    · have H2 := H.out.later HB.out
      obtain ⟨b, off, rfl, hs, hc⟩ := H2.cells (by omega)
      have r0 : wr.cell? ⟨b, off + j * 3, none⟩ = some (.int .i64 (l.getD j gn0).prod) := hc j hlt 0 (by decide)
      have r1 : wr.cell? ⟨b, off + j * 3 + 1, none⟩ = some (.int .i64 (l.getD j gn0).first) := hc j hlt 1 (by decide)
      have r2 : wr.cell? ⟨b, off + j * 3 + 2, none⟩ = some (.int .i64 (l.getD j gn0).last) := hc j hlt 2 (by decide)
      have HL : Hid (j < l.length) := by rw [H.out.len]; exact hlt
      have HC := HPp.out wr HB.out j hlt
      have HN : Hid (p (l.getD j gn0) = false → ∀ i, i < j + 1 → p (l.getD i gn0) = false) := fun hn i hi => by
        by_cases e : i = j
        · rw [e]; exact hn
        · exact HT.out i (by omega)
      have HO : Hid (p (l.getD j gn0) = true → idxI p l = (j : Int)) := fun hn => by unfold idxI; rw [idx_hit HT.out HL.out hn]
      clear hc hs H2
      generalize l.getD j gn0 = y at *
      cases hpy : p y with
      | true =>
        rw [hpy] at HC
        have HO2 := hid (HO.out hpy)
        clear hpy HN HO
        go_wp2_with (go_at_call 83; refine HC.mono ?_; rintro e w1 ⟨rfl, hb⟩)
        go_ret
        exact ⟨by rw [HO2.out]; rfl, HB.out.trans (hb.mono HB.out.size)⟩
      | false =>
        rw [hpy] at HC
        have HN2 := hid (HN.out hpy)
        clear hpy HN HO
        go_wp2_with (go_at_call 83; refine HC.mono ?_; rintro e w1 ⟨rfl, hb⟩; have HB2 := hid (HB.out.trans (hb.mono HB.out.size)); clear hb)
        refine ⟨⟨j + 1, by omega, by go_num, HN2, HB2⟩, by simp [intOf]; omega⟩
    · obtain rfl : j = m := by omega
      go_wp2_with fail
      go_ret
      exact ⟨by unfold idxI; rw [idx_none (z := gn0) (fun i hi => HT.out i (by rw [← H.out.len]; exact hi))]; rfl, HB.out⟩
theorem containsGone {l : List Gn} (gc : Nat) (p : Gn → Bool) (h : ArgK kGn w l ad m c) (hp : ∀ W, Below w.heap.size w W → ∀ j, j < m → Calls Tryz.prog 83 #[.agg #[.int .i64 (l.getD j gn0).prod, .int .i64 (l.getD j gn0).first, .int .i64 (l.getD j gn0).last], .pointer (some ⟨gc, 0, none⟩)] W fun e w' => e = .returned (.bool (p (l.getD j gn0))) ∧ Below W.heap.size W w') :
    Calls Tryz.prog 82 #[.slice ad m c, .func (.func 83) #[] #[.pointer (some ⟨gc, 0, none⟩)]] w fun e w' => e = .returned (.bool (l.any p)) ∧ Below w.heap.size w w' := by
  have HC := indexGone gc p h hp
  have HE := hid (idxI_ge p l)
  clear h hp
  generalize idxI p l = q at *
  go_enter Tryz.func82, Tryz.ntmps82
  go_wp2_with (go_at_call 116; refine HC.mono ?_; rintro e w1 ⟨rfl, hb⟩)
  go_ret
  exact ⟨by rw [← HE.out]; first | rfl | simp, hb⟩
set_option maxHeartbeats 1000000 in
theorem indexEntry {l : List (En × Value)} (gc gd : Nat) (p : (En × Value) → Bool) (h : ArgK kEn w l ad m c) (hsh : ∀ x ∈ l, ∃ a b c, x.2 = .slice a b c) (hp : ∀ W, Below w.heap.size w W → ∀ j, j < m → Calls Tryz.prog 77 #[.agg #[.int .i64 (l.getD j en0).1.p, .int .i64 (l.getD j en0).1.e, .int .i64 (l.getD j en0).1.n, (l.getD j en0).2], .pointer (some ⟨gc, 0, none⟩), .pointer (some ⟨gd, 0, none⟩)] W fun e w' => e = .returned (.bool (p (l.getD j en0))) ∧ Below W.heap.size W w') :
    Calls Tryz.prog 111 #[.slice ad m c, .func (.func 77) #[] #[.pointer (some ⟨gc, 0, none⟩), .pointer (some ⟨gd, 0, none⟩)]] w fun e w' => e = .returned (.int .i64 (idxI p l)) ∧ Below w.heap.size w w' := by
  have H := hid h
  have HPp := hid hp
  have HSh := hid hsh
  clear hsh
  have hm : m ≤ 9223372036854775807 := by have := h.cap; have := h.room; unfold maxLen at this; omega
  clear h hp
  go_enter Tryz.func111, Tryz.ntmps111
  go_wp2_with fail
  go_loopw [8] (fun i wr => ∃ j : Nat, j ≤ m ∧ i = .int .i64 j ∧ Hid (∀ i, i < j → p (l.getD i en0) = false) ∧ Hid (Below w.heap.size w wr)) (fun i _ => m - (intOf i).toNat)
  case atStart => exact ⟨0, by omega, rfl, (fun i hi => by omega), Below.refl _ _⟩
  case round =>
    obtain ⟨j, hj, rfl, HT, HB⟩ := hrel
    by_cases hlt : j < m
    · have H2 := H.out.later HB.out
      obtain ⟨b, off, rfl, hs, hc⟩ := H2.cells (by omega)
      have r0 : wr.cell? ⟨b, off + j * 4, none⟩ = some (.int .i64 (l.getD j en0).1.p) := hc j hlt 0 (by decide)
      have r1 : wr.cell? ⟨b, off + j * 4 + 1, none⟩ = some (.int .i64 (l.getD j en0).1.e) := hc j hlt 1 (by decide)
      have r2 : wr.cell? ⟨b, off + j * 4 + 2, none⟩ = some (.int .i64 (l.getD j en0).1.n) := hc j hlt 2 (by decide)
      have r3 : wr.cell? ⟨b, off + j * 4 + 3, none⟩ = some ((l.getD j en0).2) := hc j hlt 3 (by decide)
      have HL : Hid (j < l.length) := by rw [H.out.len]; exact hlt
      have HC := HPp.out wr HB.out j hlt
      have HN : Hid (p (l.getD j en0) = false → ∀ i, i < j + 1 → p (l.getD i en0) = false) := fun hn i hi => by
        by_cases e : i = j
        · rw [e]; exact hn
        · exact HT.out i (by omega)
      have HO : Hid (p (l.getD j en0) = true → idxI p l = (j : Int)) := fun hn => by unfold idxI; rw [idx_hit HT.out HL.out hn]
      obtain ⟨sa, sb, sc, hsl⟩ := HSh.out _ (getD_mem_any l en0 j HL.out)
      rw [hsl] at r3 HC
      clear hsl
      clear hc hs H2
      generalize l.getD j en0 = y at *
      cases hpy : p y with
      | true =>
        rw [hpy] at HC
        have HO2 := hid (HO.out hpy)
        clear hpy HN HO
        go_wp2_with (go_at_call 77; refine HC.mono ?_; rintro e w1 ⟨rfl, hb⟩)
        go_ret
        exact ⟨by rw [HO2.out]; rfl, HB.out.trans (hb.mono HB.out.size)⟩
      | false =>
        rw [hpy] at HC
        have HN2 := hid (HN.out hpy)
        clear hpy HN HO
        go_wp2_with (go_at_call 77; refine HC.mono ?_; rintro e w1 ⟨rfl, hb⟩; have HB2 := hid (HB.out.trans (hb.mono HB.out.size)); clear hb)
        refine ⟨⟨j + 1, by omega, by go_num, HN2, HB2⟩, by simp [intOf]; omega⟩
    · obtain rfl : j = m := by omega
      go_wp2_with fail
      go_ret
      exact ⟨by unfold idxI; rw [idx_none (z := en0) (fun i hi => HT.out i (by rw [← H.out.len]; exact hi))]; rfl, HB.out⟩
theorem containsEntry {l : List (En × Value)} (gc gd : Nat) (p : (En × Value) → Bool) (h : ArgK kEn w l ad m c) (hsh : ∀ x ∈ l, ∃ a b c, x.2 = .slice a b c) (hp : ∀ W, Below w.heap.size w W → ∀ j, j < m → Calls Tryz.prog 77 #[.agg #[.int .i64 (l.getD j en0).1.p, .int .i64 (l.getD j en0).1.e, .int .i64 (l.getD j en0).1.n, (l.getD j en0).2], .pointer (some ⟨gc, 0, none⟩), .pointer (some ⟨gd, 0, none⟩)] W fun e w' => e = .returned (.bool (p (l.getD j en0))) ∧ Below W.heap.size W w') :
    Calls Tryz.prog 75 #[.slice ad m c, .func (.func 77) #[] #[.pointer (some ⟨gc, 0, none⟩), .pointer (some ⟨gd, 0, none⟩)]] w fun e w' => e = .returned (.bool (l.any p)) ∧ Below w.heap.size w w' := by
  have HC := indexEntry gc gd p h hsh hp
  have HE := hid (idxI_ge p l)
  clear h hp
  generalize idxI p l = q at *
  go_enter Tryz.func75, Tryz.ntmps75
  go_wp2_with (go_at_call 111; refine HC.mono ?_; rintro e w1 ⟨rfl, hb⟩)
  go_ret
  exact ⟨by rw [← HE.out]; first | rfl | simp, hb⟩
end Go.Proofs.YtfgamkcnnijloaaGreat
namespace Go.Proofs.YtfgamkcnnijloaaGreat
open Go.RowKit Go.Shelf
variable {w w' : World} {L t M n N : Nat} {vr vo va : Value} {g : Lg}

theorem findOpen1_any (x y id : Int) (gc : Nat) (w : World) (hg : w.cell? ⟨gc, 0, none⟩ = some (.int .i64 id)) (hl : gc < w.heap.size) : Calls Tryz.prog 74 #[.agg #[.int .i64 x, .int .i64 y], .pointer (some ⟨gc, 0, none⟩)] w fun e w' => e = .returned (.bool (x == id)) ∧ Below w.heap.size w w' := by
  have b0 : Below w.heap.size w (w.alloc (.cells #[.int .i64 x, .int .i64 y] 82)) := (Below.refl _ _).alloc (Nat.le_refl _) _
  have hc := (b0.cell (p := ⟨gc, 0, none⟩) hl).trans hg
  clear hg
  go_enter Tryz.func74, Tryz.ntmps74
  go_wp2_with fail
  go_ret
  exact ⟨rfl, b0⟩
def opI (id : Int) (l : List Tx) : Int := idxI (fun t => t.prod == id) l
theorem opI_of (id : Int) (l : List Tx) : (opAt id l = none ∧ opI id l = -1) ∨ ∃ i : Nat, opAt id l = some i ∧ opI id l = (i : Int) ∧ i < l.length := by
  unfold opI idxI opAt
  cases h : idxN (fun t : Tx => t.prod == id) l with
  | none => exact Or.inl ⟨rfl, rfl⟩
  | some i => exact Or.inr ⟨i, rfl, rfl, idx_lt h⟩
theorem findOpen_any (h : LPic0 w L t M n N vr vo va g) (id : Int) : Calls Tryz.prog 46 #[.pointer (some ⟨L, 0, none⟩), .int .i64 id] w fun e w' => e = .returned (.tuple #[.int .i64 (opI id g.opn), .bool (decide (0 ≤ opI id g.opn))]) ∧ Below w.heap.size w w' := by
  have b0 : Below w.heap.size w (w.alloc (.cells #[.int .i64 id] 3)) := (Below.refl _ _).alloc (Nat.le_refl _) _
  obtain ⟨ao, co, hv, hA⟩ := h.opn.form kTx_ok.tofit
  have c4 := (h.later b0).c4
  have lL := h.lt
  rw [hv] at c4
  have HC := indexTxn w.heap.size (fun t => t.prod == id) (hA.later b0) (fun W hW j hj => findOpen1_any _ _ id w.heap.size W ((hW.cell (p := ⟨w.heap.size, 0, none⟩) (by simp)).trans (by simp [go_sem])) (Nat.lt_of_lt_of_le (by simp) hW.size))
  have hmf : ∀ (fn : Fn) (first cap : Array Value) (w : World), (Instr.makeFunc fn first cap).run Tryz.prog w = .ok (.func fn first cap) w := fun _ _ _ _ => rfl
  have HB := hid b0
  clear h hA hv b0
  change Calls _ _ _ _ (fun e w' => e = .returned (.int .i64 (opI id g.opn)) ∧ _) at HC
  generalize opI id g.opn = z at *
  generalize g.opn.length = m at *
  go_enter Tryz.func46, Tryz.ntmps46
  go_wp2_with (go_at_call 73; refine HC.mono ?_; rintro e w1 ⟨rfl, hb⟩; have HB1 := hid (HB.out.trans (hb.mono HB.out.size)); clear hb)
  refine bodyPost_ret (results_tmp2 Tryz.results46 _ _ _) rfl ⟨rfl, HB1.out⟩
theorem knows1_any (x y z id ep : Int) (sa : Option Addr) (sb sc : Nat) (gc gd : Nat) (w : World) (hg : w.cell? ⟨gc, 0, none⟩ = some (.int .i64 id)) (hd : w.cell? ⟨gd, 0, none⟩ = some (.int .i64 ep)) (hl : gc < w.heap.size) (hl2 : gd < w.heap.size) : Calls Tryz.prog 77 #[.agg #[.int .i64 x, .int .i64 y, .int .i64 z, .slice sa sb sc], .pointer (some ⟨gc, 0, none⟩), .pointer (some ⟨gd, 0, none⟩)] w fun e w' => e = .returned (.bool ((x == id) && (y == ep))) ∧ Below w.heap.size w w' := by
  have b0 : Below w.heap.size w (w.alloc (.cells #[.int .i64 x, .int .i64 y, .int .i64 z, .slice sa sb sc] TEn)) := (Below.refl _ _).alloc (Nat.le_refl _) _
  have hc := (b0.cell (p := ⟨gc, 0, none⟩) hl).trans hg
  have hc2 := (b0.cell (p := ⟨gd, 0, none⟩) hl2).trans hd
  clear hg hd
  cases hx : (x == id) with
  | false =>
    go_enter Tryz.func77, Tryz.ntmps77
    go_wp2_with fail
    go_ret
    exact ⟨rfl, b0⟩
  | true =>
    rw [Bool.true_and]
    have HX : Hid ((x == id) = true) := hx
    clear hx
    have hx' : x = id := by simpa using HX.out
    subst hx'
    go_enter Tryz.func77, Tryz.ntmps77
    go_wp2_with fail
    go_ret
    exact ⟨rfl, b0⟩
theorem known_keys {T : Tb} {ks : List Int} (hk : KeysT T ks) (p e : Int) : (ks.map (entOf T)).any (fun x => x.p == p && x.e == e) = knownT T p e := by
  unfold knownT
  rw [List.any_map]
  cases hT : T p with
  | none =>
    simp only
    rw [List.any_eq_false]
    intro q hq
    have h1 := (hk.mem q).1 hq
    simp only [Function.comp, entOf, Bool.and_eq_true, beq_iff_eq, not_and]
    rintro rfl
    rw [hT] at h1; cases h1
  | some s =>
    simp only
    have hg : T.get p = s := by unfold Tb.get; rw [hT]; rfl
    cases he : (s.epoch == e) with
    | true =>
      rw [List.any_eq_true]
      exact ⟨p, (hk.mem p).2 (by rw [hT]; rfl), by simp only [Function.comp, entOf, hg, he, Bool.and_true, beq_self_eq_true]⟩
    | false =>
      rw [List.any_eq_false]
      intro q _
      simp only [Function.comp, entOf, Bool.and_eq_true, beq_iff_eq, not_and]
      rintro rfl
      rw [hg]
      simpa using he
theorem any_fst {L : List (En × Value)} {l : List En} (h : L.map (·.1) = l) (p : En → Bool) : L.any (fun x => p x.1) = l.any p := by
  rw [← h, List.any_map]; rfl
theorem OwnD.shape {w : World} {base : Nat} {v : Value} {l : List Dn} (h : OwnD w base v l) : ∃ a b c, v = .slice a b c := by
  rcases h.2 with ⟨e, -⟩ | ⟨g, cap, cur, e, -⟩
  · exact ⟨_, _, _, e⟩
  · exact ⟨_, _, _, e⟩
theorem knows_contains {W : World} {base : Nat} {v : Value} {LL : List (En × Value)} {T : Tb} {ks : List Int} (hE : OwnE W base v LL) (hL : LL.map (·.1) = ks.map (entOf T)) (hks : KeysT T ks) (id ep : Int) (gc gd : Nat) (h1 : W.cell? ⟨gc, 0, none⟩ = some (.int .i64 id)) (h2 : W.cell? ⟨gd, 0, none⟩ = some (.int .i64 ep)) (l1 : gc < W.heap.size) (l2 : gd < W.heap.size) :
    ∃ a m c, v = .slice a m c ∧ Calls Tryz.prog 75 #[.slice a m c, .func (.func 77) #[] #[.pointer (some ⟨gc, 0, none⟩), .pointer (some ⟨gd, 0, none⟩)]] W fun e w' => e = .returned (.bool (knownT T id ep)) ∧ Below W.heap.size W w' := by
  obtain ⟨a, c, hv, hA⟩ := OwnK.form (K := kEn) kEn_fit hE.row
  have hsh : ∀ x ∈ LL, ∃ a b c, x.2 = .slice a b c := fun x hx => (hE.each x hx).shape
  have HC := containsEntry gc gd (fun x => x.1.p == id && x.1.e == ep) hA hsh (fun W' hW j hj => by
    obtain ⟨sa, sb, sc, hsl⟩ := hsh _ (getD_mem_any LL en0 j hj)
    rw [hsl]
    exact knows1_any _ _ _ id ep sa sb sc gc gd W' ((hW.cell (p := ⟨gc, 0, none⟩) l1).trans h1) ((hW.cell (p := ⟨gd, 0, none⟩) l2).trans h2) (Nat.lt_of_lt_of_le l1 hW.size) (Nat.lt_of_lt_of_le l2 hW.size))
  have e := any_fst hL (fun x => x.p == id && x.e == ep)
  rw [known_keys hks] at e
  rw [e] at HC
  exact ⟨a, _, c, hv, HC⟩
theorem knowsT_any {T : Tb} (h : TPic w t M n T) (hn : n + 1 ≤ 4000000000000) (id ep : Int) : Calls Tryz.prog 48 #[.agg #[.pointer (some ⟨t, 0, none⟩)], .int .i64 id, .int .i64 ep] w fun e w' => e = .returned (.bool (knownT T id ep)) ∧ Below w.heap.size w w' := by
  obtain ⟨-, ks, -, hks, -⟩ := h.keys
  obtain ⟨W3, hW3⟩ : ∃ W3, ((w.alloc (.cells #[.pointer (some ⟨t, 0, none⟩)] 63)).alloc (.cells #[.int .i64 id] 3)).alloc (.cells #[.int .i64 ep] 3) = W3 := ⟨_, rfl⟩
  have b3 : Below w.heap.size w W3 := by rw [← hW3]; exact (((Below.refl _ w).alloc (Nat.le_refl _) _).alloc (by simp) _).alloc (by simp; omega) _
  have s3 : W3.heap.size = w.heap.size + 3 := by rw [← hW3]; simp
  have g0 : W3.cell? ⟨w.heap.size, 0, none⟩ = some (.pointer (some ⟨t, 0, none⟩)) := by rw [← hW3]; simp [go_sem]
  have g1 : W3.cell? ⟨w.heap.size + 1, 0, none⟩ = some (.int .i64 id) := by rw [← hW3]; simp [go_sem]
  have g2 : W3.cell? ⟨w.heap.size + 1 + 1, 0, none⟩ = some (.int .i64 ep) := by rw [← hW3]; simp [go_sem]
  have HE := hid (Entries_any (h.later b3) hks hn)
  have HKs := hid hks
  have HG := hid (And.intro g1 g2)
  have HG3 : Hid (w.heap.size + 1 < W3.heap.size ∧ w.heap.size + 1 + 1 < W3.heap.size) := ⟨by omega, by omega⟩
  have HB := hid b3
  have hmf : ∀ (fn : Fn) (first cap : Array Value) (w : World), (Instr.makeFunc fn first cap).run Tryz.prog w = .ok (.func fn first cap) w := fun _ _ _ _ => rfl
  clear h hks b3 g1 g2 s3
  go_enter Tryz.func48, Tryz.ntmps48
  go_wp2_with (go_at_call 76; (with_reducible_and_instances (refine HE.out.mono ?_)); rintro e w4 ⟨v, LL, rfl, hE, hL, hb4⟩; obtain ⟨a4, m4, c4, hv, HC⟩ := knows_contains hE hL HKs.out id ep (w.heap.size + 1) (w.heap.size + 1 + 1) ((hb4.cell (p := ⟨w.heap.size + 1, 0, none⟩) (HG3.out.1)).trans HG.out.1) ((hb4.cell (p := ⟨w.heap.size + 1 + 1, 0, none⟩) (HG3.out.2)).trans HG.out.2) (Nat.lt_of_lt_of_le HG3.out.1 hb4.size) (Nat.lt_of_lt_of_le HG3.out.2 hb4.size); subst hv; have HB4 := hid (HB.out.trans (hb4.mono HB.out.size)); have HC2 := hid HC; clear HC hE hL hb4 HE HG)
  go_wp2_with (go_at_call 75; (with_reducible_and_instances (refine HC2.out.mono ?_)); rintro e w5 ⟨rfl, hb5⟩; have HB5 := hid (HB4.out.trans (hb5.mono HB4.out.size)); clear hb5)
  go_ret
  exact ⟨rfl, HB5.out⟩
end Go.Proofs.YtfgamkcnnijloaaGreat
namespace Go.Proofs.YtfgamkcnnijloaaGreat
open Go.RowKit Go.Shelf
variable {w w' : World}

set_option maxHeartbeats 1000000 in
theorem isZero_any (k p e q : Int) (tx : Bool) (rs : List Rec) (ad : Option Addr) (len cap : Nat) (w : World) (hl : rs.length = len) : Calls Tryz.prog 44 #[.agg #[.int .i64 k, .int .i64 p, .int .i64 e, .int .i64 q, .bool tx, .slice ad len cap]] w fun r w' => r = .returned (.bool (bareB ⟨k, p, e, q, tx, rs⟩)) ∧ Below w.heap.size w w' := by
  have HB := hid ((Below.refl _ w).alloc (Nat.le_refl _) (.cells #[.int .i64 k, .int .i64 p, .int .i64 e, .int .i64 q, .bool tx, .slice ad len cap] 30))
  cases h0 : (k == 0) with
  | false =>
    have HR := hid (show bareB ⟨k, p, e, q, tx, rs⟩ = false from by show ((k == 0) && (p == 0) && (e == 0) && (q == 0) && !tx && rs.length == 0) = false; rw [h0]; rfl)
    go_enter Tryz.func44, Tryz.ntmps44
    go_wp2_with fail
    go_ret
    exact ⟨by rw [HR.out]; rfl, HB.out⟩
  | true =>
  cases h1 : (p == 0) with
  | false =>
    have HR := hid (show bareB ⟨k, p, e, q, tx, rs⟩ = false from by show ((k == 0) && (p == 0) && (e == 0) && (q == 0) && !tx && rs.length == 0) = false; rw [h0, h1]; rfl)
    go_enter Tryz.func44, Tryz.ntmps44
    go_wp2_with fail
    go_ret
    exact ⟨by rw [HR.out]; rfl, HB.out⟩
  | true =>
  cases h2 : (e == 0) with
  | false =>
    have HR := hid (show bareB ⟨k, p, e, q, tx, rs⟩ = false from by show ((k == 0) && (p == 0) && (e == 0) && (q == 0) && !tx && rs.length == 0) = false; rw [h0, h1, h2]; rfl)
    go_enter Tryz.func44, Tryz.ntmps44
    go_wp2_with fail
    go_ret
    exact ⟨by rw [HR.out]; rfl, HB.out⟩
  | true =>
  cases h3 : (q == 0) with
  | false =>
    have HR := hid (show bareB ⟨k, p, e, q, tx, rs⟩ = false from by show ((k == 0) && (p == 0) && (e == 0) && (q == 0) && !tx && rs.length == 0) = false; rw [h0, h1, h2, h3]; rfl)
    go_enter Tryz.func44, Tryz.ntmps44
    go_wp2_with fail
    go_ret
    exact ⟨by rw [HR.out]; rfl, HB.out⟩
  | true =>
  cases tx with
  | true =>
    have HR := hid (show bareB ⟨k, p, e, q, true, rs⟩ = false from by show ((k == 0) && (p == 0) && (e == 0) && (q == 0) && !true && rs.length == 0) = false; rw [h0, h1, h2, h3]; rfl)
    go_enter Tryz.func44, Tryz.ntmps44
    go_wp2_with fail
    go_ret
    exact ⟨by rw [HR.out]; rfl, HB.out⟩
  | false =>
    have HR := hid (show bareB ⟨k, p, e, q, false, rs⟩ = decide (len = 0) from by show ((k == 0) && (p == 0) && (e == 0) && (q == 0) && !false && rs.length == 0) = decide (len = 0); rw [h0, h1, h2, h3, hl]; rfl)
    cases hz : decide (len = 0) with
    | true =>
      rw [hz] at HR
      obtain rfl : len = 0 := by simpa using hz
      clear hz hl
      go_enter Tryz.func44, Tryz.ntmps44
      go_wp2_with fail
      go_ret
      exact ⟨by rw [HR.out]; rfl, HB.out⟩
    | false =>
      rw [hz] at HR
      have hz2 : (((len : Int)) == 0) = false := by simp at hz ⊢; omega
      clear hz hl
      go_enter Tryz.func44, Tryz.ntmps44
      go_wp2_with fail
      go_ret
      exact ⟨by rw [HR.out]; rfl, HB.out⟩
set_option maxHeartbeats 1000000 in
theorem mayBe13_any (kd n k p e q : Int) (tx : Bool) (rs : List Rec) (ad : Option Addr) (len cap : Nat) (w : World) (h : BArg w ⟨k, p, e, q, tx, rs⟩ ad len cap) : Calls Tryz.prog 24 #[.agg #[.int .i64 kd, .int .i64 n, .int .i64 k, .int .i64 p, .int .i64 e, .int .i64 q, .bool tx, .slice ad len cap]] w fun r w' => r = .returned (.bool (mayE ⟨kd, n, ⟨k, p, e, q, tx, rs⟩⟩)) ∧ Below w.heap.size w w' := by
  have b0 : Below w.heap.size w (w.alloc (.cells #[.int .i64 kd, .int .i64 n, .int .i64 k, .int .i64 p, .int .i64 e, .int .i64 q, .bool tx, .slice ad len cap] 32)) := (Below.refl _ w).alloc (Nat.le_refl _) _
  have HC := hid (check_any k p e q tx rs ad len cap _ (h.later b0))
  have HZ := hid (isZero_any k p e q tx rs ad len cap (w.alloc (.cells #[.int .i64 kd, .int .i64 n, .int .i64 k, .int .i64 p, .int .i64 e, .int .i64 q, .bool tx, .slice ad len cap] 32)) h.len_eq)
  have HB := hid b0
  clear h b0
  by_cases k1 : kd = 1
  · subst k1
    have HM : Hid (mayE ⟨1, n, ⟨k, p, e, q, tx, rs⟩⟩ = ((n == 0) && (checkN ⟨k, p, e, q, tx, rs⟩ == 0))) := by unfold mayE; rw [if_pos rfl]; exact rfl
    rw [HM.out]
    cases hn : (n == 0) with
    | false =>
      rw [Bool.false_and]
      go_enter Tryz.func24, Tryz.ntmps24
      go_wp2_with fail
      go_ret
      exact ⟨rfl, HB.out⟩
    | true =>
      rw [Bool.true_and]
      have hc := HC.out
      generalize checkN ⟨k, p, e, q, tx, rs⟩ = z at *
      clear HC HZ HM
      go_enter Tryz.func24, Tryz.ntmps24
      go_wp2_with (go_at_call 43; refine hc.mono ?_; rintro x w1 ⟨rfl, hb1⟩; have HB1 := hid (HB.out.trans (hb1.mono HB.out.size)); clear hb1)
      go_ret
      exact ⟨rfl, HB1.out⟩
  · have k1' : (kd == 1) = false := by simpa using k1
    by_cases k2 : kd = 2 ∨ kd = 3
    · have HM : Hid (mayE ⟨kd, n, ⟨k, p, e, q, tx, rs⟩⟩ = (decide (0 ≤ n) && decide (n ≤ 281474976710656) && bareB ⟨k, p, e, q, tx, rs⟩)) := by unfold mayE; rw [if_neg k1, if_pos k2]; exact rfl
      rw [HM.out]
      have hz := HZ.out
      generalize bareB ⟨k, p, e, q, tx, rs⟩ = z at *
      clear HC HZ HM
      rcases k2 with rfl | rfl
      · clear k1 k1'
        cases h0 : decide (0 ≤ n) with
        | false =>
          rw [Bool.false_and, Bool.false_and]
          go_enter Tryz.func24, Tryz.ntmps24
          go_wp2_with fail
          go_ret
          exact ⟨rfl, HB.out⟩
        | true =>
          cases h1 : decide (n ≤ 281474976710656) with
          | false =>
            rw [Bool.true_and, Bool.false_and]
            go_enter Tryz.func24, Tryz.ntmps24
            go_wp2_with fail
            go_ret
            exact ⟨rfl, HB.out⟩
          | true =>
            rw [Bool.true_and, Bool.true_and]
            go_enter Tryz.func24, Tryz.ntmps24
            go_wp2_with (go_at_call 44; refine hz.mono ?_; rintro x w1 ⟨rfl, hb1⟩; have HB1 := hid (HB.out.trans (hb1.mono HB.out.size)); clear hb1)
            go_ret
            exact ⟨rfl, HB1.out⟩
      · clear k1 k1'
        cases h0 : decide (0 ≤ n) with
        | false =>
          rw [Bool.false_and, Bool.false_and]
          go_enter Tryz.func24, Tryz.ntmps24
          go_wp2_with fail
          go_ret
          exact ⟨rfl, HB.out⟩
        | true =>
          cases h1 : decide (n ≤ 281474976710656) with
          | false =>
            rw [Bool.true_and, Bool.false_and]
            go_enter Tryz.func24, Tryz.ntmps24
            go_wp2_with fail
            go_ret
            exact ⟨rfl, HB.out⟩
          | true =>
            rw [Bool.true_and, Bool.true_and]
            go_enter Tryz.func24, Tryz.ntmps24
            go_wp2_with (go_at_call 44; refine hz.mono ?_; rintro x w1 ⟨rfl, hb1⟩; have HB1 := hid (HB.out.trans (hb1.mono HB.out.size)); clear hb1)
            go_ret
            exact ⟨rfl, HB1.out⟩
    · have k2' : (kd == 2) = false := by simp; omega
      have k3' : (kd == 3) = false := by simp; omega
      have HM : Hid (mayE ⟨kd, n, ⟨k, p, e, q, tx, rs⟩⟩ = false) := by unfold mayE; rw [if_neg k1, if_neg k2]; exact rfl
      rw [HM.out]
      clear HC HZ HM k1 k2
      go_enter Tryz.func24, Tryz.ntmps24
      go_wp2_with fail
      go_ret
      exact ⟨rfl, HB.out⟩
end Go.Proofs.YtfgamkcnnijloaaGreat
namespace Go.Proofs.YtfgamkcnnijloaaGreat
open Go.RowKit Go.Shelf
variable {w w' : World} {L t M n N : Nat} {vr vo va : Value} {g : Lg}

theorem TPic.drew {T : Tb} (h : TPic w t M n T) : TPic w.drew t M n T := h.later (Below.refl _ _).drew
theorem BArg.drew {b : Bat} {ad : Option Addr} {len cap : Nat} (h : BArg w b ad len cap) : BArg w.drew b ad len cap := h.later (Below.refl _ _).drew
theorem lenN_small {b : Bat} (h : checkN b = 0) : 0 ≤ lenN b ∧ lenN b ≤ 64 := by
  have := checkN_nums h
  unfold lenN
  split
  · omega
  · omega
end Go.Proofs.YtfgamkcnnijloaaGreat
