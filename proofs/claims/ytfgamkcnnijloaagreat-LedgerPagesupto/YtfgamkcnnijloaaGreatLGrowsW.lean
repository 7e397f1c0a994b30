/- The walk of LedgerGrows. -/
import Derived.Test.YtfgamkcnnijloaaGreatPZGa
import Derived.Test.YtfgamkcnnijloaaGreatPZBk
namespace Go.Proofs.YtfgamkcnnijloaaGreat
open Go.RowKit Go.Shelf
variable {w : World} {ad : Option Addr} {len cap : Nat} {f : Nat → EnL}

/-- The ledger behind the first i entries. -/
def ledN (f : Nat → EnL) : Nat → Lg
  | 0 => lg0
  | i + 1 => appG (ledN f i) (f i).et
theorem ledN_few (f : Nat → EnL) : ∀ i, LFew (ledN f i) i
  | 0 => few0
  | i + 1 => few_app (ledN_few f i) _
set_option maxRecDepth 100000 in
set_option maxHeartbeats 8000000 in
theorem growsL_walk (ho : EntsL w f ad len) (hm : len ≤ 1048576) :
    Calls Tryz.prog 6 #[.slice ad len cap] w fun r w' => r = .returned (.bool true) ∧ Below w.heap.size w w' := by
  have HE := hid ho
  have HN := hid (LOf.new w)
  clear ho
  go_enter Tryz.func6, Tryz.ntmps6
  go_wp2_with (first
    | (go_at_call 7; (with_reducible_and_instances (refine HN.out.mono ?_)); rintro r w1 ⟨L, rfl, hL, hb1⟩; have HL := hid hL; have HB1 := hid hb1; have HK := hid (knows13 w1); clear hL hb1)
    | (go_at_call 8; (with_reducible_and_instances (refine HK.out.mono ?_)); rintro r w2 ⟨rfl, hb2⟩; have HL2 := hid (HL.out.later hb2); have HB2 := hid (HB1.out.trans (hb2.mono HB1.out.size)); clear hb2))
  go_loopw [4] (fun i wr => ∃ j : Nat, j ≤ len ∧ i = .int .i64 (j : Int) ∧ Hid (LOf w.heap.size wr L j (ledN f j)) ∧ Hid (Below w.heap.size w wr)) (fun i _ => len - (intOf i).toNat)
  case atStart => exact ⟨0, Nat.zero_le _, rfl, HL2, HB2⟩
  case round =>
    clear HL HL2 HB1 HB2 HK HN
    obtain ⟨j, hj, rfl, HLj, HBj⟩ := hrel
    by_cases hlt : j < len
    · have hne : len ≠ 0 := by omega
      rcases HE.out with h | ⟨b, off, rfl, hb, hc⟩
      · exact absurd h hne
      obtain ⟨hcs, hok⟩ := hc j hlt
      have HOk := hid (hok.later HBj.out)
      have HCc : Hid (∀ W, Below w.heap.size w W → ∀ i, i < 8 → W.cell? ⟨b, off + j * 8 + i, none⟩ = (enA (f j))[i]?) := hid (fun W hW i hi => (hW.cell (p := ⟨b, off + j * 8 + i, none⟩) hb).trans (hcs i hi))
      have HAl := app_all HLj.out.ok (f j).et
      have HF := hid (ledN_few f j)
      have HNx : Hid (ledN f (j + 1) = appG (ledN f j) (f j).et) := rfl
      obtain ⟨G, hG⟩ : ∃ G, appG (ledN f j) (f j).et = G := ⟨_, rfl⟩
      rw [hG] at HNx HAl
      have HGe := hid hG
      obtain ⟨hok', hgr⟩ := HAl
      have hst := stable_first hok'
      have d1 : decide (G.start < (ledN f j).start) = false := decide_eq_false (by have := hgr.start; omega)
      have d2 : decide (G.stable < (ledN f j).stable) = false := decide_eq_false (by have := hgr.stable; omega)
      have d3 : decide (G.fin < (ledN f j).fin) = false := decide_eq_false (by have := hgr.fin; omega)
      have d4 : decide (G.stable < G.start) = false := decide_eq_false (by have := hst.1; omega)
      have d5 : decide (G.fin < G.stable) = false := decide_eq_false (by have := hst.2.1; omega)
      clear hG hgr hok' hst hcs hok
      generalize hgj : ledN f j = g at *
      have HS0 := hid HLj.out.start
      have HT0 := hid HLj.out.stable
      have HE0 := hid HLj.out.fin
      have hjl : j ≤ 1048576 := by omega
      generalize f j = o at *
      obtain ⟨kd, nn, k, p, e, q, tx, rs, ar, lr, cr⟩ := o
      have r0 := HCc.out wr HBj.out 0 (by omega)
      have r1 := HCc.out wr HBj.out 1 (by omega)
      have r2 := HCc.out wr HBj.out 2 (by omega)
      have r3 := HCc.out wr HBj.out 3 (by omega)
      have r4 := HCc.out wr HBj.out 4 (by omega)
      have r5 := HCc.out wr HBj.out 5 (by omega)
      have r6 := HCc.out wr HBj.out 6 (by omega)
      have r7 := HCc.out wr HBj.out 7 (by omega)
      simp only [enA, List.getElem?_toArray, List.getElem?_cons_zero, List.getElem?_cons_succ, Nat.add_zero] at r0 r1 r2 r3 r4 r5 r6 r7
      have HOw := hid (own13_any kd nn k p e q tx rs ar lr cr wr HOk.out.arg (by have := HOk.out.size; dsimp only at this; omega))
      clear hc
      go_wp2_with (first
        | (go_at_call 18; (with_reducible_and_instances (refine HS0.out.mono ?_)); rintro r w9 ⟨rfl, hw9⟩; obtain rfl := hw9.symm)
        | (go_at_call 15; (with_reducible_and_instances (refine HT0.out.mono ?_)); rintro r w9 ⟨rfl, hw9⟩; obtain rfl := hw9.symm)
        | (go_at_call 10; (with_reducible_and_instances (refine HE0.out.mono ?_)); rintro r w9 ⟨rfl, hw9⟩; obtain rfl := hw9.symm)
        | (go_at_call 9; (with_reducible_and_instances (refine HOw.out.mono ?_)); rintro r W3 ⟨ad3, c3, rfl, hA3, hT3, hb3⟩; have HB3 := hid (HBj.out.trans (hb3.mono HBj.out.size)); have HAp := hid ((HLj.out.later hb3).applyA HF.out hjl kd nn k p e q tx rs ad3 lr c3 hA3 hT3 G HGe.out.symm); clear hA3 hT3 hb3)
        | (go_at_call 12; (with_reducible_and_instances (refine HAp.out.mono ?_)); rintro r W4 ⟨rfl, hL4, hb4⟩; have HL4 := hid hL4; have HB4 := hid (HB3.out.trans hb4); have HS4 := hid hL4.start; have HT4 := hid hL4.stable; have HE4 := hid hL4.fin; clear hL4 hb4)
        | (go_at_call 18; (with_reducible_and_instances (refine HS4.out.mono ?_)); rintro r w9 ⟨rfl, hw9⟩; obtain rfl := hw9.symm)
        | (go_at_call 15; (with_reducible_and_instances (refine HT4.out.mono ?_)); rintro r w9 ⟨rfl, hw9⟩; obtain rfl := hw9.symm)
        | (go_at_call 10; (with_reducible_and_instances (refine HE4.out.mono ?_)); rintro r w9 ⟨rfl, hw9⟩; obtain rfl := hw9.symm))
      refine ⟨⟨j + 1, by omega, by go_num, (by rw [HNx.out]; exact HL4.out), HB4.out⟩, by simp [intOf]; omega⟩
    · obtain rfl : j = len := by omega
      go_wp2_with fail
      go_ret
      exact ⟨rfl, HBj.out⟩
end Go.Proofs.YtfgamkcnnijloaaGreat
