/- text of an entry of package store. -/
import Derived.Test.YtikomnbhmmjfnaaGreatSSpell
import Derived.Test.YtikomnbhmmjfnaaGreatHand
namespace Go.Proofs.YtikomnbhmmjfnaaGreat
open Go.RowKit Crcm

/-- An entry as it is handed on. -/
def entV (kind loglet pos : Nat) (ad : Option Addr) (len cap : Nat) : Value := .agg #[.int .i64 (kind : Int), .int .i64 (loglet : Int), .int .i64 (pos : Int), .slice ad len cap]
theorem ok4 {w : World} {p1 p2 p3 p4 : Part} (h1 : p1.ok w) (h2 : p2.ok w) (h3 : p3.ok w) (h4 : p4.ok w) : ∀ p ∈ [p1, p2, p3, p4], p.ok w := by
  intro p hp
  simp at hp
  rcases hp with rfl | rfl | rfl | rfl <;> assumption
theorem len4 {x : List Nat} {kind loglet pos len : Nat} {l : List Nat} (h : x = entryN kind loglet pos l) (hl : l.length = len) (hlen : len ≤ 65536) : x.length ≤ 1000000 := by
  rw [h, entryN_length]
  omega
theorem own4 {w : World} {N M : Nat} {v : Value} {x y : List Nat} (h : Own w M v x) (e : x = y) (hN : N ≤ M) : Own w N v y := by
  subst e
  exact h.down hN
theorem all4 {p1 p2 p3 : Part} {kind loglet pos : Nat} {ad : Option Addr} {len cap : Nat} {l : List Nat} (e1 : p1.l = spellN kind 1) (e2 : p2.l = spellN loglet 6) (e3 : p3.l = spellN pos 6) : allN [p1, p2, p3, ⟨ad, len, cap, l⟩] 4 = entryN kind loglet pos l := by
  simp [allN, e1, e2, e3, entryN]
set_option maxRecDepth 100000 in
set_option maxHeartbeats 4000000 in
theorem text4_any (kind loglet pos : Nat) (ad : Option Addr) (len cap : Nat) (l : List Nat) (w : World) (hk : kind < 256) (hl : loglet < 281474976710656) (hp : pos < 281474976710656) (ha : Part.ok w ⟨ad, len, cap, l⟩) (hlen : len ≤ 65536) :
    Calls Tryz.prog 88 #[entV kind loglet pos ad len cap] w fun e w' => ∃ p : Part, e = .returned (.slice p.ad p.len p.cap) ∧ Hid (p.l = entryN kind loglet pos l) ∧ Hid (p.ok w') ∧ Hid (Own w' w.heap.size (.slice p.ad p.len p.cap) (entryN kind loglet pos l)) ∧ Below w.heap.size w w' := by
  have HA : Hid (Part.ok w ⟨ad, len, cap, l⟩) := ha
  clear ha
  unfold entV
  have HS : Hid (∀ W : World, Below (w.heap.size + 1) (w.alloc (.cells #[.int .i64 (kind : Int), .int .i64 (loglet : Int), .int .i64 (pos : Int), .slice ad len cap] 103)) W → W.cell? ⟨w.heap.size, 0, none⟩ = some (.int .i64 (kind : Int)) ∧ W.cell? ⟨w.heap.size, 1, none⟩ = some (.int .i64 (loglet : Int)) ∧ W.cell? ⟨w.heap.size, 2, none⟩ = some (.int .i64 (pos : Int)) ∧ W.cell? ⟨w.heap.size, 3, none⟩ = some (.slice ad len cap)) := (show Hid _ from fun W hW => by
    have q := (hW.block w.heap.size (by omega)).trans (heap_alloc_last w _)
    refine ⟨?_, ?_, ?_, ?_⟩ <;> (rw [cell_of_row _ _ _ _ _ _ q]; rfl))
  go_enter Tryz.func88, Tryz.ntmps88
  go_wp2_with fail
  generalize hW0 : w.alloc (.cells #[.int .i64 (kind : Int), .int .i64 (loglet : Int), .int .i64 (pos : Int), .slice ad len cap] 103) = W0 at *
  have hsz : W0.heap.size = w.heap.size + 1 := by rw [← hW0]; simp
  have B0 : Hid (Below w.heap.size w W0.drew) := (show Hid _ from (by rw [← hW0]; exact ((Below.refl _ w).alloc (Nat.le_refl _) _).drew))
  have C0 : Hid (Below (w.heap.size + 1) W0 W0.drew) := (show Hid _ from (Below.refl _ W0).drew)
  clear hW0
  go_region_held3 (fun W => W.cell? ⟨w.heap.size, 0, none⟩ = some (.int .i64 (kind : Int)) ∧ W.cell? ⟨w.heap.size, 1, none⟩ = some (.int .i64 (loglet : Int)) ∧ W.cell? ⟨w.heap.size, 2, none⟩ = some (.int .i64 (pos : Int)) ∧ W.cell? ⟨w.heap.size, 3, none⟩ = some (.slice ad len cap))
    (first | exact HS.out _ C0.out | exact HS.out _ C1.out | exact HS.out _ C2.out | exact HS.out _ C3.out | exact HS.out _ (C3.out.alloc C3s.out _) | exact HS.out _ C4.out)
    (first
      | (go_at_call 112; refine (concat_at [p1, p2, p3, ⟨ad, len, cap, l⟩] w3 _ rfl 4 4 rfl OK3.out LEN3.out (by omega)).mono ?_; rintro e w4 ⟨p4, rfl, e4, o4, k4, b4⟩; have C4 : Hid (Below (w.heap.size + 1) W0 w4) := (show Hid _ from C3.out.trans (b4.mono C3s.out)); have B4 : Hid (Below w.heap.size w w4) := (show Hid _ from B3.out.trans (b4.mono B3.out.size)); have E4 : Hid (p4.l = entryN kind loglet pos l) := (show Hid _ from e4.out.trans E3.out); have O4 : Hid (Own w4 w.heap.size (.slice p4.ad p4.len p4.cap) (entryN kind loglet pos l)) := (show Hid _ from own4 o4.out E3.out B3.out.size); clear b4 e4 o4)
      | (go_at_call 113; (with_reducible_and_instances (refine (sspell_at pos 6 w2 rfl rfl (by omega) (by omega) (by omega)).mono ?_)); rintro e w3 ⟨p3, rfl, e3, k3, b3⟩; have C3s : Hid (w.heap.size + 1 ≤ w3.heap.size) := (show Hid _ from Nat.le_trans C2s.out b3.size); have C3 : Hid (Below (w.heap.size + 1) W0 w3) := (show Hid _ from C2.out.trans (b3.mono C2s.out)); have B3 : Hid (Below w.heap.size w w3) := (show Hid _ from B2.out.trans (b3.mono B2.out.size)); have OK3 : Hid (∀ p ∈ [p1, p2, p3, ⟨ad, len, cap, l⟩], p.ok w3) := (show Hid _ from ok4 (K2.out.1.later b3) (K2.out.2.later b3) k3.out (HA.out.later B3.out)); have E3 : Hid (allN [p1, p2, p3, ⟨ad, len, cap, l⟩] 4 = entryN kind loglet pos l) := (show Hid _ from all4 E2.out.1 E2.out.2 e3.out); have LEN3 : Hid ((allN [p1, p2, p3, ⟨ad, len, cap, l⟩] 4).length ≤ 1000000) := (show Hid _ from len4 E3.out HA.out.1 hlen); clear e3 k3 b3)
      | (go_at_call 113; (with_reducible_and_instances (refine (sspell_at loglet 6 w1 rfl rfl (by omega) (by omega) (by omega)).mono ?_)); rintro e w2 ⟨p2, rfl, e2, k2, b2⟩; have C2s : Hid (w.heap.size + 1 ≤ w2.heap.size) := (show Hid _ from Nat.le_trans C1s.out b2.size); have C2 : Hid (Below (w.heap.size + 1) W0 w2) := (show Hid _ from C1.out.trans (b2.mono C1s.out)); have B2 : Hid (Below w.heap.size w w2) := (show Hid _ from B1.out.trans (b2.mono B1.out.size)); have K2 : Hid (p1.ok w2 ∧ p2.ok w2) := (show Hid _ from ⟨K1.out.later b2, k2.out⟩); have E2 : Hid (p1.l = spellN kind 1 ∧ p2.l = spellN loglet 6) := (show Hid _ from ⟨E1.out, e2.out⟩); clear e2 k2 b2)
      | (go_at_call 113; (with_reducible_and_instances (refine (sspell_at kind 1 W0.drew rfl rfl (by omega) (by omega) (by omega)).mono ?_)); rintro e w1 ⟨p1, rfl, e1, k1, b1⟩; have C1s : Hid (w.heap.size + 1 ≤ w1.heap.size) := (show Hid _ from Nat.le_trans (Nat.le_of_eq hsz.symm) b1.size); have C1 : Hid (Below (w.heap.size + 1) W0 w1) := (show Hid _ from C0.out.trans (b1.mono (Nat.le_of_eq hsz.symm))); have B1 : Hid (Below w.heap.size w w1) := (show Hid _ from B0.out.trans (b1.mono B0.out.size)); have K1 : Hid (p1.ok w1) := k1; have E1 : Hid (p1.l = spellN kind 1) := e1; clear b1 e1 k1))
  go_wp2
  go_ret
  exact ⟨p4, rfl, E4, k4, O4, B4.out⟩
end Go.Proofs.YtikomnbhmmjfnaaGreat
