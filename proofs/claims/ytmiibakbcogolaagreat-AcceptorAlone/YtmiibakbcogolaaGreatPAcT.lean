/- text and PutAnswer of package acceptor, of what may be. readText of package acceptor. -/
import Derived.Test.YtmiibakbcogolaaGreatAcMay0
import Derived.Test.YtmiibakbcogolaaGreatPStr
import Derived.Test.YtmiibakbcogolaaGreatPWire
import Derived.Test.YtmiibakbcogolaaGreatAcBox
namespace Go.Proofs.YtmiibakbcogolaaGreat.Ac
open Go.RowKit Crcm

theorem frame_at {z : Int} (kind : Nat) (p : Part) (w : World) (hz : z = kind) (hk : kind ≤ 255) (hl : p.len ≤ 65536) (hp : p.ok w) :
    Calls Tryz.prog 35 #[.int .i64 z, .slice p.ad p.len p.cap] w fun e w' => ∃ q : Part, e = .returned (.tuple #[.slice q.ad q.len q.cap, .int .i64 0]) ∧ Hid (q.l = frameBs kind p.l) ∧ Hid (q.ok w') ∧ Hid (Own w' w.heap.size (.slice q.ad q.len q.cap) (frameBs kind p.l)) ∧ Below w.heap.size w w' := by
  subst hz
  refine (frame_ok kind p.ad p.len p.cap p.l w hk hl hp).mono ?_
  rintro e w' ⟨v, rfl, hown, hb⟩
  have h := hown
  obtain ⟨q, rfl, h1, h2⟩ := Part.of_own h
  exact ⟨q, rfl, h1, h2, h, hb⟩
theorem ok5 {w : World} {p1 p2 p3 p4 p5 : Part} (h1 : p1.ok w) (h2 : p2.ok w) (h3 : p3.ok w) (h4 : p4.ok w) (h5 : p5.ok w) : ∀ p ∈ [p1, p2, p3, p4, p5], p.ok w := by
  intro p hp
  simp at hp
  rcases hp with rfl | rfl | rfl | rfl | rfl <;> assumption
theorem ok2 {w : World} {p1 p2 : Part} (h1 : p1.ok w) (h2 : p2.ok w) : ∀ p ∈ [p1, p2], p.ok w := by
  intro p hp
  simp at hp
  rcases hp with rfl | rfl <;> assumption
/-- The body of an Ask. -/
def askN (k g v b : Nat) (l : List Nat) : List Nat := spellN k 1 ++ spellN g 6 ++ spellN v 6 ++ spellN b 6 ++ l
theorem askN_length (k g v b : Nat) (l : List Nat) : (askN k g v b l).length = 19 + l.length := by simp [askN, spellN_length]; omega
/-- What is told of what is known. -/
def textN (v p b s : Nat) (l : List Nat) : List Nat := spellN v 6 ++ spellN p 6 ++ spellN b 6 ++ spellN s 1 ++ l
theorem textN_length (v p b s : Nat) (l : List Nat) : (textN v p b s l).length = 19 + l.length := by simp [textN, spellN_length]; omega
/-- The body of an Answer. -/
def ansN (e v p b s : Nat) (l : List Nat) : List Nat := spellN e 1 ++ textN v p b s l
theorem ansN_length (e v p b s : Nat) (l : List Nat) : (ansN e v p b s l).length = 20 + l.length := by simp [ansN, textN_length, spellN_length]; omega
theorem allA {p1 p2 p3 p4 : Part} {k g v b : Nat} {ad : Option Addr} {len cap : Nat} {l : List Nat} (e1 : p1.l = spellN k 1) (e2 : p2.l = spellN g 6) (e3 : p3.l = spellN v 6) (e4 : p4.l = spellN b 6) : allN [p1, p2, p3, p4, ⟨ad, len, cap, l⟩] 5 = askN k g v b l := by
  simp [allN, e1, e2, e3, e4, askN]
theorem allT {p1 p2 p3 p4 : Part} {v p b s : Nat} {ad : Option Addr} {len cap : Nat} {l : List Nat} (e1 : p1.l = spellN v 6) (e2 : p2.l = spellN p 6) (e3 : p3.l = spellN b 6) (e4 : p4.l = spellN s 1) : allN [p1, p2, p3, p4, ⟨ad, len, cap, l⟩] 5 = textN v p b s l := by
  simp [allN, e1, e2, e3, e4, textN]
theorem allB {p1 p2 : Part} {e v p b s : Nat} {l : List Nat} (e1 : p1.l = spellN e 1) (e2 : p2.l = textN v p b s l) : allN [p1, p2] 2 = ansN e v p b s l := by
  simp [allN, e1, e2, ansN]
theorem le_of {x y : List Nat} {n m len : Nat} {l : List Nat} (h : x = y) (hy : y.length = n + l.length) (hl : l.length = len) (hlen : len ≤ 4000) (hn : n ≤ 20) (hm : 5000 ≤ m) : x.length ≤ m := by
  rw [h, hy]
  omega
theorem partLe {w : World} {q : Part} {y : List Nat} {n m len : Nat} {l : List Nat} (h : q.l = y) (hk : q.ok w) (hy : y.length = n + l.length) (hl : l.length = len) (hlen : len ≤ 4000) (hn : n ≤ 20) (hm : 5000 ≤ m) : q.len ≤ m := by
  have h1 : q.l.length = q.len := hk.1
  rw [h, hy] at h1
  omega
set_option maxRecDepth 100000 in
set_option maxHeartbeats 4000000 in
theorem text_ok (e : Int) (v p b : Nat) (s : Bool) (ad : Option Addr) (len cap : Nat) (l : List Nat) (w : World) (hv : v < 281474976710656) (hpp : p < 281474976710656) (hbb : b < 281474976710656) (hlen : len ≤ 4000) (ha : Part.ok w ⟨ad, len, cap, l⟩) :
    Calls Tryz.prog 42 #[ansV e v p b s ad len cap] w fun x w' => ∃ q : Part, x = .returned (.slice q.ad q.len q.cap) ∧ Hid (q.l = textN v p b s.toNat l) ∧ Hid (q.ok w') ∧ Hid (Own w' w.heap.size (.slice q.ad q.len q.cap) (textN v p b s.toNat l)) ∧ Below w.heap.size w w' := by
  have HA : Hid (Part.ok w ⟨ad, len, cap, l⟩) := ha
  clear ha
  unfold ansV
  have HS : Hid (∀ W : World, Below (w.heap.size + 1) (w.alloc (.cells #[.int .i64 e, .int .i64 (v : Int), .int .i64 (p : Int), .int .i64 (b : Int), .bool s, .slice ad len cap] 36)) W → W.cell? ⟨w.heap.size, 1, none⟩ = some (.int .i64 (v : Int)) ∧ W.cell? ⟨w.heap.size, 2, none⟩ = some (.int .i64 (p : Int)) ∧ W.cell? ⟨w.heap.size, 3, none⟩ = some (.int .i64 (b : Int)) ∧ W.cell? ⟨w.heap.size, 5, none⟩ = some (.slice ad len cap)) := (show Hid _ from fun W hW => by
    have q := (hW.block w.heap.size (by omega)).trans (heap_alloc_last w _)
    refine ⟨?_, ?_, ?_, ?_⟩ <;> (rw [cell_of_row _ _ _ _ _ _ q]; rfl))
  have HB : Hid (Below w.heap.size w (w.alloc (.cells #[.int .i64 e, .int .i64 (v : Int), .int .i64 (p : Int), .int .i64 (b : Int), .bool s, .slice ad len cap] 36))) := (show Hid _ from (Below.refl _ w).alloc (Nat.le_refl _) _)
  have hsz0 : (w.alloc (.cells #[.int .i64 e, .int .i64 (v : Int), .int .i64 (p : Int), .int .i64 (b : Int), .bool s, .slice ad len cap] 36)).heap.size = w.heap.size + 1 := by simp
  cases s
  · have q4 : (w.alloc (.cells #[.int .i64 e, .int .i64 (v : Int), .int .i64 (p : Int), .int .i64 (b : Int), .bool false, .slice ad len cap] 36)).cell? ⟨w.heap.size, 4, none⟩ = some (.bool false) := by rw [cell_of_row _ _ _ _ _ _ (heap_alloc_last w _)]; rfl
    go_enter Tryz.func42, Tryz.ntmps42
    go_wp2_with fail
    generalize hW0 : w.alloc (.cells #[.int .i64 e, .int .i64 (v : Int), .int .i64 (p : Int), .int .i64 (b : Int), .bool false, .slice ad len cap] 36) = W0 at *
    have C0 : Hid (Below (w.heap.size + 1) W0 W0.drew) := (show Hid _ from (Below.refl _ W0).drew)
    have C0s : Hid (w.heap.size + 1 ≤ W0.drew.heap.size) := (show Hid _ from Nat.le_of_eq hsz0.symm)
    have B0 : Hid (Below w.heap.size w W0.drew) := (show Hid _ from HB.out.drew)
    clear hW0 hsz0 HB q4
    go_region_held3 (fun W => W.cell? ⟨w.heap.size, 1, none⟩ = some (.int .i64 (v : Int)) ∧ W.cell? ⟨w.heap.size, 2, none⟩ = some (.int .i64 (p : Int)) ∧ W.cell? ⟨w.heap.size, 3, none⟩ = some (.int .i64 (b : Int)) ∧ W.cell? ⟨w.heap.size, 5, none⟩ = some (.slice ad len cap))
      (first | exact HS.out _ C0.out | exact HS.out _ C1.out | exact HS.out _ C2.out | exact HS.out _ C3.out | exact HS.out _ C4.out | exact HS.out _ (C4.out.alloc C4s.out _) | exact HS.out _ C5.out)
      (first
        | (go_at_call 36; refine (concat_at [p1, p2, p3, p4, ⟨ad, len, cap, l⟩] w4 _ rfl 5 5 rfl OK4.out LEN4.out (by omega)).mono ?_; rintro x w5 ⟨p5, rfl, e5, o5, k5, b5⟩; have C5 : Hid (Below (w.heap.size + 1) W0 w5) := (show Hid _ from C4.out.trans (b5.mono C4s.out)); have C5s : Hid (w.heap.size + 1 ≤ w5.heap.size) := (show Hid _ from Nat.le_trans C4s.out b5.size); have B5 : Hid (Below w.heap.size w w5) := (show Hid _ from B4.out.trans (b5.mono B4.out.size)); have E5 : Hid (p5.l = textN v p b 0 l) := (show Hid _ from e5.out.trans EE4.out); have K5 : Hid (p5.ok w5) := k5; have O5 : Hid (Own w5 w.heap.size (.slice p5.ad p5.len p5.cap) (textN v p b 0 l)) := (show Hid _ from own4 o5.out EE4.out B4.out.size); clear o5; clear b5 e5 k5)
        | (go_at_call 37; (with_reducible_and_instances (refine (spell_at 0 1 w3 rfl rfl (by omega) (by omega) (by omega)).mono ?_)); rintro x w4 ⟨p4, rfl, e4, k4, b4⟩; have C4s : Hid (w.heap.size + 1 ≤ w4.heap.size) := (show Hid _ from Nat.le_trans C3s.out b4.size); have C4 : Hid (Below (w.heap.size + 1) W0 w4) := (show Hid _ from C3.out.trans (b4.mono C3s.out)); have B4 : Hid (Below w.heap.size w w4) := (show Hid _ from B3.out.trans (b4.mono B3.out.size)); have K4 : Hid (p1.ok w4 ∧ p2.ok w4 ∧ p3.ok w4 ∧ p4.ok w4) := (show Hid _ from ⟨K3.out.1.later b4, K3.out.2.1.later b4, K3.out.2.2.later b4, k4.out⟩); have E4 : Hid (p1.l = spellN v 6 ∧ p2.l = spellN p 6 ∧ p3.l = spellN b 6 ∧ p4.l = spellN 0 1) := (show Hid _ from ⟨E3.out.1, E3.out.2.1, E3.out.2.2, e4.out⟩); have OK4 : Hid (∀ p ∈ [p1, p2, p3, p4, ⟨ad, len, cap, l⟩], p.ok w4) := (show Hid _ from ok5 (K4.out.1) (K4.out.2.1) (K4.out.2.2.1) (K4.out.2.2.2) (HA.out.later B4.out)); have EE4 : Hid (allN [p1, p2, p3, p4, ⟨ad, len, cap, l⟩] 5 = textN v p b 0 l) := (show Hid _ from allT (E4.out.1) (E4.out.2.1) (E4.out.2.2.1) (E4.out.2.2.2)); have LEN4 : Hid ((allN [p1, p2, p3, p4, ⟨ad, len, cap, l⟩] 5).length ≤ 1000000) := (show Hid _ from le_of EE4.out (textN_length _ _ _ _ _) HA.out.1 hlen (by omega) (by omega)); clear e4 k4 b4)
        | (go_at_call 37; (with_reducible_and_instances (refine (spell_at b 6 w2 rfl rfl (by omega) (by omega) (by omega)).mono ?_)); rintro x w3 ⟨p3, rfl, e3, k3, b3⟩; have C3s : Hid (w.heap.size + 1 ≤ w3.heap.size) := (show Hid _ from Nat.le_trans C2s.out b3.size); have C3 : Hid (Below (w.heap.size + 1) W0 w3) := (show Hid _ from C2.out.trans (b3.mono C2s.out)); have B3 : Hid (Below w.heap.size w w3) := (show Hid _ from B2.out.trans (b3.mono B2.out.size)); have K3 : Hid (p1.ok w3 ∧ p2.ok w3 ∧ p3.ok w3) := (show Hid _ from ⟨K2.out.1.later b3, K2.out.2.later b3, k3.out⟩); have E3 : Hid (p1.l = spellN v 6 ∧ p2.l = spellN p 6 ∧ p3.l = spellN b 6) := (show Hid _ from ⟨E2.out.1, E2.out.2, e3.out⟩); clear e3 k3 b3)
        | (go_at_call 37; (with_reducible_and_instances (refine (spell_at p 6 w1 rfl rfl (by omega) (by omega) (by omega)).mono ?_)); rintro x w2 ⟨p2, rfl, e2, k2, b2⟩; have C2s : Hid (w.heap.size + 1 ≤ w2.heap.size) := (show Hid _ from Nat.le_trans C1s.out b2.size); have C2 : Hid (Below (w.heap.size + 1) W0 w2) := (show Hid _ from C1.out.trans (b2.mono C1s.out)); have B2 : Hid (Below w.heap.size w w2) := (show Hid _ from B1.out.trans (b2.mono B1.out.size)); have K2 : Hid (p1.ok w2 ∧ p2.ok w2) := (show Hid _ from ⟨K1.out.later b2, k2.out⟩); have E2 : Hid (p1.l = spellN v 6 ∧ p2.l = spellN p 6) := (show Hid _ from ⟨E1.out, e2.out⟩); clear e2 k2 b2)
        | (go_at_call 37; (with_reducible_and_instances (refine (spell_at v 6 W0.drew rfl rfl (by omega) (by omega) (by omega)).mono ?_)); rintro x w1 ⟨p1, rfl, e1, k1, b1⟩; have C1s : Hid (w.heap.size + 1 ≤ w1.heap.size) := (show Hid _ from Nat.le_trans C0s.out b1.size); have C1 : Hid (Below (w.heap.size + 1) W0 w1) := (show Hid _ from C0.out.trans (b1.mono C0s.out)); have B1 : Hid (Below w.heap.size w w1) := (show Hid _ from B0.out.trans (b1.mono B0.out.size)); have K1 : Hid (p1.ok w1) := k1; have E1 : Hid (p1.l = spellN v 6) := e1; clear e1 k1 b1))
    go_wp2
    go_ret
    exact ⟨p5, rfl, E5, K5, O5, B5.out⟩
  · have q4 : (w.alloc (.cells #[.int .i64 e, .int .i64 (v : Int), .int .i64 (p : Int), .int .i64 (b : Int), .bool true, .slice ad len cap] 36)).cell? ⟨w.heap.size, 4, none⟩ = some (.bool true) := by rw [cell_of_row _ _ _ _ _ _ (heap_alloc_last w _)]; rfl
    go_enter Tryz.func42, Tryz.ntmps42
    go_wp2_with fail
    generalize hW0 : w.alloc (.cells #[.int .i64 e, .int .i64 (v : Int), .int .i64 (p : Int), .int .i64 (b : Int), .bool true, .slice ad len cap] 36) = W0 at *
    have C0 : Hid (Below (w.heap.size + 1) W0 W0.drew) := (show Hid _ from (Below.refl _ W0).drew)
    have C0s : Hid (w.heap.size + 1 ≤ W0.drew.heap.size) := (show Hid _ from Nat.le_of_eq hsz0.symm)
    have B0 : Hid (Below w.heap.size w W0.drew) := (show Hid _ from HB.out.drew)
    clear hW0 hsz0 HB q4
    go_region_held3 (fun W => W.cell? ⟨w.heap.size, 1, none⟩ = some (.int .i64 (v : Int)) ∧ W.cell? ⟨w.heap.size, 2, none⟩ = some (.int .i64 (p : Int)) ∧ W.cell? ⟨w.heap.size, 3, none⟩ = some (.int .i64 (b : Int)) ∧ W.cell? ⟨w.heap.size, 5, none⟩ = some (.slice ad len cap))
      (first | exact HS.out _ C0.out | exact HS.out _ C1.out | exact HS.out _ C2.out | exact HS.out _ C3.out | exact HS.out _ C4.out | exact HS.out _ (C4.out.alloc C4s.out _) | exact HS.out _ C5.out)
      (first
        | (go_at_call 36; refine (concat_at [p1, p2, p3, p4, ⟨ad, len, cap, l⟩] w4 _ rfl 5 5 rfl OK4.out LEN4.out (by omega)).mono ?_; rintro x w5 ⟨p5, rfl, e5, o5, k5, b5⟩; have C5 : Hid (Below (w.heap.size + 1) W0 w5) := (show Hid _ from C4.out.trans (b5.mono C4s.out)); have C5s : Hid (w.heap.size + 1 ≤ w5.heap.size) := (show Hid _ from Nat.le_trans C4s.out b5.size); have B5 : Hid (Below w.heap.size w w5) := (show Hid _ from B4.out.trans (b5.mono B4.out.size)); have E5 : Hid (p5.l = textN v p b 1 l) := (show Hid _ from e5.out.trans EE4.out); have K5 : Hid (p5.ok w5) := k5; have O5 : Hid (Own w5 w.heap.size (.slice p5.ad p5.len p5.cap) (textN v p b 1 l)) := (show Hid _ from own4 o5.out EE4.out B4.out.size); clear o5; clear b5 e5 k5)
        | (go_at_call 37; (with_reducible_and_instances (refine (spell_at 1 1 w3 rfl rfl (by omega) (by omega) (by omega)).mono ?_)); rintro x w4 ⟨p4, rfl, e4, k4, b4⟩; have C4s : Hid (w.heap.size + 1 ≤ w4.heap.size) := (show Hid _ from Nat.le_trans C3s.out b4.size); have C4 : Hid (Below (w.heap.size + 1) W0 w4) := (show Hid _ from C3.out.trans (b4.mono C3s.out)); have B4 : Hid (Below w.heap.size w w4) := (show Hid _ from B3.out.trans (b4.mono B3.out.size)); have K4 : Hid (p1.ok w4 ∧ p2.ok w4 ∧ p3.ok w4 ∧ p4.ok w4) := (show Hid _ from ⟨K3.out.1.later b4, K3.out.2.1.later b4, K3.out.2.2.later b4, k4.out⟩); have E4 : Hid (p1.l = spellN v 6 ∧ p2.l = spellN p 6 ∧ p3.l = spellN b 6 ∧ p4.l = spellN 1 1) := (show Hid _ from ⟨E3.out.1, E3.out.2.1, E3.out.2.2, e4.out⟩); have OK4 : Hid (∀ p ∈ [p1, p2, p3, p4, ⟨ad, len, cap, l⟩], p.ok w4) := (show Hid _ from ok5 (K4.out.1) (K4.out.2.1) (K4.out.2.2.1) (K4.out.2.2.2) (HA.out.later B4.out)); have EE4 : Hid (allN [p1, p2, p3, p4, ⟨ad, len, cap, l⟩] 5 = textN v p b 1 l) := (show Hid _ from allT (E4.out.1) (E4.out.2.1) (E4.out.2.2.1) (E4.out.2.2.2)); have LEN4 : Hid ((allN [p1, p2, p3, p4, ⟨ad, len, cap, l⟩] 5).length ≤ 1000000) := (show Hid _ from le_of EE4.out (textN_length _ _ _ _ _) HA.out.1 hlen (by omega) (by omega)); clear e4 k4 b4)
        | (go_at_call 37; (with_reducible_and_instances (refine (spell_at b 6 w2 rfl rfl (by omega) (by omega) (by omega)).mono ?_)); rintro x w3 ⟨p3, rfl, e3, k3, b3⟩; have C3s : Hid (w.heap.size + 1 ≤ w3.heap.size) := (show Hid _ from Nat.le_trans C2s.out b3.size); have C3 : Hid (Below (w.heap.size + 1) W0 w3) := (show Hid _ from C2.out.trans (b3.mono C2s.out)); have B3 : Hid (Below w.heap.size w w3) := (show Hid _ from B2.out.trans (b3.mono B2.out.size)); have K3 : Hid (p1.ok w3 ∧ p2.ok w3 ∧ p3.ok w3) := (show Hid _ from ⟨K2.out.1.later b3, K2.out.2.later b3, k3.out⟩); have E3 : Hid (p1.l = spellN v 6 ∧ p2.l = spellN p 6 ∧ p3.l = spellN b 6) := (show Hid _ from ⟨E2.out.1, E2.out.2, e3.out⟩); clear e3 k3 b3)
        | (go_at_call 37; (with_reducible_and_instances (refine (spell_at p 6 w1 rfl rfl (by omega) (by omega) (by omega)).mono ?_)); rintro x w2 ⟨p2, rfl, e2, k2, b2⟩; have C2s : Hid (w.heap.size + 1 ≤ w2.heap.size) := (show Hid _ from Nat.le_trans C1s.out b2.size); have C2 : Hid (Below (w.heap.size + 1) W0 w2) := (show Hid _ from C1.out.trans (b2.mono C1s.out)); have B2 : Hid (Below w.heap.size w w2) := (show Hid _ from B1.out.trans (b2.mono B1.out.size)); have K2 : Hid (p1.ok w2 ∧ p2.ok w2) := (show Hid _ from ⟨K1.out.later b2, k2.out⟩); have E2 : Hid (p1.l = spellN v 6 ∧ p2.l = spellN p 6) := (show Hid _ from ⟨E1.out, e2.out⟩); clear e2 k2 b2)
        | (go_at_call 37; (with_reducible_and_instances (refine (spell_at v 6 W0.drew rfl rfl (by omega) (by omega) (by omega)).mono ?_)); rintro x w1 ⟨p1, rfl, e1, k1, b1⟩; have C1s : Hid (w.heap.size + 1 ≤ w1.heap.size) := (show Hid _ from Nat.le_trans C0s.out b1.size); have C1 : Hid (Below (w.heap.size + 1) W0 w1) := (show Hid _ from C0.out.trans (b1.mono C0s.out)); have B1 : Hid (Below w.heap.size w w1) := (show Hid _ from B0.out.trans (b1.mono B0.out.size)); have K1 : Hid (p1.ok w1) := k1; have E1 : Hid (p1.l = spellN v 6) := e1; clear e1 k1 b1))
    go_wp2
    go_ret
    exact ⟨p5, rfl, E5, K5, O5, B5.out⟩
set_option maxRecDepth 100000 in
set_option maxHeartbeats 4000000 in
theorem putAnswer_ok (e v p b : Nat) (s : Bool) (ad : Option Addr) (len cap : Nat) (l : List Nat) (w : World) (he : e ≤ 255) (hv : v < 281474976710656) (hpp : p < 281474976710656) (hbb : b < 281474976710656) (hlen : len ≤ 4000) (ha : Part.ok w ⟨ad, len, cap, l⟩) :
    Calls Tryz.prog 12 #[ansV e v p b s ad len cap] w fun x w' => ∃ q : Part, x = .returned (.tuple #[.slice q.ad q.len q.cap, .int .i64 0]) ∧ Hid (q.l = frameBs 4 (ansN e v p b s.toNat l)) ∧ Hid (q.ok w') ∧ Hid (Own w' w.heap.size (.slice q.ad q.len q.cap) (frameBs 4 (ansN e v p b s.toNat l))) ∧ Below w.heap.size w w' := by
  have HA : Hid (Part.ok w ⟨ad, len, cap, l⟩) := ha
  clear ha
  have hm : ansMay (e : Int) (v : Int) (p : Int) (b : Int) len = true := by simp [ansMay, isLogletN]; omega
  have HM := nmay_any (e : Int) (v : Int) (p : Int) (b : Int) s ad len cap (w.alloc (.cells #[.int .i64 (e : Int), .int .i64 (v : Int), .int .i64 (p : Int), .int .i64 (b : Int), .bool s, .slice ad len cap] 36))
  rw [hm] at HM
  clear hm
  have HT : Hid (∀ W, Below w.heap.size w W → Calls Tryz.prog 42 #[ansV (e : Int) v p b s ad len cap] W fun x w' => ∃ q : Part, x = .returned (.slice q.ad q.len q.cap) ∧ Hid (q.l = textN v p b s.toNat l) ∧ Hid (q.ok w') ∧ Hid (Own w' W.heap.size (.slice q.ad q.len q.cap) (textN v p b s.toNat l)) ∧ Below W.heap.size W w') := (show Hid _ from fun W hW => text_ok (e : Int) v p b s ad len cap l W hv hpp hbb hlen (HA.out.later hW))
  unfold ansV at HM HT ⊢
  have HS : Hid (∀ W : World, Below (w.heap.size + 1) (w.alloc (.cells #[.int .i64 (e : Int), .int .i64 (v : Int), .int .i64 (p : Int), .int .i64 (b : Int), .bool s, .slice ad len cap] 36)) W → W.cell? ⟨w.heap.size, 0, none⟩ = some (.int .i64 (e : Int)) ∧ W.cell? ⟨w.heap.size, 1, none⟩ = some (.int .i64 (v : Int)) ∧ W.cell? ⟨w.heap.size, 2, none⟩ = some (.int .i64 (p : Int)) ∧ W.cell? ⟨w.heap.size, 3, none⟩ = some (.int .i64 (b : Int)) ∧ W.cell? ⟨w.heap.size, 4, none⟩ = some (.bool s) ∧ W.cell? ⟨w.heap.size, 5, none⟩ = some (.slice ad len cap)) := (show Hid _ from fun W hW => by
    have q := (hW.block w.heap.size (by omega)).trans (heap_alloc_last w _)
    refine ⟨?_, ?_, ?_, ?_, ?_, ?_⟩ <;> (rw [cell_of_row _ _ _ _ _ _ q]; rfl))
  have HB : Hid (Below w.heap.size w (w.alloc (.cells #[.int .i64 (e : Int), .int .i64 (v : Int), .int .i64 (p : Int), .int .i64 (b : Int), .bool s, .slice ad len cap] 36))) := (show Hid _ from (Below.refl _ w).alloc (Nat.le_refl _) _)
  have hsz0 : (w.alloc (.cells #[.int .i64 (e : Int), .int .i64 (v : Int), .int .i64 (p : Int), .int .i64 (b : Int), .bool s, .slice ad len cap] 36)).heap.size = w.heap.size + 1 := by simp
  go_enter Tryz.func12, Tryz.ntmps12
  go_wp2_with (go_at_call 41; refine HM.mono ?_; rintro x W1 ⟨rfl, hb1⟩; have D1 : Hid (Below (w.heap.size + 1) (w.alloc _) W1) := (show Hid _ from hsz0 ▸ hb1); have B0 : Hid (Below w.heap.size w W1) := (show Hid _ from HB.out.trans (hb1.mono HB.out.size)); clear hb1 HM)
  have C0 : Hid (Below (w.heap.size + 1) (w.alloc _) W1.drew) := (show Hid _ from D1.out.drew)
  have C0s : Hid (w.heap.size + 1 ≤ W1.drew.heap.size) := (show Hid _ from (show w.heap.size + 1 ≤ W1.drew.heap.size by have := D1.out.size; simpa [hsz0] using this))
  have B0 : Hid (Below w.heap.size w W1.drew) := (show Hid _ from B0.out.drew)
  clear D1
  generalize w.alloc _ = W0 at *
  clear HB hsz0
  go_region_held3 (fun W => W.cell? ⟨w.heap.size, 0, none⟩ = some (.int .i64 (e : Int)) ∧ W.cell? ⟨w.heap.size, 1, none⟩ = some (.int .i64 (v : Int)) ∧ W.cell? ⟨w.heap.size, 2, none⟩ = some (.int .i64 (p : Int)) ∧ W.cell? ⟨w.heap.size, 3, none⟩ = some (.int .i64 (b : Int)) ∧ W.cell? ⟨w.heap.size, 4, none⟩ = some (.bool s) ∧ W.cell? ⟨w.heap.size, 5, none⟩ = some (.slice ad len cap))
    (first | exact HS.out _ C0.out | exact HS.out _ C1.out | exact HS.out _ C2.out | exact HS.out _ (C2.out.alloc C2s.out _) | exact HS.out _ C3.out | exact HS.out _ C4.out)
    (first
      | (go_at_call 35; refine (frame_at 4 p3 w3 rfl (by omega) L3.out K3.out).mono ?_; rintro r w4 ⟨p4, rfl, e4, k4, o4, b4⟩; have C4 : Hid (Below (w.heap.size + 1) W0 w4) := (show Hid _ from C3.out.trans (b4.mono C3s.out)); have B4 : Hid (Below w.heap.size w w4) := (show Hid _ from B3.out.trans (b4.mono B3.out.size)); have E4 : Hid (p4.l = frameBs 4 (ansN e v p b s.toNat l)) := (show Hid _ from e4.out.trans (congrArg (frameBs 4) E3.out)); have O4 : Hid (Own w4 w.heap.size (.slice p4.ad p4.len p4.cap) (frameBs 4 (ansN e v p b s.toNat l))) := (show Hid _ from own4 o4.out (congrArg (frameBs 4) E3.out) B3.out.size); clear b4 e4 o4)
      | (go_at_call 36; refine (concat_at [p1, p2] w2 _ rfl 2 2 rfl OK2.out LEN2.out (by omega)).mono ?_; rintro x w3 ⟨p3, rfl, e3, o3, k3, b3⟩; have C3 : Hid (Below (w.heap.size + 1) W0 w3) := (show Hid _ from C2.out.trans (b3.mono C2s.out)); have C3s : Hid (w.heap.size + 1 ≤ w3.heap.size) := (show Hid _ from Nat.le_trans C2s.out b3.size); have B3 : Hid (Below w.heap.size w w3) := (show Hid _ from B2.out.trans (b3.mono B2.out.size)); have E3 : Hid (p3.l = ansN e v p b s.toNat l) := (show Hid _ from e3.out.trans EE2.out); have K3 : Hid (p3.ok w3) := k3; have L3 : Hid (p3.len ≤ 65536) := (show Hid _ from partLe E3.out k3.out (ansN_length _ _ _ _ _ _) HA.out.1 hlen (by omega) (by omega)); clear b3 e3 k3)
      | (go_at_call 42; (with_reducible_and_instances (refine (HT.out w1 B1.out).mono ?_)); rintro x w2 ⟨p2, rfl, e2, k2, o2, b2⟩; have C2s : Hid (w.heap.size + 1 ≤ w2.heap.size) := (show Hid _ from Nat.le_trans C1s.out b2.size); have C2 : Hid (Below (w.heap.size + 1) W0 w2) := (show Hid _ from C1.out.trans (b2.mono C1s.out)); have B2 : Hid (Below w.heap.size w w2) := (show Hid _ from B1.out.trans (b2.mono B1.out.size)); have OK2 : Hid (∀ p ∈ [p1, p2], p.ok w2) := (show Hid _ from ok2 (K1.out.later b2) k2.out); have EE2 : Hid (allN [p1, p2] 2 = ansN e v p b s.toNat l) := (show Hid _ from allB E1.out e2.out); have LEN2 : Hid ((allN [p1, p2] 2).length ≤ 1000000) := (show Hid _ from le_of EE2.out (ansN_length _ _ _ _ _ _) HA.out.1 hlen (by omega) (by omega)); clear e2 k2 o2 b2)
      | (go_at_call 37; (with_reducible_and_instances (refine (spell_at e 1 W1.drew rfl rfl (by omega) (by omega) (by omega)).mono ?_)); rintro x w1 ⟨p1, rfl, e1, k1, b1⟩; have C1s : Hid (w.heap.size + 1 ≤ w1.heap.size) := (show Hid _ from Nat.le_trans C0s.out b1.size); have C1 : Hid (Below (w.heap.size + 1) W0 w1) := (show Hid _ from C0.out.trans (b1.mono C0s.out)); have B1 : Hid (Below w.heap.size w w1) := (show Hid _ from B0.out.trans (b1.mono B0.out.size)); have K1 : Hid (p1.ok w1) := k1; have E1 : Hid (p1.l = spellN e 1) := e1; clear e1 k1 b1))
  go_wp2
  go_ret2
  exact ⟨p4, rfl, E4, k4, O4, B4.out⟩
set_option maxRecDepth 100000 in
set_option maxHeartbeats 4000000 in
theorem putAnswer_no (e v p b : Int) (s : Bool) (ad : Option Addr) (len cap : Nat) (w : World) (hm : ansMay e v p b len = false) :
    Calls Tryz.prog 12 #[ansV e v p b s ad len cap] w fun x w' => x = .returned (.tuple #[.slice none 0 0, .int .i64 1]) ∧ Below w.heap.size w w' := by
  have HM := nmay_any e v p b s ad len cap (w.alloc (.cells #[.int .i64 e, .int .i64 v, .int .i64 p, .int .i64 b, .bool s, .slice ad len cap] 36))
  rw [hm] at HM
  have HB : Hid (Below w.heap.size w (w.alloc (.cells #[.int .i64 e, .int .i64 v, .int .i64 p, .int .i64 b, .bool s, .slice ad len cap] 36))) := (show Hid _ from (Below.refl _ w).alloc (Nat.le_refl _) _)
  clear hm
  unfold ansV at HM ⊢
  go_enter Tryz.func12, Tryz.ntmps12
  go_wp2_with (go_at_call 41; refine HM.mono ?_; rintro x W1 ⟨rfl, hb1⟩)
  go_ret2
  exact ⟨rfl, HB.out.trans (hb1.mono HB.out.size)⟩
end Go.Proofs.YtmiibakbcogolaaGreat.Ac
namespace Go.Proofs.YtmiibakbcogolaaGreat.Ac
open Go.RowKit Crcm

/-- Six values are stored in a box, cell by cell. -/
def set6 (w : World) (B : Nat) (a b c d e f : Value) : World := (((((w.setCell ⟨B, 0, none⟩ a).setCell ⟨B, 1, none⟩ b).setCell ⟨B, 2, none⟩ c).setCell ⟨B, 3, none⟩ d).setCell ⟨B, 4, none⟩ e).setCell ⟨B, 5, none⟩ f
theorem blk_set6 {T : TypeId} {w : World} {B : Nat} {a0 b0 c0 d0 e0 f0 : Value} (h : Blk w B #[a0, b0, c0, d0, e0, f0] T) (a b c d e f : Value) : Blk (set6 w B a b c d e f) B #[a, b, c, d, e, f] T :=
  (((((h.set 0 a).set 1 b).set 2 c).set 3 d).set 4 e).set 5 f
theorem set6_below {N : Nat} {w0 w : World} (h : Below N w0 w) {B : Nat} (hB : N ≤ B) (a b c d e f : Value) : Below N w0 (set6 w B a b c d e f) :=
  (((((h.setCell (p := ⟨B, 0, none⟩) hB _).setCell (p := ⟨B, 1, none⟩) hB _).setCell (p := ⟨B, 2, none⟩) hB _).setCell (p := ⟨B, 3, none⟩) hB _).setCell (p := ⟨B, 4, none⟩) hB _).setCell (p := ⟨B, 5, none⟩) hB _
theorem part_sets {w : World} {p : Part} {B i : Nat} {v : Value} (h : p.ok w) (hne : ∀ b off, p.ad = some ⟨b, off, none⟩ → b ≠ B) : p.ok (w.setCell ⟨B, i, none⟩ v) := by
  refine ⟨h.1, h.2.1, h.2.2.1, ?_⟩
  rcases h.2.2.2 with h0 | ⟨b', off, e, hs, hc⟩
  · exact Or.inl h0
  · refine Or.inr ⟨b', off, e, Nat.lt_of_lt_of_le hs ((Below.refl 0 w).setCell (p := ⟨B, i, none⟩) (Nat.zero_le _) v).size, fun j hj => ?_⟩
    exact (World.cell?_setCell_other w ⟨B, i, none⟩ ⟨b', off + j, none⟩ v (by intro hh; injection hh with h1; exact hne b' off e h1.symm)).trans (hc j hj)
theorem part_set6 {w : World} {p : Part} {B : Nat} {x y z u t s : Value} (h : p.ok w) (hne : ∀ b off, p.ad = some ⟨b, off, none⟩ → b ≠ B) : p.ok (set6 w B x y z u t s) := part_sets (part_sets (part_sets (part_sets (part_sets (part_sets h hne) hne) hne) hne) hne) hne
theorem blk6 {T : TypeId} {w : World} {B : Nat} {a b c d e f : Value} (h : Blk w B #[a, b, c, d, e, f] T) : (w.cell? ⟨B, 0, none⟩ = some a ∧ w.cell? ⟨B, 1, none⟩ = some b ∧ w.cell? ⟨B, 2, none⟩ = some c ∧ w.cell? ⟨B, 3, none⟩ = some d ∧ w.cell? ⟨B, 4, none⟩ = some e ∧ w.cell? ⟨B, 5, none⟩ = some f) ∧ w.frozen? ⟨B, 0, none⟩ = false ∧ w.frozen? ⟨B, 1, none⟩ = false ∧ w.frozen? ⟨B, 2, none⟩ = false ∧ w.frozen? ⟨B, 3, none⟩ = false ∧ w.frozen? ⟨B, 4, none⟩ = false ∧ w.frozen? ⟨B, 5, none⟩ = false :=
  ⟨⟨h.cell 0, h.cell 1, h.cell 2, h.cell 3, h.cell 4, h.cell 5⟩, h.free 0, h.free 1, h.free 2, h.free 3, h.free 4, h.free 5⟩
theorem ret_ans {fn : Func} {p u : Tmp} (h : fn.results = #[.cell p 36, .tmp u]) (tmps : Array Value) (w : World) (B : Nat) (e v q b : Int) (s : Bool) (ad : Option Addr) (len cap : Nat)
    (hp : tmps.getD p undef = .pointer (some ⟨B, 0, none⟩)) (hg : Blk w B #[.int .i64 e, .int .i64 v, .int .i64 q, .int .i64 b, .bool s, .slice ad len cap] 36) :
    (results fn tmps).run Tryz.prog w = .ok (.tuple #[ansV e v q b s ad len cap, tmps.getD u undef]) w := by
  rw [results_cell_tmp h, hp]
  have hl := run_loadVar_row (P := Tryz.prog) w B 36 36 _ (0, 0) _ hg Tryz.underlying36 rfl (by kernel_rfl)
  simp only [asAddr, Sem.run_pure, Result.andThen_ok]
  rw [hl]
  rfl
/-- What a text tells. -/
def txV (b : List Nat) : Nat := valN ((b.drop 0).take 6)
def txP (b : List Nat) : Nat := valN ((b.drop 6).take 6)
def txB (b : List Nat) : Nat := valN ((b.drop 12).take 6)
def txL (b : List Nat) : Nat := valN ((b.drop 18).take 1)
/-- The rest of a slice of bytes, wherever it lies. -/
theorem part_rest2 {w : World} {g o n c : Nat} {b : List Nat} (k : Nat) (h : Part.ok w ⟨some ⟨g, o, none⟩, n, c, b⟩) (hk : k ≤ n) (o' : Nat) (ho : k < n → o' = o + k) : Part.ok w ⟨some ⟨g, o', none⟩, n - k, c - k, b.drop k⟩ := by
  have hl : b.length = n := h.1
  refine ⟨by simp [hl], (fun e => by cases e), fun x hx => h.2.2.1 x (List.mem_of_mem_drop hx), ?_⟩
  by_cases hkn : k < n
  · rw [ho hkn]
    rcases h.2.2.2 with h0 | ⟨b', off, e, hs, hc⟩
    · simp only at h0; rw [h0] at hl; simp at hl; omega
    · cases e
      refine Or.inr ⟨g, o + k, rfl, hs, fun i hi => ?_⟩
      simp only [List.length_drop] at hi hc
      have := hc (k + i) (by omega)
      rw [show o + k + i = o + (k + i) by omega, this]
      simp
  · exact Or.inl (List.drop_eq_nil_of_le (by omega))
set_option maxRecDepth 100000 in
set_option maxHeartbeats 4000000 in
theorem readText_no (ad : Option Addr) (len cap : Nat) (w : World) (hn : len < 19) :
    Calls Tryz.prog 49 #[.slice ad len cap] w fun e w' => e = .returned (.tuple #[ansV 0 0 0 0 false none 0 0, .bool false]) ∧ Below w.heap.size w w' := by
  have HB : Hid (Below w.heap.size w (w.alloc (.cells #[.int .i64 0, .int .i64 0, .int .i64 0, .int .i64 0, .bool false, .slice none 0 0] 36))) := (show Hid _ from (Below.refl _ w).alloc (Nat.le_refl _) _)
  have X : Hid (Blk (w.alloc (.cells #[.int .i64 0, .int .i64 0, .int .i64 0, .int .i64 0, .bool false, .slice none 0 0] 36)) w.heap.size #[.int .i64 0, .int .i64 0, .int .i64 0, .int .i64 0, .bool false, .slice none 0 0] 36) := (show Hid _ from blk_new _ w _)
  obtain ⟨⟨c0, c1, c2, c3, c4, c5⟩, f0, f1, f2, f3, f4, f5⟩ := blk6 X.out
  have hd : decide ((len : Int) < 19) = true := by simp; omega
  go_enter Tryz.func49, Tryz.ntmps49
  go_wp2
  refine bodyPost_ret (ret_ans Tryz.results49 _ _ w.heap.size 0 0 0 0 false none 0 0 rfl ?_) rfl ⟨rfl, ?_⟩
  · first | exact X.out | exact blk_set6 X.out _ _ _ _ _ _
  · first | exact HB.out | exact set6_below HB.out (Nat.le_refl _) _ _ _ _ _ _
set_option maxRecDepth 100000 in
set_option maxHeartbeats 8000000 in
theorem readText_ok (g o n c : Nat) (l : List Nat) (w : World) (x1 x2 : Bool) (hp : Part.ok w ⟨some ⟨g, o, none⟩, n, c, l⟩) (hlc : n ≤ c) (hm : n ≤ 65536) (hn : 19 ≤ n) (hx1 : (((txL l : Nat) : Int) == 1) = x1) (hx2 : decide (((txL l : Nat) : Int) ≤ 1) = x2) (hg : g < w.heap.size) :
    Calls Tryz.prog 49 #[.slice (some ⟨g, o, none⟩) n c] w fun e w' => ∃ o' : Nat, e = .returned (.tuple #[ansV 0 (txV l : Nat) (txP l : Nat) (txB l : Nat) x1 (some ⟨g, o', none⟩) (n - 19) (c - 19), .bool x2]) ∧ Hid (Part.ok w' ⟨some ⟨g, o', none⟩, n - 19, c - 19, l.drop 19⟩) ∧ Below w.heap.size w w' := by
  have HB : Hid (Below w.heap.size w (w.alloc (.cells #[.int .i64 0, .int .i64 0, .int .i64 0, .int .i64 0, .bool false, .slice none 0 0] 36))) := (show Hid _ from (Below.refl _ w).alloc (Nat.le_refl _) _)
  have HP : Hid (Part.ok w ⟨some ⟨g, o, none⟩, n, c, l⟩) := hp
  clear hp
  have hd : decide ((n : Int) < 19) = false := by simp; omega
  obtain ⟨l0, hl0⟩ : ∃ s, s = txL l := ⟨_, rfl⟩
  have Hl0 : Hid (∀ W : World, Part.ok W ⟨some ⟨g, o, none⟩, n, c, l⟩ → Calls Tryz.prog 46 #[.slice (some ⟨g, o, none⟩) n c, .int .i64 18, .int .i64 1] W fun e w' => e = .returned (.int .i64 (l0 : Int)) ∧ Below W.heap.size W w') := (show Hid _ from fun W h1 => by rw [hl0]; exact numberAt_any (some ⟨g, o, none⟩) n c l 18 1 W rfl rfl h1 hlc (by omega) (by omega) (by omega) (by omega))
  rw [← hl0] at hx1 hx2
  clear hl0
  obtain ⟨v0, hv0⟩ : ∃ s, s = txV l := ⟨_, rfl⟩
  have Hv0 : Hid (∀ W : World, Part.ok W ⟨some ⟨g, o, none⟩, n, c, l⟩ → Calls Tryz.prog 46 #[.slice (some ⟨g, o, none⟩) n c, .int .i64 0, .int .i64 6] W fun e w' => e = .returned (.int .i64 (v0 : Int)) ∧ Below W.heap.size W w') := (show Hid _ from fun W h1 => by rw [hv0]; exact numberAt_any (some ⟨g, o, none⟩) n c l 0 6 W rfl rfl h1 hlc (by omega) (by omega) (by omega) (by omega))
  rw [← hv0]
  clear hv0
  obtain ⟨p0, hp0⟩ : ∃ s, s = txP l := ⟨_, rfl⟩
  have Hp0 : Hid (∀ W : World, Part.ok W ⟨some ⟨g, o, none⟩, n, c, l⟩ → Calls Tryz.prog 46 #[.slice (some ⟨g, o, none⟩) n c, .int .i64 6, .int .i64 6] W fun e w' => e = .returned (.int .i64 (p0 : Int)) ∧ Below W.heap.size W w') := (show Hid _ from fun W h1 => by rw [hp0]; exact numberAt_any (some ⟨g, o, none⟩) n c l 6 6 W rfl rfl h1 hlc (by omega) (by omega) (by omega) (by omega))
  rw [← hp0]
  clear hp0
  obtain ⟨b0, hb0⟩ : ∃ s, s = txB l := ⟨_, rfl⟩
  have Hb0 : Hid (∀ W : World, Part.ok W ⟨some ⟨g, o, none⟩, n, c, l⟩ → Calls Tryz.prog 46 #[.slice (some ⟨g, o, none⟩) n c, .int .i64 12, .int .i64 6] W fun e w' => e = .returned (.int .i64 (b0 : Int)) ∧ Below W.heap.size W w') := (show Hid _ from fun W h1 => by rw [hb0]; exact numberAt_any (some ⟨g, o, none⟩) n c l 12 6 W rfl rfl h1 hlc (by omega) (by omega) (by omega) (by omega))
  rw [← hb0]
  clear hb0
  have XN : Hid (∀ W, Below (w.heap.size + 1) (w.alloc (.cells #[.int .i64 0, .int .i64 0, .int .i64 0, .int .i64 0, .bool false, .slice none 0 0] 36)) W → Blk W w.heap.size #[.int .i64 0, .int .i64 0, .int .i64 0, .int .i64 0, .bool false, .slice none 0 0] 36) := (show Hid _ from fun W hW => blk_below (blk_new _ w _) hW (by omega))
  have hs0 : (w.alloc (.cells #[.int .i64 0, .int .i64 0, .int .i64 0, .int .i64 0, .bool false, .slice none 0 0] 36)).heap.size = w.heap.size + 1 := by simp
  have K0 := Hl0.out _ (HP.out.later HB.out)
  have i1 : (19 : Int) ≤ (n : Int) := by omega
  have i2 : (n : Int) ≤ (c : Int) := by omega
  have i3 : (19 : Int) ≤ (c : Int) := by omega
  by_cases hc4 : c = 19
  · have en4 : n = 19 := by omega
    subst hc4 en4
    go_enter Tryz.func49, Tryz.ntmps49
    go_wp2_with (go_at_call 46; refine K0.mono ?_; rintro x V ⟨rfl, b0⟩; have D0 : Hid (Below (w.heap.size + 1) (w.alloc (.cells #[.int .i64 0, .int .i64 0, .int .i64 0, .int .i64 0, .bool false, .slice none 0 0] 36)) V) := (show Hid _ from hs0 ▸ b0); have B0 : Hid (Below w.heap.size w V) := (show Hid _ from HB.out.trans (b0.mono HB.out.size)); clear b0 K0)
    have E0 : Hid (Below (w.heap.size + 1) (w.alloc (.cells #[.int .i64 0, .int .i64 0, .int .i64 0, .int .i64 0, .bool false, .slice none 0 0] 36)) V.drew) := (show Hid _ from D0.out.drew)
    have C0 : Hid (Below w.heap.size w V.drew) := (show Hid _ from B0.out.drew)
    have S0 : Hid (w.heap.size + 1 ≤ V.drew.heap.size) := (show Hid _ from (show w.heap.size + 1 ≤ V.heap.size by have := D0.out.size; simpa [hs0] using this))
    clear D0 B0
    go_region_with (first
      | (go_at_call 46; (with_reducible_and_instances (refine (Hv0.out V.drew (HP.out.later C0.out)).mono ?_)); rintro x U1 ⟨rfl, b1⟩; have E1 : Hid (Below (w.heap.size + 1) (w.alloc (.cells #[.int .i64 0, .int .i64 0, .int .i64 0, .int .i64 0, .bool false, .slice none 0 0] 36)) U1) := (show Hid _ from E0.out.trans (b1.mono S0.out)); have C1 : Hid (Below w.heap.size w U1) := (show Hid _ from C0.out.trans (b1.mono C0.out.size)); have S1 : Hid (w.heap.size + 1 ≤ U1.heap.size) := (show Hid _ from Nat.le_trans S0.out b1.size); clear b1)
      | (go_at_call 46; (with_reducible_and_instances (refine (Hp0.out U1 (HP.out.later C1.out)).mono ?_)); rintro x U2 ⟨rfl, b2⟩; have E2 : Hid (Below (w.heap.size + 1) (w.alloc (.cells #[.int .i64 0, .int .i64 0, .int .i64 0, .int .i64 0, .bool false, .slice none 0 0] 36)) U2) := (show Hid _ from E1.out.trans (b2.mono S1.out)); have C2 : Hid (Below w.heap.size w U2) := (show Hid _ from C1.out.trans (b2.mono C1.out.size)); have S2 : Hid (w.heap.size + 1 ≤ U2.heap.size) := (show Hid _ from Nat.le_trans S1.out b2.size); clear b2)
      | (go_at_call 46; (with_reducible_and_instances (refine (Hb0.out U2 (HP.out.later C2.out)).mono ?_)); rintro x U3 ⟨rfl, b3⟩; have E3 : Hid (Below (w.heap.size + 1) (w.alloc (.cells #[.int .i64 0, .int .i64 0, .int .i64 0, .int .i64 0, .bool false, .slice none 0 0] 36)) U3) := (show Hid _ from E2.out.trans (b3.mono S2.out)); have C3 : Hid (Below w.heap.size w U3) := (show Hid _ from C2.out.trans (b3.mono C2.out.size)); have S3 : Hid (w.heap.size + 1 ≤ U3.heap.size) := (show Hid _ from Nat.le_trans S2.out b3.size); obtain ⟨⟨c0, c1, c2, c3, c4, c5⟩, f0, f1, f2, f3, f4, f5⟩ := blk6 (XN.out _ E3.out); clear b3))
    all_goals go_wp2_with fail
    all_goals refine bodyPost_ret (ret_ans Tryz.results49 _ _ w.heap.size 0 _ _ _ _ _ _ _ rfl (blk_set6 (XN.out _ E3.out) _ _ _ _ _ _)) rfl ⟨o, rfl, (show Hid _ from part_set6 ((part_rest2 19 HP.out (by omega) o (by omega)).later C3.out) (fun b off e => by injection e with e; injection e with e; omega)), ?_⟩
    all_goals exact set6_below C3.out (Nat.le_refl _) _ _ _ _ _ _
  · have i4 : (c == 19) = false := by simpa using hc4
    have i5 : ((c : Int) == 19) = false := by simp; omega
    go_enter Tryz.func49, Tryz.ntmps49
    go_wp2_with (go_at_call 46; refine K0.mono ?_; rintro x V ⟨rfl, b0⟩; have D0 : Hid (Below (w.heap.size + 1) (w.alloc (.cells #[.int .i64 0, .int .i64 0, .int .i64 0, .int .i64 0, .bool false, .slice none 0 0] 36)) V) := (show Hid _ from hs0 ▸ b0); have B0 : Hid (Below w.heap.size w V) := (show Hid _ from HB.out.trans (b0.mono HB.out.size)); clear b0 K0)
    have E0 : Hid (Below (w.heap.size + 1) (w.alloc (.cells #[.int .i64 0, .int .i64 0, .int .i64 0, .int .i64 0, .bool false, .slice none 0 0] 36)) V.drew) := (show Hid _ from D0.out.drew)
    have C0 : Hid (Below w.heap.size w V.drew) := (show Hid _ from B0.out.drew)
    have S0 : Hid (w.heap.size + 1 ≤ V.drew.heap.size) := (show Hid _ from (show w.heap.size + 1 ≤ V.heap.size by have := D0.out.size; simpa [hs0] using this))
    clear D0 B0
    go_region_with (first
      | (go_at_call 46; (with_reducible_and_instances (refine (Hv0.out V.drew (HP.out.later C0.out)).mono ?_)); rintro x U1 ⟨rfl, b1⟩; have E1 : Hid (Below (w.heap.size + 1) (w.alloc (.cells #[.int .i64 0, .int .i64 0, .int .i64 0, .int .i64 0, .bool false, .slice none 0 0] 36)) U1) := (show Hid _ from E0.out.trans (b1.mono S0.out)); have C1 : Hid (Below w.heap.size w U1) := (show Hid _ from C0.out.trans (b1.mono C0.out.size)); have S1 : Hid (w.heap.size + 1 ≤ U1.heap.size) := (show Hid _ from Nat.le_trans S0.out b1.size); clear b1)
      | (go_at_call 46; (with_reducible_and_instances (refine (Hp0.out U1 (HP.out.later C1.out)).mono ?_)); rintro x U2 ⟨rfl, b2⟩; have E2 : Hid (Below (w.heap.size + 1) (w.alloc (.cells #[.int .i64 0, .int .i64 0, .int .i64 0, .int .i64 0, .bool false, .slice none 0 0] 36)) U2) := (show Hid _ from E1.out.trans (b2.mono S1.out)); have C2 : Hid (Below w.heap.size w U2) := (show Hid _ from C1.out.trans (b2.mono C1.out.size)); have S2 : Hid (w.heap.size + 1 ≤ U2.heap.size) := (show Hid _ from Nat.le_trans S1.out b2.size); clear b2)
      | (go_at_call 46; (with_reducible_and_instances (refine (Hb0.out U2 (HP.out.later C2.out)).mono ?_)); rintro x U3 ⟨rfl, b3⟩; have E3 : Hid (Below (w.heap.size + 1) (w.alloc (.cells #[.int .i64 0, .int .i64 0, .int .i64 0, .int .i64 0, .bool false, .slice none 0 0] 36)) U3) := (show Hid _ from E2.out.trans (b3.mono S2.out)); have C3 : Hid (Below w.heap.size w U3) := (show Hid _ from C2.out.trans (b3.mono C2.out.size)); have S3 : Hid (w.heap.size + 1 ≤ U3.heap.size) := (show Hid _ from Nat.le_trans S2.out b3.size); obtain ⟨⟨c0, c1, c2, c3, c4, c5⟩, f0, f1, f2, f3, f4, f5⟩ := blk6 (XN.out _ E3.out); clear b3))
    all_goals go_wp2_with fail
    all_goals refine bodyPost_ret (ret_ans Tryz.results49 _ _ w.heap.size 0 _ _ _ _ _ _ _ rfl (blk_set6 (XN.out _ E3.out) _ _ _ _ _ _)) rfl ⟨(o + 19), rfl, (show Hid _ from part_set6 ((part_rest2 19 HP.out (by omega) (o + 19) (by omega)).later C3.out) (fun b off e => by injection e with e; injection e with e; omega)), ?_⟩
    all_goals exact set6_below C3.out (Nat.le_refl _) _ _ _ _ _ _
end Go.Proofs.YtmiibakbcogolaaGreat.Ac
