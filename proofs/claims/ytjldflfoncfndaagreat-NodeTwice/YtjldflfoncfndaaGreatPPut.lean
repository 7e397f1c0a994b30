/- may of a request of package node. PutReply of package node, of a reply that may be. PutRequest of package node, of a request that may be. -/
import Derived.Test.YtjldflfoncfndaaGreatPNode
import Derived.Test.YtjldflfoncfndaaGreatPStr
import Derived.Test.YtjldflfoncfndaaGreatPWire
namespace Go.Proofs.YtjldflfoncfndaaGreat
open Go.RowKit Crcm

set_option maxRecDepth 100000 in
set_option maxHeartbeats 4000000 in
theorem qmay_yes (k l p : Int) (ad : Option Addr) (len cap : Nat) (w : World) (h : reqMay k l p len = true) :
    Calls Tryz.prog 34 #[reqV k l p ad len cap] w fun x w' => x = .returned (.bool true) ∧ Below w.heap.size w w' := by
  simp only [reqMay, Bool.and_eq_true, decide_eq_true_eq] at h
  obtain ⟨⟨⟨⟨⟨⟨h1, h2⟩, h3⟩, h4⟩, h5⟩, h6⟩, h7⟩ := h
  have HP : Hid (∀ W : World, Calls Tryz.prog 65 #[reqV k l p ad len cap] W fun x w' => x = .returned (.int .i64 (maxPosN k)) ∧ Below W.heap.size W w') := (show Hid _ from fun W => maxPos_any k l p ad len cap W)
  have HD : Hid (∀ W : World, Calls Tryz.prog 66 #[reqV k l p ad len cap] W fun x w' => x = .returned (.int .i64 (maxDataN k)) ∧ Below W.heap.size W w') := (show Hid _ from fun W => maxData_any k l p ad len cap W)
  generalize maxPosN k = mp at *
  generalize maxDataN k = md at *
  unfold reqV at *
  have HS : Hid (∀ W : World, Below (w.heap.size + 1) (w.alloc (.cells #[.int .i64 k, .int .i64 l, .int .i64 p, .slice ad len cap] 27)) W → W.cell? ⟨w.heap.size, 0, none⟩ = some (.int .i64 k) ∧ W.cell? ⟨w.heap.size, 1, none⟩ = some (.int .i64 l) ∧ W.cell? ⟨w.heap.size, 2, none⟩ = some (.int .i64 p) ∧ W.cell? ⟨w.heap.size, 3, none⟩ = some (.slice ad len cap)) := (show Hid _ from fun W hW => by
    have q := (hW.block w.heap.size (by omega)).trans (heap_alloc_last w _)
    refine ⟨?_, ?_, ?_, ?_⟩ <;> (rw [cell_of_row _ _ _ _ _ _ q]; rfl))
  go_enter Tryz.func34, Tryz.ntmps34
  go_wp2_with fail
  generalize hW0 : w.alloc (.cells #[.int .i64 k, .int .i64 l, .int .i64 p, .slice ad len cap] 27) = W0 at *
  have hsz : W0.heap.size = w.heap.size + 1 := by rw [← hW0]; simp
  have B0 : Hid (Below w.heap.size w W0.drew) := (show Hid _ from (by rw [← hW0]; exact ((Below.refl _ w).alloc (Nat.le_refl _) _).drew))
  have C0 : Hid (Below (w.heap.size + 1) W0 W0.drew) := (show Hid _ from (Below.refl _ W0).drew)
  clear hW0
  go_region_held3 (fun W => W.cell? ⟨w.heap.size, 0, none⟩ = some (.int .i64 k) ∧ W.cell? ⟨w.heap.size, 1, none⟩ = some (.int .i64 l) ∧ W.cell? ⟨w.heap.size, 2, none⟩ = some (.int .i64 p) ∧ W.cell? ⟨w.heap.size, 3, none⟩ = some (.slice ad len cap))
    (first | exact HS.out _ C0.out | exact HS.out _ C1.out | exact HS.out _ C2.out)
    (first
      | (go_at_call 65; refine (HP.out _).mono ?_; rintro x w1 ⟨rfl, b1⟩; have C1 : Hid (Below (w.heap.size + 1) W0 w1) := (show Hid _ from C0.out.trans (b1.mono (Nat.le_of_eq hsz.symm))); have C1s : Hid (w.heap.size + 1 ≤ w1.heap.size) := (show Hid _ from Nat.le_trans (Nat.le_of_eq hsz.symm) b1.size); have B1 : Hid (Below w.heap.size w w1) := (show Hid _ from B0.out.trans (b1.mono B0.out.size)); clear b1)
      | (go_at_call 66; refine (HD.out _).mono ?_; rintro x w2 ⟨rfl, b2⟩; have C2 : Hid (Below (w.heap.size + 1) W0 w2) := (show Hid _ from C1.out.trans (b2.mono C1s.out)); have B2 : Hid (Below w.heap.size w w2) := (show Hid _ from B1.out.trans (b2.mono B1.out.size)); clear b2))
  go_wp2
  go_ret
  exact ⟨by simp, B2.out⟩
end Go.Proofs.YtjldflfoncfndaaGreat
namespace Go.Proofs.YtjldflfoncfndaaGreat
open Go.RowKit Crcm

/-- The body of a reply. -/
def replyN (e t : Nat) (s : Nat) (l : List Nat) : List Nat := spellN e 1 ++ spellN t 2 ++ spellN s 1 ++ l
theorem replyN_length (e t s : Nat) (l : List Nat) : (replyN e t s l).length = 4 + l.length := by simp [replyN, spellN_length]; omega
theorem allR {p1 p2 p3 : Part} {e t s : Nat} {ad : Option Addr} {len cap : Nat} {l : List Nat} (e1 : p1.l = spellN e 1) (e2 : p2.l = spellN t 2) (e3 : p3.l = spellN s 1) : allN [p1, p2, p3, ⟨ad, len, cap, l⟩] 4 = replyN e t s l := by
  simp [allN, e1, e2, e3, replyN]
theorem lenR {x : List Nat} {e t s len : Nat} {l : List Nat} (h : x = replyN e t s l) (hl : l.length = len) (hlen : len ≤ 65504) : x.length ≤ 1000000 := by
  rw [h, replyN_length]
  omega
theorem h3of {a b c d : Prop} (h : a ∧ b ∧ c ∧ d) : a ∧ b ∧ d := ⟨h.1, h.2.1, h.2.2.2⟩
theorem partLen {w : World} {p : Part} {e t s len : Nat} {l : List Nat} (h : p.l = replyN e t s l) (hk : p.ok w) (hl : l.length = len) (hlen : len ≤ 65504) : p.len ≤ 65536 := by
  have h1 : p.l.length = p.len := hk.1
  rw [h, replyN_length] at h1
  omega
theorem frame_at {z : Int} (kind : Nat) (p : Part) (w : World) (hz : z = kind) (hk : kind ≤ 255) (hl : p.len ≤ 65536) (hp : p.ok w) :
    Calls Tryz.prog 35 #[.int .i64 z, .slice p.ad p.len p.cap] w fun e w' => ∃ q : Part, e = .returned (.tuple #[.slice q.ad q.len q.cap, .int .i64 0]) ∧ Hid (q.l = frameBs kind p.l) ∧ Hid (q.ok w') ∧ Hid (Own w' w.heap.size (.slice q.ad q.len q.cap) (frameBs kind p.l)) ∧ Below w.heap.size w w' := by
  subst hz
  refine (frame_ok kind p.ad p.len p.cap p.l w hk hl hp).mono ?_
  rintro e w' ⟨v, rfl, hown, hb⟩
  have h := hown
  obtain ⟨q, rfl, h1, h2⟩ := Part.of_own h
  exact ⟨q, rfl, h1, h2, h, hb⟩
set_option maxRecDepth 100000 in
set_option maxHeartbeats 4000000 in
theorem putReply_ok (e t : Nat) (s : Bool) (ad : Option Addr) (len cap : Nat) (l : List Nat) (w : World) (he : e ≤ 255) (ht : t ≤ 4096) (hlen : len ≤ 65504) (ha : Part.ok w ⟨ad, len, cap, l⟩) :
    Calls Tryz.prog 12 #[repV e t s ad len cap] w fun x w' => ∃ p : Part, x = .returned (.tuple #[.slice p.ad p.len p.cap, .int .i64 0]) ∧ Hid (p.l = frameBs 2 (replyN e t s.toNat l)) ∧ Hid (p.ok w') ∧ Hid (Own w' w.heap.size (.slice p.ad p.len p.cap) (frameBs 2 (replyN e t s.toNat l))) ∧ Below w.heap.size w w' := by
  have HA : Hid (Part.ok w ⟨ad, len, cap, l⟩) := ha
  clear ha
  have hmay : repMay (e : Int) (t : Int) len = true := by simp [repMay]; omega
  have HM := rmay_any (e : Int) (t : Int) s ad len cap (w.alloc (.cells #[.int .i64 (e : Int), .int .i64 (t : Int), .bool s, .slice ad len cap] 31))
  rw [hmay] at HM
  clear hmay
  unfold repV at HM ⊢
  have HS : Hid (∀ W : World, Below (w.heap.size + 1) (w.alloc (.cells #[.int .i64 (e : Int), .int .i64 (t : Int), .bool s, .slice ad len cap] 31)) W → W.cell? ⟨w.heap.size, 0, none⟩ = some (.int .i64 (e : Int)) ∧ W.cell? ⟨w.heap.size, 1, none⟩ = some (.int .i64 (t : Int)) ∧ W.cell? ⟨w.heap.size, 2, none⟩ = some (.bool s) ∧ W.cell? ⟨w.heap.size, 3, none⟩ = some (.slice ad len cap)) := (show Hid _ from fun W hW => by
    have q := (hW.block w.heap.size (by omega)).trans (heap_alloc_last w _)
    refine ⟨?_, ?_, ?_, ?_⟩ <;> (rw [cell_of_row _ _ _ _ _ _ q]; rfl))
  have HB : Hid (Below w.heap.size w (w.alloc (.cells #[.int .i64 (e : Int), .int .i64 (t : Int), .bool s, .slice ad len cap] 31))) := (show Hid _ from (Below.refl _ w).alloc (Nat.le_refl _) _)
  have hsz0 : (w.alloc (.cells #[.int .i64 (e : Int), .int .i64 (t : Int), .bool s, .slice ad len cap] 31)).heap.size = w.heap.size + 1 := by simp
  cases s
  · go_enter Tryz.func12, Tryz.ntmps12
    go_wp2_with (go_at_call 41; refine HM.mono ?_; rintro x W1 ⟨rfl, hb1⟩; have D1 : Hid (Below (w.heap.size + 1) (w.alloc _) W1) := (show Hid _ from hsz0 ▸ hb1); have B0 : Hid (Below w.heap.size w W1) := (show Hid _ from HB.out.trans (hb1.mono HB.out.size)); have c2 := (HS.out _ D1.out).2.2.1; clear hb1 HM)
    have C0 : Hid (Below (w.heap.size + 1) (w.alloc _) W1.drew) := (show Hid _ from D1.out.drew)
    have C0s : Hid (w.heap.size + 1 ≤ W1.drew.heap.size) := (show Hid _ from (show w.heap.size + 1 ≤ W1.drew.heap.size by have := D1.out.size; simpa [hsz0] using this))
    have B0 : Hid (Below w.heap.size w W1.drew) := (show Hid _ from B0.out.drew)
    clear c2 D1
    generalize w.alloc _ = W0 at *
    clear HB hsz0
    go_region_held3 (fun W => W.cell? ⟨w.heap.size, 0, none⟩ = some (.int .i64 (e : Int)) ∧ W.cell? ⟨w.heap.size, 1, none⟩ = some (.int .i64 (t : Int)) ∧ W.cell? ⟨w.heap.size, 3, none⟩ = some (.slice ad len cap))
      (first | exact h3of (HS.out _ C0.out) | exact h3of (HS.out _ C1.out) | exact h3of (HS.out _ C2.out) | exact h3of (HS.out _ C3.out) | exact h3of (HS.out _ (C3.out.alloc C3s.out _)) | exact h3of (HS.out _ C4.out) | exact h3of (HS.out _ C5.out))
      (first
        | (go_at_call 35; refine (frame_at 2 p4 w4 rfl (by omega) L4.out K4.out).mono ?_; rintro e w5 ⟨p5, rfl, e5, k5, o5, b5⟩; have C5 : Hid (Below (w.heap.size + 1) W0 w5) := (show Hid _ from C4.out.trans (b5.mono C4s.out)); have B5 : Hid (Below w.heap.size w w5) := (show Hid _ from B4.out.trans (b5.mono B4.out.size)); have E5 : Hid (p5.l = frameBs 2 (replyN e t 0 l)) := (show Hid _ from e5.out.trans (congrArg (frameBs 2) E4.out)); have O5 : Hid (Own w5 w.heap.size (.slice p5.ad p5.len p5.cap) (frameBs 2 (replyN e t 0 l))) := (show Hid _ from own4 o5.out (congrArg (frameBs 2) E4.out) B4.out.size); clear b5 e5 o5)
        | (go_at_call 36; refine (concat_at [p1, p2, p3, ⟨ad, len, cap, l⟩] w3 _ rfl 4 4 rfl OK3.out LEN3.out (by omega)).mono ?_; rintro x w4 ⟨p4, rfl, e4, -, k4, b4⟩; have C4 : Hid (Below (w.heap.size + 1) W0 w4) := (show Hid _ from C3.out.trans (b4.mono C3s.out)); have C4s : Hid (w.heap.size + 1 ≤ w4.heap.size) := (show Hid _ from Nat.le_trans C3s.out b4.size); have B4 : Hid (Below w.heap.size w w4) := (show Hid _ from B3.out.trans (b4.mono B3.out.size)); have E4 : Hid (p4.l = replyN e t 0 l) := (show Hid _ from e4.out.trans E3.out); have K4 : Hid (p4.ok w4) := k4; have L4 : Hid (p4.len ≤ 65536) := (show Hid _ from partLen E4.out k4.out HA.out.1 hlen); clear b4 e4 k4)
        | (go_at_call 37; (with_reducible_and_instances (refine (nspell_at 0 1 w2 rfl rfl (by omega) (by omega) (by omega)).mono ?_)); rintro x w3 ⟨p3, rfl, e3, k3, b3⟩; have C3s : Hid (w.heap.size + 1 ≤ w3.heap.size) := (show Hid _ from Nat.le_trans C2s.out b3.size); have C3 : Hid (Below (w.heap.size + 1) W0 w3) := (show Hid _ from C2.out.trans (b3.mono C2s.out)); have B3 : Hid (Below w.heap.size w w3) := (show Hid _ from B2.out.trans (b3.mono B2.out.size)); have OK3 : Hid (∀ p ∈ [p1, p2, p3, ⟨ad, len, cap, l⟩], p.ok w3) := (show Hid _ from ok4 (K2.out.1.later b3) (K2.out.2.later b3) k3.out (HA.out.later B3.out)); have E3 : Hid (allN [p1, p2, p3, ⟨ad, len, cap, l⟩] 4 = replyN e t 0 l) := (show Hid _ from allR E2.out.1 E2.out.2 e3.out); have LEN3 : Hid ((allN [p1, p2, p3, ⟨ad, len, cap, l⟩] 4).length ≤ 1000000) := (show Hid _ from lenR E3.out HA.out.1 hlen); clear e3 k3 b3)
        | (go_at_call 37; (with_reducible_and_instances (refine (nspell_at t 2 w1 rfl rfl (by omega) (by omega) (by omega)).mono ?_)); rintro x w2 ⟨p2, rfl, e2, k2, b2⟩; have C2s : Hid (w.heap.size + 1 ≤ w2.heap.size) := (show Hid _ from Nat.le_trans C1s.out b2.size); have C2 : Hid (Below (w.heap.size + 1) W0 w2) := (show Hid _ from C1.out.trans (b2.mono C1s.out)); have B2 : Hid (Below w.heap.size w w2) := (show Hid _ from B1.out.trans (b2.mono B1.out.size)); have K2 : Hid (p1.ok w2 ∧ p2.ok w2) := (show Hid _ from ⟨K1.out.later b2, k2.out⟩); have E2 : Hid (p1.l = spellN e 1 ∧ p2.l = spellN t 2) := (show Hid _ from ⟨E1.out, e2.out⟩); clear e2 k2 b2)
        | (go_at_call 37; (with_reducible_and_instances (refine (nspell_at e 1 W1.drew rfl rfl (by omega) (by omega) (by omega)).mono ?_)); rintro x w1 ⟨p1, rfl, e1, k1, b1⟩; have C1s : Hid (w.heap.size + 1 ≤ w1.heap.size) := (show Hid _ from Nat.le_trans C0s.out b1.size); have C1 : Hid (Below (w.heap.size + 1) W0 w1) := (show Hid _ from C0.out.trans (b1.mono C0s.out)); have B1 : Hid (Below w.heap.size w w1) := (show Hid _ from B0.out.trans (b1.mono B0.out.size)); have K1 : Hid (p1.ok w1) := k1; have E1 : Hid (p1.l = spellN e 1) := e1; clear b1 e1 k1))
    go_wp2
    go_ret2
    exact ⟨p5, rfl, E5, k5, O5, B5.out⟩
  · go_enter Tryz.func12, Tryz.ntmps12
    go_wp2_with (go_at_call 41; refine HM.mono ?_; rintro x W1 ⟨rfl, hb1⟩; have D1 : Hid (Below (w.heap.size + 1) (w.alloc _) W1) := (show Hid _ from hsz0 ▸ hb1); have B0 : Hid (Below w.heap.size w W1) := (show Hid _ from HB.out.trans (hb1.mono HB.out.size)); have c2 := (HS.out _ D1.out).2.2.1; clear hb1 HM)
    have C0 : Hid (Below (w.heap.size + 1) (w.alloc _) W1.drew) := (show Hid _ from D1.out.drew)
    have C0s : Hid (w.heap.size + 1 ≤ W1.drew.heap.size) := (show Hid _ from (show w.heap.size + 1 ≤ W1.drew.heap.size by have := D1.out.size; simpa [hsz0] using this))
    have B0 : Hid (Below w.heap.size w W1.drew) := (show Hid _ from B0.out.drew)
    clear c2 D1
    generalize w.alloc _ = W0 at *
    clear HB hsz0
    go_region_held3 (fun W => W.cell? ⟨w.heap.size, 0, none⟩ = some (.int .i64 (e : Int)) ∧ W.cell? ⟨w.heap.size, 1, none⟩ = some (.int .i64 (t : Int)) ∧ W.cell? ⟨w.heap.size, 3, none⟩ = some (.slice ad len cap))
      (first | exact h3of (HS.out _ C0.out) | exact h3of (HS.out _ C1.out) | exact h3of (HS.out _ C2.out) | exact h3of (HS.out _ C3.out) | exact h3of (HS.out _ (C3.out.alloc C3s.out _)) | exact h3of (HS.out _ C4.out) | exact h3of (HS.out _ C5.out))
      (first
        | (go_at_call 35; refine (frame_at 2 p4 w4 rfl (by omega) L4.out K4.out).mono ?_; rintro e w5 ⟨p5, rfl, e5, k5, o5, b5⟩; have C5 : Hid (Below (w.heap.size + 1) W0 w5) := (show Hid _ from C4.out.trans (b5.mono C4s.out)); have B5 : Hid (Below w.heap.size w w5) := (show Hid _ from B4.out.trans (b5.mono B4.out.size)); have E5 : Hid (p5.l = frameBs 2 (replyN e t 1 l)) := (show Hid _ from e5.out.trans (congrArg (frameBs 2) E4.out)); have O5 : Hid (Own w5 w.heap.size (.slice p5.ad p5.len p5.cap) (frameBs 2 (replyN e t 1 l))) := (show Hid _ from own4 o5.out (congrArg (frameBs 2) E4.out) B4.out.size); clear b5 e5 o5)
        | (go_at_call 36; refine (concat_at [p1, p2, p3, ⟨ad, len, cap, l⟩] w3 _ rfl 4 4 rfl OK3.out LEN3.out (by omega)).mono ?_; rintro x w4 ⟨p4, rfl, e4, -, k4, b4⟩; have C4 : Hid (Below (w.heap.size + 1) W0 w4) := (show Hid _ from C3.out.trans (b4.mono C3s.out)); have C4s : Hid (w.heap.size + 1 ≤ w4.heap.size) := (show Hid _ from Nat.le_trans C3s.out b4.size); have B4 : Hid (Below w.heap.size w w4) := (show Hid _ from B3.out.trans (b4.mono B3.out.size)); have E4 : Hid (p4.l = replyN e t 1 l) := (show Hid _ from e4.out.trans E3.out); have K4 : Hid (p4.ok w4) := k4; have L4 : Hid (p4.len ≤ 65536) := (show Hid _ from partLen E4.out k4.out HA.out.1 hlen); clear b4 e4 k4)
        | (go_at_call 37; (with_reducible_and_instances (refine (nspell_at 1 1 w2 rfl rfl (by omega) (by omega) (by omega)).mono ?_)); rintro x w3 ⟨p3, rfl, e3, k3, b3⟩; have C3s : Hid (w.heap.size + 1 ≤ w3.heap.size) := (show Hid _ from Nat.le_trans C2s.out b3.size); have C3 : Hid (Below (w.heap.size + 1) W0 w3) := (show Hid _ from C2.out.trans (b3.mono C2s.out)); have B3 : Hid (Below w.heap.size w w3) := (show Hid _ from B2.out.trans (b3.mono B2.out.size)); have OK3 : Hid (∀ p ∈ [p1, p2, p3, ⟨ad, len, cap, l⟩], p.ok w3) := (show Hid _ from ok4 (K2.out.1.later b3) (K2.out.2.later b3) k3.out (HA.out.later B3.out)); have E3 : Hid (allN [p1, p2, p3, ⟨ad, len, cap, l⟩] 4 = replyN e t 1 l) := (show Hid _ from allR E2.out.1 E2.out.2 e3.out); have LEN3 : Hid ((allN [p1, p2, p3, ⟨ad, len, cap, l⟩] 4).length ≤ 1000000) := (show Hid _ from lenR E3.out HA.out.1 hlen); clear e3 k3 b3)
        | (go_at_call 37; (with_reducible_and_instances (refine (nspell_at t 2 w1 rfl rfl (by omega) (by omega) (by omega)).mono ?_)); rintro x w2 ⟨p2, rfl, e2, k2, b2⟩; have C2s : Hid (w.heap.size + 1 ≤ w2.heap.size) := (show Hid _ from Nat.le_trans C1s.out b2.size); have C2 : Hid (Below (w.heap.size + 1) W0 w2) := (show Hid _ from C1.out.trans (b2.mono C1s.out)); have B2 : Hid (Below w.heap.size w w2) := (show Hid _ from B1.out.trans (b2.mono B1.out.size)); have K2 : Hid (p1.ok w2 ∧ p2.ok w2) := (show Hid _ from ⟨K1.out.later b2, k2.out⟩); have E2 : Hid (p1.l = spellN e 1 ∧ p2.l = spellN t 2) := (show Hid _ from ⟨E1.out, e2.out⟩); clear e2 k2 b2)
        | (go_at_call 37; (with_reducible_and_instances (refine (nspell_at e 1 W1.drew rfl rfl (by omega) (by omega) (by omega)).mono ?_)); rintro x w1 ⟨p1, rfl, e1, k1, b1⟩; have C1s : Hid (w.heap.size + 1 ≤ w1.heap.size) := (show Hid _ from Nat.le_trans C0s.out b1.size); have C1 : Hid (Below (w.heap.size + 1) W0 w1) := (show Hid _ from C0.out.trans (b1.mono C0s.out)); have B1 : Hid (Below w.heap.size w w1) := (show Hid _ from B0.out.trans (b1.mono B0.out.size)); have K1 : Hid (p1.ok w1) := k1; have E1 : Hid (p1.l = spellN e 1) := e1; clear b1 e1 k1))
    go_wp2
    go_ret2
    exact ⟨p5, rfl, E5, k5, O5, B5.out⟩
end Go.Proofs.YtjldflfoncfndaaGreat
namespace Go.Proofs.YtjldflfoncfndaaGreat
open Go.RowKit Crcm

/-- The body of a request. -/
def requestN (k g p : Nat) (l : List Nat) : List Nat := spellN k 1 ++ spellN g 6 ++ spellN p 2 ++ l
theorem requestN_length (k g p : Nat) (l : List Nat) : (requestN k g p l).length = 9 + l.length := by simp [requestN, spellN_length]; omega
theorem reqMay_lim {k g p len : Nat} (h : reqMay k g p len = true) : k < 7 ∧ g < 281474976710656 ∧ p ≤ 4096 ∧ len ≤ 65504 := by
  simp only [reqMay, Bool.and_eq_true, decide_eq_true_eq] at h
  obtain ⟨⟨⟨⟨⟨⟨h1, h2⟩, h3⟩, h4⟩, h5⟩, h6⟩, h7⟩ := h
  have h8 : maxPosN (k : Int) ≤ 4096 := by unfold maxPosN; split <;> omega
  have h9 : maxDataN (k : Int) ≤ 65504 := by unfold maxDataN; split <;> omega
  exact ⟨by omega, by omega, by omega, by omega⟩
theorem allQ {p1 p2 p3 : Part} {k g p : Nat} {ad : Option Addr} {len cap : Nat} {l : List Nat} (e1 : p1.l = spellN k 1) (e2 : p2.l = spellN g 6) (e3 : p3.l = spellN p 2) : allN [p1, p2, p3, ⟨ad, len, cap, l⟩] 4 = requestN k g p l := by
  simp [allN, e1, e2, e3, requestN]
theorem lenQ {x : List Nat} {k g p len : Nat} {l : List Nat} (h : x = requestN k g p l) (hl : l.length = len) (hlen : len ≤ 65504) : x.length ≤ 1000000 := by
  rw [h, requestN_length]
  omega
theorem partLenQ {w : World} {q : Part} {k g p len : Nat} {l : List Nat} (h : q.l = requestN k g p l) (hk : q.ok w) (hl : l.length = len) (hlen : len ≤ 65504) : q.len ≤ 65536 := by
  have h1 : q.l.length = q.len := hk.1
  rw [h, requestN_length] at h1
  omega
set_option maxRecDepth 100000 in
set_option maxHeartbeats 4000000 in
theorem putRequest_ok (k g p : Nat) (ad : Option Addr) (len cap : Nat) (l : List Nat) (w : World) (hm : reqMay k g p len = true) (ha : Part.ok w ⟨ad, len, cap, l⟩) :
    Calls Tryz.prog 10 #[reqV k g p ad len cap] w fun x w' => ∃ q : Part, x = .returned (.tuple #[.slice q.ad q.len q.cap, .int .i64 0]) ∧ Hid (q.l = frameBs 1 (requestN k g p l)) ∧ Hid (q.ok w') ∧ Hid (Own w' w.heap.size (.slice q.ad q.len q.cap) (frameBs 1 (requestN k g p l))) ∧ Below w.heap.size w w' := by
  have HA : Hid (Part.ok w ⟨ad, len, cap, l⟩) := ha
  clear ha
  have HM := qmay_yes (k : Int) (g : Int) (p : Int) ad len cap (w.alloc (.cells #[.int .i64 (k : Int), .int .i64 (g : Int), .int .i64 (p : Int), .slice ad len cap] 27)) hm
  obtain ⟨hk, hg, hpp, hlen⟩ := reqMay_lim hm
  clear hm
  unfold reqV at HM ⊢
  have HS : Hid (∀ W : World, Below (w.heap.size + 1) (w.alloc (.cells #[.int .i64 (k : Int), .int .i64 (g : Int), .int .i64 (p : Int), .slice ad len cap] 27)) W → W.cell? ⟨w.heap.size, 0, none⟩ = some (.int .i64 (k : Int)) ∧ W.cell? ⟨w.heap.size, 1, none⟩ = some (.int .i64 (g : Int)) ∧ W.cell? ⟨w.heap.size, 2, none⟩ = some (.int .i64 (p : Int)) ∧ W.cell? ⟨w.heap.size, 3, none⟩ = some (.slice ad len cap)) := (show Hid _ from fun W hW => by
    have q := (hW.block w.heap.size (by omega)).trans (heap_alloc_last w _)
    refine ⟨?_, ?_, ?_, ?_⟩ <;> (rw [cell_of_row _ _ _ _ _ _ q]; rfl))
  have HB : Hid (Below w.heap.size w (w.alloc (.cells #[.int .i64 (k : Int), .int .i64 (g : Int), .int .i64 (p : Int), .slice ad len cap] 27))) := (show Hid _ from (Below.refl _ w).alloc (Nat.le_refl _) _)
  have hsz0 : (w.alloc (.cells #[.int .i64 (k : Int), .int .i64 (g : Int), .int .i64 (p : Int), .slice ad len cap] 27)).heap.size = w.heap.size + 1 := by simp
  go_enter Tryz.func10, Tryz.ntmps10
  go_wp2_with (go_at_call 34; refine HM.mono ?_; rintro x W1 ⟨rfl, hb1⟩; have D1 : Hid (Below (w.heap.size + 1) (w.alloc _) W1) := (show Hid _ from hsz0 ▸ hb1); have B0 : Hid (Below w.heap.size w W1) := (show Hid _ from HB.out.trans (hb1.mono HB.out.size)); clear hb1 HM)
  have C0 : Hid (Below (w.heap.size + 1) (w.alloc _) W1.drew) := (show Hid _ from D1.out.drew)
  have C0s : Hid (w.heap.size + 1 ≤ W1.drew.heap.size) := (show Hid _ from (show w.heap.size + 1 ≤ W1.drew.heap.size by have := D1.out.size; simpa [hsz0] using this))
  have B0 : Hid (Below w.heap.size w W1.drew) := (show Hid _ from B0.out.drew)
  clear D1
  generalize w.alloc _ = W0 at *
  clear HB hsz0
  go_region_held3 (fun W => W.cell? ⟨w.heap.size, 0, none⟩ = some (.int .i64 (k : Int)) ∧ W.cell? ⟨w.heap.size, 1, none⟩ = some (.int .i64 (g : Int)) ∧ W.cell? ⟨w.heap.size, 2, none⟩ = some (.int .i64 (p : Int)) ∧ W.cell? ⟨w.heap.size, 3, none⟩ = some (.slice ad len cap))
    (first | exact HS.out _ C0.out | exact HS.out _ C1.out | exact HS.out _ C2.out | exact HS.out _ C3.out | exact HS.out _ (C3.out.alloc C3s.out _) | exact HS.out _ C4.out | exact HS.out _ C5.out)
    (first
      | (go_at_call 35; refine (frame_at 1 p4 w4 rfl (by omega) L4.out K4.out).mono ?_; rintro e w5 ⟨p5, rfl, e5, k5, o5, b5⟩; have C5 : Hid (Below (w.heap.size + 1) W0 w5) := (show Hid _ from C4.out.trans (b5.mono C4s.out)); have B5 : Hid (Below w.heap.size w w5) := (show Hid _ from B4.out.trans (b5.mono B4.out.size)); have E5 : Hid (p5.l = frameBs 1 (requestN k g p l)) := (show Hid _ from e5.out.trans (congrArg (frameBs 1) E4.out)); have O5 : Hid (Own w5 w.heap.size (.slice p5.ad p5.len p5.cap) (frameBs 1 (requestN k g p l))) := (show Hid _ from own4 o5.out (congrArg (frameBs 1) E4.out) B4.out.size); clear b5 e5 o5)
      | (go_at_call 36; refine (concat_at [p1, p2, p3, ⟨ad, len, cap, l⟩] w3 _ rfl 4 4 rfl OK3.out LEN3.out (by omega)).mono ?_; rintro x w4 ⟨p4, rfl, e4, -, k4, b4⟩; have C4 : Hid (Below (w.heap.size + 1) W0 w4) := (show Hid _ from C3.out.trans (b4.mono C3s.out)); have C4s : Hid (w.heap.size + 1 ≤ w4.heap.size) := (show Hid _ from Nat.le_trans C3s.out b4.size); have B4 : Hid (Below w.heap.size w w4) := (show Hid _ from B3.out.trans (b4.mono B3.out.size)); have E4 : Hid (p4.l = requestN k g p l) := (show Hid _ from e4.out.trans E3.out); have K4 : Hid (p4.ok w4) := k4; have L4 : Hid (p4.len ≤ 65536) := (show Hid _ from partLenQ E4.out k4.out HA.out.1 hlen); clear b4 e4 k4)
      | (go_at_call 37; (with_reducible_and_instances (refine (nspell_at p 2 w2 rfl rfl (by omega) (by omega) (by omega)).mono ?_)); rintro x w3 ⟨p3, rfl, e3, k3, b3⟩; have C3s : Hid (w.heap.size + 1 ≤ w3.heap.size) := (show Hid _ from Nat.le_trans C2s.out b3.size); have C3 : Hid (Below (w.heap.size + 1) W0 w3) := (show Hid _ from C2.out.trans (b3.mono C2s.out)); have B3 : Hid (Below w.heap.size w w3) := (show Hid _ from B2.out.trans (b3.mono B2.out.size)); have OK3 : Hid (∀ p ∈ [p1, p2, p3, ⟨ad, len, cap, l⟩], p.ok w3) := (show Hid _ from ok4 (K2.out.1.later b3) (K2.out.2.later b3) k3.out (HA.out.later B3.out)); have E3 : Hid (allN [p1, p2, p3, ⟨ad, len, cap, l⟩] 4 = requestN k g p l) := (show Hid _ from allQ E2.out.1 E2.out.2 e3.out); have LEN3 : Hid ((allN [p1, p2, p3, ⟨ad, len, cap, l⟩] 4).length ≤ 1000000) := (show Hid _ from lenQ E3.out HA.out.1 hlen); clear e3 k3 b3)
      | (go_at_call 37; (with_reducible_and_instances (refine (nspell_at g 6 w1 rfl rfl (by omega) (by omega) (by omega)).mono ?_)); rintro x w2 ⟨p2, rfl, e2, k2, b2⟩; have C2s : Hid (w.heap.size + 1 ≤ w2.heap.size) := (show Hid _ from Nat.le_trans C1s.out b2.size); have C2 : Hid (Below (w.heap.size + 1) W0 w2) := (show Hid _ from C1.out.trans (b2.mono C1s.out)); have B2 : Hid (Below w.heap.size w w2) := (show Hid _ from B1.out.trans (b2.mono B1.out.size)); have K2 : Hid (p1.ok w2 ∧ p2.ok w2) := (show Hid _ from ⟨K1.out.later b2, k2.out⟩); have E2 : Hid (p1.l = spellN k 1 ∧ p2.l = spellN g 6) := (show Hid _ from ⟨E1.out, e2.out⟩); clear e2 k2 b2)
      | (go_at_call 37; (with_reducible_and_instances (refine (nspell_at k 1 W1.drew rfl rfl (by omega) (by omega) (by omega)).mono ?_)); rintro x w1 ⟨p1, rfl, e1, k1, b1⟩; have C1s : Hid (w.heap.size + 1 ≤ w1.heap.size) := (show Hid _ from Nat.le_trans C0s.out b1.size); have C1 : Hid (Below (w.heap.size + 1) W0 w1) := (show Hid _ from C0.out.trans (b1.mono C0s.out)); have B1 : Hid (Below w.heap.size w w1) := (show Hid _ from B0.out.trans (b1.mono B0.out.size)); have K1 : Hid (p1.ok w1) := k1; have E1 : Hid (p1.l = spellN k 1) := e1; clear b1 e1 k1))
  go_wp2
  go_ret2
  exact ⟨p5, rfl, E5, k5, O5, B5.out⟩
end Go.Proofs.YtjldflfoncfndaaGreat
