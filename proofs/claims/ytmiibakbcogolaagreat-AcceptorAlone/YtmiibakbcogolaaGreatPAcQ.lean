/- PutAsk of package acceptor. asked of the statements of layer 8: an Ask that may be, of an acceptor that is up. -/
import Derived.Test.YtmiibakbcogolaaGreatAcMay
import Derived.Test.YtmiibakbcogolaaGreatPAcT
import Derived.Test.YtmiibakbcogolaaGreatPAcB
import Derived.Test.YtmiibakbcogolaaGreatPAcA
namespace Go.Proofs.YtmiibakbcogolaaGreat.Ac
open Go.RowKit Crcm

set_option maxRecDepth 100000 in
set_option maxHeartbeats 4000000 in
theorem putAsk_ok (k g v b : Nat) (ad : Option Addr) (len cap : Nat) (l : List Nat) (w : World) (hm : askMay k g v b len = true) (ha : Part.ok w ⟨ad, len, cap, l⟩) :
    Calls Tryz.prog 9 #[askV k g v b ad len cap] w fun x w' => ∃ q : Part, x = .returned (.tuple #[.slice q.ad q.len q.cap, .int .i64 0]) ∧ Hid (q.l = frameBs 3 (askN k g v b l)) ∧ Hid (q.ok w') ∧ Hid (Own w' w.heap.size (.slice q.ad q.len q.cap) (frameBs 3 (askN k g v b l))) ∧ Below w.heap.size w w' := by
  have HA : Hid (Part.ok w ⟨ad, len, cap, l⟩) := ha
  clear ha
  have HM := amay_any (k : Int) (g : Int) (v : Int) (b : Int) ad len cap (w.alloc (.cells #[.int .i64 (k : Int), .int .i64 (g : Int), .int .i64 (v : Int), .int .i64 (b : Int), .slice ad len cap] 30))
  rw [hm] at HM
  obtain ⟨hk, hg, hv, hbb, hlen⟩ := askMay_lim hm
  clear hm
  unfold askV at HM ⊢
  have HS : Hid (∀ W : World, Below (w.heap.size + 1) (w.alloc (.cells #[.int .i64 (k : Int), .int .i64 (g : Int), .int .i64 (v : Int), .int .i64 (b : Int), .slice ad len cap] 30)) W → W.cell? ⟨w.heap.size, 0, none⟩ = some (.int .i64 (k : Int)) ∧ W.cell? ⟨w.heap.size, 1, none⟩ = some (.int .i64 (g : Int)) ∧ W.cell? ⟨w.heap.size, 2, none⟩ = some (.int .i64 (v : Int)) ∧ W.cell? ⟨w.heap.size, 3, none⟩ = some (.int .i64 (b : Int)) ∧ W.cell? ⟨w.heap.size, 4, none⟩ = some (.slice ad len cap)) := (show Hid _ from fun W hW => by
    have q := (hW.block w.heap.size (by omega)).trans (heap_alloc_last w _)
    refine ⟨?_, ?_, ?_, ?_, ?_⟩ <;> (rw [cell_of_row _ _ _ _ _ _ q]; rfl))
  have HB : Hid (Below w.heap.size w (w.alloc (.cells #[.int .i64 (k : Int), .int .i64 (g : Int), .int .i64 (v : Int), .int .i64 (b : Int), .slice ad len cap] 30))) := (show Hid _ from (Below.refl _ w).alloc (Nat.le_refl _) _)
  have hsz0 : (w.alloc (.cells #[.int .i64 (k : Int), .int .i64 (g : Int), .int .i64 (v : Int), .int .i64 (b : Int), .slice ad len cap] 30)).heap.size = w.heap.size + 1 := by simp
  go_enter Tryz.func9, Tryz.ntmps9
  go_wp2_with (go_at_call 34; refine HM.mono ?_; rintro x W1 ⟨rfl, hb1⟩; have D1 : Hid (Below (w.heap.size + 1) (w.alloc _) W1) := (show Hid _ from hsz0 ▸ hb1); have B0 : Hid (Below w.heap.size w W1) := (show Hid _ from HB.out.trans (hb1.mono HB.out.size)); clear hb1 HM)
  have C0 : Hid (Below (w.heap.size + 1) (w.alloc _) W1.drew) := (show Hid _ from D1.out.drew)
  have C0s : Hid (w.heap.size + 1 ≤ W1.drew.heap.size) := (show Hid _ from (show w.heap.size + 1 ≤ W1.drew.heap.size by have := D1.out.size; simpa [hsz0] using this))
  have B0 : Hid (Below w.heap.size w W1.drew) := (show Hid _ from B0.out.drew)
  clear D1
  generalize w.alloc _ = W0 at *
  clear HB hsz0
  go_region_held3 (fun W => W.cell? ⟨w.heap.size, 0, none⟩ = some (.int .i64 (k : Int)) ∧ W.cell? ⟨w.heap.size, 1, none⟩ = some (.int .i64 (g : Int)) ∧ W.cell? ⟨w.heap.size, 2, none⟩ = some (.int .i64 (v : Int)) ∧ W.cell? ⟨w.heap.size, 3, none⟩ = some (.int .i64 (b : Int)) ∧ W.cell? ⟨w.heap.size, 4, none⟩ = some (.slice ad len cap))
    (first | exact HS.out _ C0.out | exact HS.out _ C1.out | exact HS.out _ C2.out | exact HS.out _ C3.out | exact HS.out _ C4.out | exact HS.out _ (C4.out.alloc C4s.out _) | exact HS.out _ C5.out | exact HS.out _ C6.out)
    (first
      | (go_at_call 35; refine (frame_at 3 p5 w5 rfl (by omega) L5.out K5.out).mono ?_; rintro e w6 ⟨p6, rfl, e6, k6, o6, b6⟩; have C6 : Hid (Below (w.heap.size + 1) W0 w6) := (show Hid _ from C5.out.trans (b6.mono C5s.out)); have B6 : Hid (Below w.heap.size w w6) := (show Hid _ from B5.out.trans (b6.mono B5.out.size)); have E6 : Hid (p6.l = frameBs 3 (askN k g v b l)) := (show Hid _ from e6.out.trans (congrArg (frameBs 3) E5.out)); have O6 : Hid (Own w6 w.heap.size (.slice p6.ad p6.len p6.cap) (frameBs 3 (askN k g v b l))) := (show Hid _ from own4 o6.out (congrArg (frameBs 3) E5.out) B5.out.size); clear b6 e6 o6)
      | (go_at_call 36; refine (concat_at [p1, p2, p3, p4, ⟨ad, len, cap, l⟩] w4 _ rfl 5 5 rfl OK4.out LEN4.out (by omega)).mono ?_; rintro x w5 ⟨p5, rfl, e5, o5, k5, b5⟩; have C5 : Hid (Below (w.heap.size + 1) W0 w5) := (show Hid _ from C4.out.trans (b5.mono C4s.out)); have C5s : Hid (w.heap.size + 1 ≤ w5.heap.size) := (show Hid _ from Nat.le_trans C4s.out b5.size); have B5 : Hid (Below w.heap.size w w5) := (show Hid _ from B4.out.trans (b5.mono B4.out.size)); have E5 : Hid (p5.l = askN k g v b l) := (show Hid _ from e5.out.trans EE4.out); have K5 : Hid (p5.ok w5) := k5; have L5 : Hid (p5.len ≤ 65536) := (show Hid _ from partLe E5.out k5.out (askN_length _ _ _ _ _) HA.out.1 hlen (by omega) (by omega)); clear b5 e5 k5)
      | (go_at_call 37; (with_reducible_and_instances (refine (spell_at b 6 w3 rfl rfl (by omega) (by omega) (by omega)).mono ?_)); rintro x w4 ⟨p4, rfl, e4, k4, b4⟩; have C4s : Hid (w.heap.size + 1 ≤ w4.heap.size) := (show Hid _ from Nat.le_trans C3s.out b4.size); have C4 : Hid (Below (w.heap.size + 1) W0 w4) := (show Hid _ from C3.out.trans (b4.mono C3s.out)); have B4 : Hid (Below w.heap.size w w4) := (show Hid _ from B3.out.trans (b4.mono B3.out.size)); have K4 : Hid (p1.ok w4 ∧ p2.ok w4 ∧ p3.ok w4 ∧ p4.ok w4) := (show Hid _ from ⟨K3.out.1.later b4, K3.out.2.1.later b4, K3.out.2.2.later b4, k4.out⟩); have E4 : Hid (p1.l = spellN k 1 ∧ p2.l = spellN g 6 ∧ p3.l = spellN v 6 ∧ p4.l = spellN b 6) := (show Hid _ from ⟨E3.out.1, E3.out.2.1, E3.out.2.2, e4.out⟩); have OK4 : Hid (∀ p ∈ [p1, p2, p3, p4, ⟨ad, len, cap, l⟩], p.ok w4) := (show Hid _ from ok5 (K4.out.1) (K4.out.2.1) (K4.out.2.2.1) (K4.out.2.2.2) (HA.out.later B4.out)); have EE4 : Hid (allN [p1, p2, p3, p4, ⟨ad, len, cap, l⟩] 5 = askN k g v b l) := (show Hid _ from allA (E4.out.1) (E4.out.2.1) (E4.out.2.2.1) (E4.out.2.2.2)); have LEN4 : Hid ((allN [p1, p2, p3, p4, ⟨ad, len, cap, l⟩] 5).length ≤ 1000000) := (show Hid _ from le_of EE4.out (askN_length _ _ _ _ _) HA.out.1 hlen (by omega) (by omega)); clear e4 k4 b4)
      | (go_at_call 37; (with_reducible_and_instances (refine (spell_at v 6 w2 rfl rfl (by omega) (by omega) (by omega)).mono ?_)); rintro x w3 ⟨p3, rfl, e3, k3, b3⟩; have C3s : Hid (w.heap.size + 1 ≤ w3.heap.size) := (show Hid _ from Nat.le_trans C2s.out b3.size); have C3 : Hid (Below (w.heap.size + 1) W0 w3) := (show Hid _ from C2.out.trans (b3.mono C2s.out)); have B3 : Hid (Below w.heap.size w w3) := (show Hid _ from B2.out.trans (b3.mono B2.out.size)); have K3 : Hid (p1.ok w3 ∧ p2.ok w3 ∧ p3.ok w3) := (show Hid _ from ⟨K2.out.1.later b3, K2.out.2.later b3, k3.out⟩); have E3 : Hid (p1.l = spellN k 1 ∧ p2.l = spellN g 6 ∧ p3.l = spellN v 6) := (show Hid _ from ⟨E2.out.1, E2.out.2, e3.out⟩); clear e3 k3 b3)
      | (go_at_call 37; (with_reducible_and_instances (refine (spell_at g 6 w1 rfl rfl (by omega) (by omega) (by omega)).mono ?_)); rintro x w2 ⟨p2, rfl, e2, k2, b2⟩; have C2s : Hid (w.heap.size + 1 ≤ w2.heap.size) := (show Hid _ from Nat.le_trans C1s.out b2.size); have C2 : Hid (Below (w.heap.size + 1) W0 w2) := (show Hid _ from C1.out.trans (b2.mono C1s.out)); have B2 : Hid (Below w.heap.size w w2) := (show Hid _ from B1.out.trans (b2.mono B1.out.size)); have K2 : Hid (p1.ok w2 ∧ p2.ok w2) := (show Hid _ from ⟨K1.out.later b2, k2.out⟩); have E2 : Hid (p1.l = spellN k 1 ∧ p2.l = spellN g 6) := (show Hid _ from ⟨E1.out, e2.out⟩); clear e2 k2 b2)
      | (go_at_call 37; (with_reducible_and_instances (refine (spell_at k 1 W1.drew rfl rfl (by omega) (by omega) (by omega)).mono ?_)); rintro x w1 ⟨p1, rfl, e1, k1, b1⟩; have C1s : Hid (w.heap.size + 1 ≤ w1.heap.size) := (show Hid _ from Nat.le_trans C0s.out b1.size); have C1 : Hid (Below (w.heap.size + 1) W0 w1) := (show Hid _ from C0.out.trans (b1.mono C0s.out)); have B1 : Hid (Below w.heap.size w w1) := (show Hid _ from B0.out.trans (b1.mono B0.out.size)); have K1 : Hid (p1.ok w1) := k1; have E1 : Hid (p1.l = spellN k 1) := e1; clear e1 k1 b1))
  go_wp2
  go_ret2
  exact ⟨p6, rfl, E6, k6, O6, B6.out⟩
set_option maxRecDepth 100000 in
set_option maxHeartbeats 4000000 in
theorem putAsk_no (k g v b : Int) (ad : Option Addr) (len cap : Nat) (w : World) (hm : askMay k g v b len = false) :
    Calls Tryz.prog 9 #[askV k g v b ad len cap] w fun x w' => x = .returned (.tuple #[.slice none 0 0, .int .i64 1]) ∧ Below w.heap.size w w' := by
  have HM := amay_any k g v b ad len cap (w.alloc (.cells #[.int .i64 k, .int .i64 g, .int .i64 v, .int .i64 b, .slice ad len cap] 30))
  rw [hm] at HM
  have HB : Hid (Below w.heap.size w (w.alloc (.cells #[.int .i64 k, .int .i64 g, .int .i64 v, .int .i64 b, .slice ad len cap] 30))) := (show Hid _ from (Below.refl _ w).alloc (Nat.le_refl _) _)
  clear hm
  unfold askV at HM ⊢
  go_enter Tryz.func9, Tryz.ntmps9
  go_wp2_with (go_at_call 34; refine HM.mono ?_; rintro x W1 ⟨rfl, hb1⟩)
  go_ret2
  exact ⟨rfl, HB.out.trans (hb1.mono HB.out.size)⟩
end Go.Proofs.YtmiibakbcogolaaGreat.Ac
namespace Go.Proofs.YtmiibakbcogolaaGreat.Ac
open Go.RowKit Go.Shelf Crcm
variable {w w' W : World} {F : List Nat} {B : Nat} {s : SSt} {kn : Nat → Nat → Option Kn}

/-- What asked answers and leaves. -/
def AskedPost (F : List Nat) (B : Nat) (s' : SSt) (kn' : Nat → Nat → Option Kn) (e ve pe be : Nat) (se : Bool) (vl : List Nat) (w : World) (x : Ending) (w' : World) : Prop := ∃ r : Part, x = .returned (.tuple #[.agg #[.int .i64 (e : Int), .int .i64 (ve : Int), .int .i64 (pe : Int), .int .i64 (be : Int), .bool se, .slice r.ad r.len r.cap], .bool true]) ∧ Hid (r.l = vl ∧ r.ok w') ∧ Hid (AMoved F B s' kn' w w') ∧ Hid (∀ b off, r.ad = some ⟨b, off, none⟩ → w.heap.size ≤ b)
theorem AP.keepF {S D M X Y : Nat} {FD G : List Nat} {fx fy f : Lit → Option Value} {A : Nat → Nat → Value} (h : AP w F B S D M FD G X Y fx fy f A s kn) (hk : ∀ g ∈ F, w'.heap[g]? = w.heap[g]?) (hs : w.heap.size ≤ w'.heap.size) : AP w' F B S D M FD G X Y fx fy f A s kn :=
  ⟨h.store.keep (fun g hg => hk g (hg.elim (h.sF g) (h.sG g))) hs, h.kmap.keep (hk M h.mM), (hk B h.mB).trans h.box, h.nB, h.nM, h.sF, h.sG, h.mB, h.mM, fun g hg => Nat.lt_of_lt_of_le (h.lt g hg) hs⟩
theorem AUp.keepF (h : AUp w F B s kn) (hk : ∀ g ∈ F, w'.heap[g]? = w.heap[g]?) (hs : w.heap.size ≤ w'.heap.size) : AUp w' F B s kn := by
  obtain ⟨S, D, M, FD, G, X, Y, fx, fy, f, A, h⟩ := h
  exact ⟨S, D, M, FD, G, X, Y, fx, fy, f, A, h.keepF hk hs⟩
/-- AMoved, and a block C of the caller's own is none of the acceptor's. -/
def AMovedX (F : List Nat) (B C : Nat) (s : SSt) (kn : Nat → Nat → Option Kn) (w w' : World) : Prop := (∃ F', AUp w' F' B s kn ∧ (∀ g ∈ F', g ∈ F ∨ w.heap.size ≤ g) ∧ C ∉ F') ∧ Chg F w w'
theorem AMovedX.post {C : Nat} (h : AMovedX F B C s kn w W) (hb : Below W.heap.size W w') : AMovedX F B C s kn w w' := by
  obtain ⟨⟨F', h1, h2, h4⟩, h3⟩ := h
  exact ⟨⟨F', h1.later hb, h2, h4⟩, h3.trans (Chg.of (F := []) hb) (fun k hk => by cases hk)⟩
theorem AMovedX.set {C i : Nat} {x : Value} (h : AMovedX F B C s kn w W) (hC : w.heap.size ≤ C) : AMovedX F B C s kn w (W.setCell ⟨C, i, none⟩ x) := by
  obtain ⟨⟨F', h1, h2, h4⟩, h3⟩ := h
  refine ⟨⟨F', h1.keepF (fun g hg => Below.heap_setCell _ _ _ _ (fun e => by subst e; exact h4 hg)) (by simp [World.setCell]), h2, h4⟩, ?_⟩
  exact h3.set (Or.inr hC) _ _
theorem AMovedX.out {C : Nat} (h : AMovedX F B C s kn w W) : AMoved F B s kn w W := by
  obtain ⟨⟨F', h1, h2, _⟩, h3⟩ := h
  exact ⟨⟨F', h1, h2⟩, h3⟩
theorem AMoved.x {C : Nat} {V : World} (h : AMoved F B s kn V w') (hb : Below w.heap.size w V) (hF : ∀ g ∈ F, g < w.heap.size) (h1 : w.heap.size ≤ C) (h2 : C < V.heap.size) : AMovedX F B C s kn w w' := by
  have hp := h.pre hb
  obtain ⟨⟨F', h3, h4⟩, h5⟩ := h
  refine ⟨⟨F', h3, fun g hg => (h4 g hg).imp id (fun hh => Nat.le_trans hb.size hh), fun hm => ?_⟩, hp.2⟩
  exact (h4 C hm).elim (fun hh => absurd (hF C hh) (by omega)) (fun hh => by omega)
set_option maxRecDepth 100000 in
set_option maxHeartbeats 8000000 in
theorem asked_ok (h : AUp w F B s kn) (k g v b : Nat) (ad : Option Addr) (len cap : Nat) (l : List Nat) (hm : askMay k g v b len = true) (ha : Part.ok w ⟨ad, len, cap, l⟩) (s' : SSt) (kn' : Nat → Nat → Option Kn) (e ve pe be : Nat) (se : Bool) (vl : List Nat) (he : e ≤ 255) (hve : ve < 281474976710656) (hpe : pe < 281474976710656) (hbe : be < 281474976710656) (hvl : vl.length ≤ 4000)
    (hask : ∀ (W : World) (q : Part), AUp W F B s kn → q.l = frameBs 3 (askN k g v b l) → q.ok W → q.len ≤ q.cap → Calls Tryz.prog 29 #[.pointer (some ⟨B, 0, none⟩), .slice q.ad q.len q.cap] W (APost F B s' kn' (frameBs 4 (ansN e ve pe be se.toNat vl)) W)) :
    Calls Tryz.prog 33 #[.pointer (some ⟨B, 0, none⟩), askV k g v b ad len cap] w (AskedPost F B s' kn' e ve pe be se vl w) := by
  obtain ⟨-, -, -, -, hlen⟩ := askMay_lim hm
  have hb0 : Below w.heap.size w ((w.alloc (.cells #[.int .i64 (k : Int), .int .i64 (g : Int), .int .i64 (v : Int), .int .i64 (b : Int), .slice ad len cap] 24)).alloc (.cells #[.int .i64 0, .int .i64 0, .int .i64 0, .int .i64 0, .bool false, .slice none 0 0] 36)) := below2 _ _ _
  have HO := own8_any (k : Int) (g : Int) (v : Int) (b : Int) ad len cap l ((w.alloc (.cells #[.int .i64 (k : Int), .int .i64 (g : Int), .int .i64 (v : Int), .int .i64 (b : Int), .slice ad len cap] 24)).alloc (.cells #[.int .i64 0, .int .i64 0, .int .i64 0, .int .i64 0, .bool false, .slice none 0 0] 36)) (ha.later hb0) (by omega)
  have X0 : Blk ((w.alloc (.cells #[.int .i64 (k : Int), .int .i64 (g : Int), .int .i64 (v : Int), .int .i64 (b : Int), .slice ad len cap] 24)).alloc (.cells #[.int .i64 0, .int .i64 0, .int .i64 0, .int .i64 0, .bool false, .slice none 0 0] 36)) (w.heap.size + 1) #[.int .i64 0, .int .i64 0, .int .i64 0, .int .i64 0, .bool false, .slice none 0 0] 36 := last2 _ _ _ _
  have hl0 : l.length = len := ha.1
  have HP : Hid (∀ (W : World) (q : Part), (q.l = l ∧ q.ok W) → Calls Tryz.prog 9 #[.agg #[.int .i64 (k : Int), .int .i64 (g : Int), .int .i64 (v : Int), .int .i64 (b : Int), .slice q.ad q.len q.cap]] W fun x w' => ∃ r : Part, x = .returned (.tuple #[.slice r.ad r.len r.cap, .int .i64 0]) ∧ Hid (r.l = frameBs 3 (askN k g v b l) ∧ r.ok w' ∧ r.len ≤ r.cap) ∧ Below W.heap.size W w') := hid (fun W q hq => by
    have hql : q.len = len := by have := hq.2.1; rw [hq.1, hl0] at this; exact this.symm
    refine (putAsk_ok k g v b q.ad q.len q.cap l W (by rw [hql]; exact hm) (by have := hq.2; rw [← hq.1]; exact this)).mono ?_
    rintro x w' ⟨r, rfl, e1, k1, o1, b1⟩
    exact ⟨r, rfl, hid ⟨e1.out, k1.out, by obtain ⟨_, _, ev, _, hlc, _⟩ := o1.out.form; injection ev with a1 a2 a3; omega⟩, b1⟩)
  have HA : Hid (∀ (W : World) (q : Part), Below w.heap.size w W → (q.l = frameBs 3 (askN k g v b l) ∧ q.ok W ∧ q.len ≤ q.cap) → Blk W (w.heap.size + 1) #[.int .i64 0, .int .i64 0, .int .i64 0, .int .i64 0, .bool false, .slice none 0 0] 36 → Calls Tryz.prog 29 #[.pointer (some ⟨B, 0, none⟩), .slice q.ad q.len q.cap] W fun x w' => ∃ r : Part, x = .returned (.slice r.ad r.len r.cap) ∧ Hid (r.l = frameBs 4 (ansN e ve pe be se.toNat vl) ∧ r.ok w' ∧ r.len ≤ r.cap) ∧ Hid (AMovedX F B (w.heap.size + 1) s' kn' w w') ∧ Hid (Blk w' (w.heap.size + 1) #[.int .i64 0, .int .i64 0, .int .i64 0, .int .i64 0, .bool false, .slice none 0 0] 36)) := hid (fun W q hW hq hX => (hask W q (h.later hW) hq.1 hq.2.1 hq.2.2).mono fun x w' hx => by
    obtain ⟨r, rfl, e1, k1, l1, m1⟩ := hx
    exact ⟨r, rfl, hid ⟨e1, k1, l1⟩, hid (m1.x hW h.lt (Nat.le_succ _) hX.lt), hid (hX.chg m1.2 (fun hh => absurd (h.lt _ hh) (by omega)))⟩)
  have HG : Hid (∀ (W : World) (q : Part), (q.l = frameBs 4 (ansN e ve pe be se.toNat vl) ∧ q.ok W ∧ q.len ≤ q.cap) → Calls Tryz.prog 17 #[.slice q.ad q.len q.cap] W fun x w' => ∃ r : Part, x = .returned (.tuple #[.agg #[.int .i64 (e : Int), .int .i64 (ve : Int), .int .i64 (pe : Int), .int .i64 (be : Int), .bool se, .slice r.ad r.len r.cap], .int .i64 0]) ∧ Hid (r.l = vl ∧ r.ok w') ∧ Below W.heap.size W w' ∧ Hid (∀ b off, r.ad = some ⟨b, off, none⟩ → W.heap.size ≤ b)) := hid (fun W q hq => getAns_of q e ve pe be se vl W hq.1 hq.2.1 hq.2.2 he hve hpe hbe hvl)
  have HB : Hid (Below w.heap.size w ((w.alloc (.cells #[.int .i64 (k : Int), .int .i64 (g : Int), .int .i64 (v : Int), .int .i64 (b : Int), .slice ad len cap] 24)).alloc (.cells #[.int .i64 0, .int .i64 0, .int .i64 0, .int .i64 0, .bool false, .slice none 0 0] 36))) := hb0
  have HX : Hid (Blk ((w.alloc (.cells #[.int .i64 (k : Int), .int .i64 (g : Int), .int .i64 (v : Int), .int .i64 (b : Int), .slice ad len cap] 24)).alloc (.cells #[.int .i64 0, .int .i64 0, .int .i64 0, .int .i64 0, .bool false, .slice none 0 0] 36)) (w.heap.size + 1) #[.int .i64 0, .int .i64 0, .int .i64 0, .int .i64 0, .bool false, .slice none 0 0] 36) := X0
  clear h ha hm hask hb0 X0
  unfold askV at HO ⊢
  go_enter Tryz.func33, Tryz.ntmps33
  go_wp2_with (first
    | (go_at_call 10; refine HO.mono ?_; rintro x w1 ⟨q1, rfl, Q1, b1⟩; have B1 : Hid (Below w.heap.size w w1) := hid (HB.out.trans (b1.mono HB.out.size)); have X1 : Hid (Blk w1 (w.heap.size + 1) #[.int .i64 0, .int .i64 0, .int .i64 0, .int .i64 0, .bool false, .slice none 0 0] 36) := hid (HX.out.later b1); clear b1 HO HX HB)
    | (go_at_call 9; (with_reducible_and_instances (refine (HP.out w1 q1 Q1.out).mono ?_)); rintro x w2 ⟨q2, rfl, Q2, b2⟩; have B2 : Hid (Below w.heap.size w w2) := hid (B1.out.trans (b2.mono B1.out.size)); have X2 : Hid (Blk w2 (w.heap.size + 1) #[.int .i64 0, .int .i64 0, .int .i64 0, .int .i64 0, .bool false, .slice none 0 0] 36) := hid (X1.out.later b2); clear b2 HP X1 B1 Q1)
    | (go_at_call 19; refine (num8_any _ _).mono ?_; rintro x w' ⟨rfl, hw'⟩; obtain rfl := hw'.symm)
    | (go_at_call 29; (with_reducible_and_instances (refine (HA.out w2 q2 B2.out Q2.out X2.out).mono ?_)); rintro x w3 ⟨q3, rfl, Q3, M3, X3⟩; clear HA B2 Q2 X2)
    | (go_at_call 17; (with_reducible_and_instances (refine (HG.out w3 q3 Q3.out).mono ?_)); rintro x w5 ⟨r, rfl, R5, b5, NW⟩; have NW5 : Hid (∀ b off, r.ad = some ⟨b, off, none⟩ → w.heap.size ≤ b) := hid (fun b' off' e' => Nat.le_trans M3.out.2.size (NW.out b' off' e')); have M5 : Hid (AMovedX F B (w.heap.size + 1) s' kn' w w5) := hid (M3.out.post b5); have X5 : Hid (Blk w5 (w.heap.size + 1) #[.int .i64 0, .int .i64 0, .int .i64 0, .int .i64 0, .bool false, .slice none 0 0] 36) := hid (X3.out.later b5); clear b5 HG Q3 M3 X3 NW))
  obtain ⟨W6, hW6⟩ : ∃ W6, w5.alloc (.cells #[.int .i64 (e : Int), .int .i64 (ve : Int), .int .i64 (pe : Int), .int .i64 (be : Int), .bool se, .slice r.ad r.len r.cap] 36) = W6 := ⟨_, rfl⟩
  have hba : Below w5.heap.size w5 W6 := by rw [← hW6]; exact (Below.refl _ _).alloc (Nat.le_refl _) _
  have Y6 : Hid (Blk W6 w5.heap.size #[.int .i64 (e : Int), .int .i64 (ve : Int), .int .i64 (pe : Int), .int .i64 (be : Int), .bool se, .slice r.ad r.len r.cap] 36) := hid (by rw [← hW6]; exact blk_new _ w5 _)
  have X6 : Hid (Blk W6 (w.heap.size + 1) #[.int .i64 0, .int .i64 0, .int .i64 0, .int .i64 0, .bool false, .slice none 0 0] 36) := hid (X5.out.later hba)
  have M6 : Hid (AMovedX F B (w.heap.size + 1) s' kn' w W6) := hid (M5.out.post hba)
  have R6 : Hid (r.l = vl ∧ r.ok W6) := hid ⟨R5.out.1, R5.out.2.later hba⟩
  have LT : Hid (w.heap.size + 1 < w5.heap.size) := hid X5.out.lt
  rw [hW6]
  clear hW6 M5 X5 R5 hba
  obtain ⟨⟨c0, c1, c2, c3, c4, c5⟩, f0, f1, f2, f3, f4, f5⟩ := blk6 X6.out
  have HS6 : Hid (W6.drew.cell? ⟨w5.heap.size, 0, none⟩ = some (.int .i64 (e : Int)) ∧ W6.drew.cell? ⟨w5.heap.size, 1, none⟩ = some (.int .i64 (ve : Int)) ∧ W6.drew.cell? ⟨w5.heap.size, 2, none⟩ = some (.int .i64 (pe : Int)) ∧ W6.drew.cell? ⟨w5.heap.size, 3, none⟩ = some (.int .i64 (be : Int)) ∧ W6.drew.cell? ⟨w5.heap.size, 4, none⟩ = some (.bool se) ∧ W6.drew.cell? ⟨w5.heap.size, 5, none⟩ = some (.slice r.ad r.len r.cap)) := hid (blk6 (blk_below Y6.out (Below.refl W6.heap.size _).drew Y6.out.lt)).1
  have HS7 : Hid (∀ a b c d e' f, Blk ((((((W6.setCell ⟨w.heap.size + 1, 0, none⟩ a).setCell ⟨w.heap.size + 1, 1, none⟩ b).setCell ⟨w.heap.size + 1, 2, none⟩ c).setCell ⟨w.heap.size + 1, 3, none⟩ d).setCell ⟨w.heap.size + 1, 4, none⟩ e').setCell ⟨w.heap.size + 1, 5, none⟩ f).drew w5.heap.size #[.int .i64 (e : Int), .int .i64 (ve : Int), .int .i64 (pe : Int), .int .i64 (be : Int), .bool se, .slice r.ad r.len r.cap] 36) := hid (fun a b c d e' f => by
    have hne : w5.heap.size ≠ w.heap.size + 1 := by have := LT.out; omega
    have q := (((((Y6.out.other hne 0 a).other hne 1 b).other hne 2 c).other hne 3 d).other hne 4 e').other hne 5 f
    exact blk_below q (Below.refl _ _).drew q.lt)
  go_region_held3 (fun W => W.cell? ⟨w5.heap.size, 0, none⟩ = some (.int .i64 (e : Int)) ∧ W.cell? ⟨w5.heap.size, 1, none⟩ = some (.int .i64 (ve : Int)) ∧ W.cell? ⟨w5.heap.size, 2, none⟩ = some (.int .i64 (pe : Int)) ∧ W.cell? ⟨w5.heap.size, 3, none⟩ = some (.int .i64 (be : Int)) ∧ W.cell? ⟨w5.heap.size, 4, none⟩ = some (.bool se) ∧ W.cell? ⟨w5.heap.size, 5, none⟩ = some (.slice r.ad r.len r.cap))
    (first | (with_reducible exact HS6.out) | (with_reducible exact (blk6 (HS7.out _ _ _ _ _ _)).1))
    ((go_at_call 19; refine (num8_any _ _).mono ?_; rintro x w' ⟨rfl, hw'⟩; obtain rfl := hw'.symm))
  all_goals go_wp2_with fail
  all_goals refine bodyPost_ret (ret_ans Tryz.results33 _ _ (w.heap.size + 1) _ _ _ _ _ _ _ _ rfl ((blk_set6 X6.out _ _ _ _ _ _).later (Below.refl _ _).drew)) rfl ⟨r, rfl, hid ⟨R6.out.1, (part_setE6 X6.out R6.out.2).later (Below.refl _ _).drew⟩, hid ?_, NW5⟩
  all_goals exact (((((((M6.out.set (Nat.le_succ _)).set (Nat.le_succ _)).set (Nat.le_succ _)).set (Nat.le_succ _)).set (Nat.le_succ _)).set (Nat.le_succ _)).post (Below.refl _ _).drew).out
end Go.Proofs.YtmiibakbcogolaaGreat.Ac
