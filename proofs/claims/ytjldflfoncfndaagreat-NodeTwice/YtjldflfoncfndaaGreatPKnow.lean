/- knows of the statements of layer 5. Put and Get of requests and replies, the program's and the document's, as functions over plain data (P502). Contracts of the replies' Put and Get, written out. -/
import Derived.Test.YtjldflfoncfndaaGreatPAsk
import Derived.Test.YtjldflfoncfndaaGreatPLaw
import Derived.Test.YtjldflfoncfndaaGreatNBackM
import Derived.Test.YtjldflfoncfndaaGreatNGetRep
import Derived.Test.YtjldflfoncfndaaGreatPNode
namespace Go.Proofs.YtjldflfoncfndaaGreat
open Go.RowKit Go.Shelf Crcm

theorem knowsM5 : ∃ s1 s2 : SSt, (sst0 (newD 8)).put 1 0 [97] false = (0, s1) ∧ s1.look 1 = ⟨1, 0, false⟩ ∧ s1.seal 1 = (0, s2) ∧ s2.look 1 = ⟨1, 0, true⟩ ∧ s2.put 1 1 [98] false = (30, s2) ∧ s2.get 1 0 = ([97], 0) ∧ s1.d.clean ∧ s2.d.clean ∧ (sst0 (newD 8)).d.clean := by
  obtain ⟨f0, c0, _⟩ := new_free 8
  have n8 : (newD 8).bs.length = 8 := List.length_replicate
  obtain ⟨d1, r1, f1, c1, l1⟩ := record_free (s := sst0 (newD 8)) f0 c0 ⟨1, 1, 0, [97]⟩ (by show 0 + partsN 14 ≤ (newD 8).bs.length; rw [n8]; decide)
  have e1 : ({ sst0 (newD 8) with d := d1 } : SSt).takeE ⟨1, 1, 0, [97]⟩ = ⟨d1, fun i q => if i = 1 ∧ q = 0 then some [97] else none, fun j => if j = 1 then some ⟨1, 0, false⟩ else none, 1, 1, false⟩ := by
    simp [SSt.takeE, SSt.doE, SSt.fill, sst0, SSt.log, l0, SSt.setLog, SSt.setSlot, Ent.parts, partsN]
  rw [e1] at r1
  have l1' : d1.bs.length = 8 := by rw [l1]; exact n8
  obtain ⟨d2, r2, f2, c2, l2⟩ := record_free (s := ⟨d1, fun i q => if i = 1 ∧ q = 0 then some [97] else none, fun j => if j = 1 then some ⟨1, 0, false⟩ else none, 1, 1, false⟩) f1 c1 ⟨2, 1, 0, []⟩ (by show 1 + partsN 13 ≤ d1.bs.length; rw [l1']; decide)
  have e2 : ({ d := d2, slots := fun i q => if i = 1 ∧ q = 0 then some [97] else none, logs := fun j => if j = 1 then some ⟨1, 0, false⟩ else none, num := 1, fin := 1, fallen := false } : SSt).takeE ⟨2, 1, 0, []⟩ = ⟨d2, fun i q => if i = 1 ∧ q = 0 then some [97] else none, fun j => if j = 1 then some ⟨1, 0, true⟩ else none, 2, 2, false⟩ := by
    simp [SSt.takeE, SSt.doE, SSt.sealL, SSt.log, SSt.setLog, Ent.parts, partsN]
    funext j
    split <;> rfl
  have r2' : (⟨d1, fun i q => if i = 1 ∧ q = 0 then some [97] else none, fun j => if j = 1 then some ⟨1, 0, false⟩ else none, 1, 1, false⟩ : SSt).record ⟨2, 1, 0, []⟩ = (0, ⟨d2, fun i q => if i = 1 ∧ q = 0 then some [97] else none, fun j => if j = 1 then some ⟨1, 0, true⟩ else none, 2, 2, false⟩) := by rw [← e2]; exact r2
  refine ⟨⟨d1, fun i q => if i = 1 ∧ q = 0 then some [97] else none, fun j => if j = 1 then some ⟨1, 0, false⟩ else none, 1, 1, false⟩, ⟨d2, fun i q => if i = 1 ∧ q = 0 then some [97] else none, fun j => if j = 1 then some ⟨1, 0, true⟩ else none, 2, 2, false⟩, ?_, ?_, ?_, ?_, ?_, ?_, c1, c2, c0⟩
  · rw [← r1]
    simp [SSt.put, isLogletN, isPlaceN, SSt.down, sst0, SSt.log, l0, newD]
  · simp [SSt.look, SSt.log]
  · rw [← r2']
    simp [SSt.seal, isLogletN, SSt.down, SSt.log, f1.on]
  · simp [SSt.look, SSt.log]
  · simp [SSt.put, isLogletN, isPlaceN, SSt.down, SSt.log, f2.on]
  · simp [SSt.get, isLogletN, isPlaceN, SSt.log]
theorem few_of {d : DSt} (h : d.clean) : ∀ x ∈ d.bs, x.vs.length ≤ 1000000 := fun x hx => by rw [h x hx]; simp
/-- A node made by a call that began in w0, and boxes of replies that lie beside it. -/
structure KN (w0 w : World) (B : Nat) (s : SSt) (X : List (Nat × Array Value)) : Prop where
  up : ∃ F, NUp w F B s ∧ (∀ g ∈ F, w0.heap.size ≤ g) ∧ ∀ x ∈ X, x.1 ∉ F
  box : ∀ x ∈ X, Blk w x.1 x.2 31
  below : Below w0.heap.size w0 w
variable {w0 w w' : World} {B : Nat} {s s' : SSt} {X : List (Nat × Array Value)}
theorem KN.later (h : KN w0 w B s X) (hb : Below w.heap.size w w') : KN w0 w' B s X := by
  obtain ⟨F, h1, h2, h3⟩ := h.up
  exact ⟨⟨F, h1.later hb, h2, h3⟩, fun x hx => (h.box x hx).later hb, h.below.trans (hb.mono h.below.size)⟩
theorem KN.alloc (h : KN w0 w B s X) (cs : Array Value) : KN w0 (w.alloc (.cells cs 31)) B s ((w.heap.size, cs) :: X) := by
  have hb : Below w.heap.size w (w.alloc (.cells cs 31)) := (Below.refl _ _).alloc (Nat.le_refl _) _
  have h' := h.later hb
  obtain ⟨F, h1, h2, h3⟩ := h.up
  have hlt : ∀ g ∈ F, g < w.heap.size := by obtain ⟨_, _, _, _, _, _, _, _, _, _, _, _, _, _, _, _, hl⟩ := h1; exact hl
  refine ⟨⟨F, h1.later hb, h2, fun x hx => ?_⟩, fun x hx => ?_, h'.below⟩
  · simp only [List.mem_cons] at hx
    rcases hx with rfl | hx
    · exact fun hm => absurd (hlt _ hm) (by simp)
    · exact h3 x hx
  · simp only [List.mem_cons] at hx
    rcases hx with rfl | hx
    · exact heap_alloc_last w _
    · exact h'.box x hx
theorem KN.ask {q : Part} {l : List Nat} (h : KN w0 w B s X) (hc : ∀ F, NUp w F B s → Calls Tryz.prog 29 #[.pointer (some ⟨B, 0, none⟩), .slice q.ad q.len q.cap] w (APost F B s' l w)) :
    Calls Tryz.prog 29 #[.pointer (some ⟨B, 0, none⟩), .slice q.ad q.len q.cap] w fun x w' => ∃ r : Part, x = .returned (.slice r.ad r.len r.cap) ∧ Hid (r.l = l ∧ r.ok w' ∧ r.len ≤ r.cap) ∧ Hid (KN w0 w' B s' X) := by
  obtain ⟨F, h1, h2, h3⟩ := h.up
  refine (hc F h1).mono ?_
  rintro x w' ⟨r, rfl, e1, k1, l1, ⟨⟨F', n1, hF'⟩, hch, -⟩⟩
  refine ⟨r, rfl, (show Hid _ from ⟨e1, k1, l1⟩), (show Hid _ from ⟨⟨F', n1, fun g hg => ?_, fun x hx hm => ?_⟩, fun x hx => (h.box x hx).chg hch (h3 x hx), ?_⟩)⟩
  · exact (hF' g hg).elim (h2 g) (fun hh => Nat.le_trans h.below.size hh)
  · exact (hF' _ hm).elim (h3 x hx) (fun hh => absurd (h.box x hx).lt (by omega))
  · exact h.below.trans (hch.below h2 h.below.size)

/-- The store stays where it is. -/
theorem KN.askP {q : Part} {l : List Nat} (h : KN w0 w B s X) (hc : ∀ F, NUp w F B s → Calls Tryz.prog 29 #[.pointer (some ⟨B, 0, none⟩), .slice q.ad q.len q.cap] w (APost F B s' l w)) :
    Calls Tryz.prog 29 #[.pointer (some ⟨B, 0, none⟩), .slice q.ad q.len q.cap] w fun x w' => ∃ r : Part, x = .returned (.slice r.ad r.len r.cap) ∧ Hid (r.l = l ∧ r.ok w' ∧ r.len ≤ r.cap) ∧ Hid (KN w0 w' B s' X) ∧ Hid (w'.cell? ⟨B, 1, none⟩ = w.cell? ⟨B, 1, none⟩) := by
  obtain ⟨F, h1, h2, h3⟩ := h.up
  refine (hc F h1).mono ?_
  rintro x w' ⟨r, rfl, e1, k1, l1, ⟨⟨F', n1, hF'⟩, hch, hcl⟩⟩
  refine ⟨r, rfl, (show Hid _ from ⟨e1, k1, l1⟩), (show Hid _ from ⟨⟨F', n1, fun g hg => ?_, fun x hx hm => ?_⟩, fun x hx => (h.box x hx).chg hch (h3 x hx), ?_⟩), hcl⟩
  · exact (hF' g hg).elim (h2 g) (fun hh => Nat.le_trans h.below.size hh)
  · exact (hF' _ hm).elim (h3 x hx) (fun hh => absurd (h.box x hx).lt (by omega))
  · exact h.below.trans (hch.below h2 h.below.size)

set_option maxRecDepth 100000 in
set_option maxHeartbeats 8000000 in
theorem knows5 (w : World) : Calls Tryz.prog 23 #[] w fun e w' => e = .returned (.bool true) ∧ Below w.heap.size w w' := by
  obtain ⟨s1, s2, p1, p2, p3, p4, p5, p6, d1, d2, d0⟩ := knowsM5
  have HNEW := new_up 8 w (by omega) (by omega)
  have HN : Hid (∀ x w1, NewPost (sst0 (newD (8 : Int).toNat)) w x w1 → ∃ B, x = .returned (.tuple #[.pointer (some ⟨B, 0, none⟩), .int .i64 0]) ∧ Hid (KN w w1 B (sst0 (newD 8)) [])) := (show Hid _ from fun x w1 hx => by
    obtain ⟨F, B, rfl, hu, hF, hb⟩ := hx
    exact ⟨B, rfl, (show Hid _ from ⟨⟨F, hu, hF, fun x hx => (by cases hx)⟩, fun x hx => (by cases hx), hb⟩)⟩)
  have HQ : Hid (∀ (k g p : Nat) (t : List Nat) (str : ByteArray) (W : World), sbytes str = t → reqMay k g p str.size = true → Calls Tryz.prog 47 #[.int .i64 (k : Int), .int .i64 (g : Int), .int .i64 (p : Int), .string str] W fun x W' => ∃ q : Part, x = .returned (.slice q.ad q.len q.cap) ∧ Hid (q.l = frameBs 1 (requestN k g p t) ∧ q.ok W' ∧ q.len ≤ q.cap) ∧ Below W.heap.size W W') := (show Hid _ from fun k g p t str W ht hm => by
    subst ht
    refine (asks5 k g p str W rfl rfl rfl hm).mono ?_
    rintro x W' ⟨q, rfl, e1, k1, l1, b1⟩
    exact ⟨q, rfl, (show Hid _ from ⟨e1.out, k1.out, l1.out⟩), b1⟩)
  have HA1 : Hid (∀ (W : World) (B : Nat) (X : List (Nat × Array Value)) (q : Part), KN w W B (sst0 (newD 8)) X → (q.l = frameBs 1 (requestN 1 1 0 [97]) ∧ q.ok W ∧ q.len ≤ q.cap) → Calls Tryz.prog 29 #[.pointer (some ⟨B, 0, none⟩), .slice q.ad q.len q.cap] W fun x w' => ∃ r : Part, x = .returned (.slice r.ad r.len r.cap) ∧ Hid (r.l = frameBs 2 (replyN 0 1 false.toNat []) ∧ r.ok w' ∧ r.len ≤ r.cap) ∧ Hid (KN w w' B s1 X)) := (show Hid _ from fun W B X q hK ⟨e1, k1, l1⟩ => hK.ask (fun F hN => by
    have r := ask_write hN q 1 0 [97] e1 k1 l1 rfl (few_of d0) s1 0 p1 (by omega) (by omega)
    rw [show (((1 : Nat) : Int)) = 1 from rfl, p2] at r
    exact r))
  have HA2 : Hid (∀ (W : World) (B : Nat) (X : List (Nat × Array Value)) (q : Part), KN w W B s1 X → (q.l = frameBs 1 (requestN 3 1 0 []) ∧ q.ok W ∧ q.len ≤ q.cap) → Calls Tryz.prog 29 #[.pointer (some ⟨B, 0, none⟩), .slice q.ad q.len q.cap] W fun x w' => ∃ r : Part, x = .returned (.slice r.ad r.len r.cap) ∧ Hid (r.l = frameBs 2 (replyN 0 1 true.toNat []) ∧ r.ok w' ∧ r.len ≤ r.cap) ∧ Hid (KN w w' B s2 X)) := (show Hid _ from fun W B X q hK ⟨e1, k1, l1⟩ => hK.ask (fun F hN => by
    have r := ask_seal hN q 1 e1 k1 l1 rfl (few_of d1) s2 0 p3 (by omega) (by omega)
    rw [show (((1 : Nat) : Int)) = 1 from rfl, p4] at r
    exact r))
  have HA3 : Hid (∀ (W : World) (B : Nat) (X : List (Nat × Array Value)) (q : Part), KN w W B s2 X → (q.l = frameBs 1 (requestN 1 1 1 [98]) ∧ q.ok W ∧ q.len ≤ q.cap) → Calls Tryz.prog 29 #[.pointer (some ⟨B, 0, none⟩), .slice q.ad q.len q.cap] W fun x w' => ∃ r : Part, x = .returned (.slice r.ad r.len r.cap) ∧ Hid (r.l = frameBs 2 (replyN 30 1 true.toNat []) ∧ r.ok w' ∧ r.len ≤ r.cap) ∧ Hid (KN w w' B s2 X)) := (show Hid _ from fun W B X q hK ⟨e1, k1, l1⟩ => hK.ask (fun F hN => by
    have r := ask_write hN q 1 1 [98] e1 k1 l1 rfl (few_of d2) s2 30 p5 (by omega) (by omega)
    rw [show (((1 : Nat) : Int)) = 1 from rfl, p4] at r
    exact r))
  have HA4 : Hid (∀ (W : World) (B : Nat) (X : List (Nat × Array Value)) (q : Part), KN w W B s2 X → (q.l = frameBs 1 (requestN 4 1 0 []) ∧ q.ok W ∧ q.len ≤ q.cap) → Calls Tryz.prog 29 #[.pointer (some ⟨B, 0, none⟩), .slice q.ad q.len q.cap] W fun x w' => ∃ r : Part, x = .returned (.slice r.ad r.len r.cap) ∧ Hid (r.l = frameBs 2 (replyN 0 1 true.toNat [97]) ∧ r.ok w' ∧ r.len ≤ r.cap) ∧ Hid (KN w w' B s2 X)) := (show Hid _ from fun W B X q hK ⟨e1, k1, l1⟩ => hK.ask (fun F hN => by
    have r := ask_read hN q 1 0 e1 k1 l1 rfl 0 [97] p6 (by simp) (by omega) (by omega)
    rw [show (((1 : Nat) : Int)) = 1 from rfl, p4] at r
    exact r))
  have HR : Hid (∀ (e t : Nat) (sl : Bool) (dl : List Nat) (W : World) (q : Part), e ≤ 255 → t ≤ 4096 → dl.length ≤ 65504 → (q.l = frameBs 2 (replyN e t sl.toNat dl) ∧ q.ok W ∧ q.len ≤ q.cap) → Calls Tryz.prog 17 #[.slice q.ad q.len q.cap] W fun x w' => ∃ g o n c : Nat, x = .returned (.tuple #[.agg #[.int .i64 (e : Int), .int .i64 (t : Int), .bool sl, .slice (some ⟨g, o, none⟩) n c], .int .i64 0]) ∧ Hid (Part.ok w' ⟨some ⟨g, o, none⟩, n, c, dl⟩) ∧ Below W.heap.size W w') := (show Hid _ from fun e t sl dl W q he ht hd ⟨e1, k1, l1⟩ => getRep_of q e t sl dl W e1 k1 l1 he ht hd)
  clear p1 p2 p3 p4 p5 p6 d0 d1 d2
  go_enter Tryz.func23, Tryz.ntmps23
  go_wp2_with (first
    | (go_at_call 24; refine HNEW.mono ?_; intro x w1 hx; obtain ⟨B, rfl, K1⟩ := HN.out _ _ hx; clear hx HN HNEW)
    | (go_at_call 19; refine (num5_any _ _).mono ?_; rintro x w' ⟨rfl, hw'⟩; obtain rfl := hw'.symm)
    | (go_at_call 47; (with_reducible_and_instances (refine (HQ.out 1 1 0 [97] _ w1 rfl rfl).mono ?_)); rintro x a1w ⟨q1, rfl, Q1, b⟩; have KA1 : Hid (KN w a1w B (sst0 (newD 8)) []) := (show Hid _ from K1.out.later b); clear b K1)
    | (go_at_call 29; (with_reducible_and_instances (refine (HA1.out a1w B _ q1 KA1.out Q1.out).mono ?_)); rintro x b1w ⟨r1, rfl, R1, KB1⟩; clear KA1 Q1 HA1)
    | (go_at_call 17; (with_reducible_and_instances (refine (HR.out 0 1 false [] b1w r1 (by omega) (by omega) (by simp) R1.out).mono ?_)); rintro x c1w ⟨g1, o1, n1, c1, rfl, P1, b⟩; have K2 : Hid (KN w (c1w.alloc (.cells #[.int .i64 0, .int .i64 1, .bool false, .slice (some ⟨g1, o1, none⟩) n1 c1] 31)) B s1 [(c1w.heap.size, #[.int .i64 0, .int .i64 1, .bool false, .slice (some ⟨g1, o1, none⟩) n1 c1])]) := (show Hid _ from (KB1.out.later b).alloc _); clear b KB1 R1)
    | (go_at_call 47; (with_reducible_and_instances (refine (HQ.out 3 1 0 [] _ (c1w.alloc (.cells #[.int .i64 0, .int .i64 1, .bool false, .slice (some ⟨g1, o1, none⟩) n1 c1] 31)) rfl rfl).mono ?_)); rintro x a2w ⟨q2, rfl, Q2, b⟩; have KA2 : Hid (KN w a2w B s1 [(c1w.heap.size, #[.int .i64 0, .int .i64 1, .bool false, .slice (some ⟨g1, o1, none⟩) n1 c1])]) := (show Hid _ from K2.out.later b); clear b K2)
    | (go_at_call 29; (with_reducible_and_instances (refine (HA2.out a2w B _ q2 KA2.out Q2.out).mono ?_)); rintro x b2w ⟨r2, rfl, R2, KB2⟩; clear KA2 Q2 HA2)
    | (go_at_call 17; (with_reducible_and_instances (refine (HR.out 0 1 true [] b2w r2 (by omega) (by omega) (by simp) R2.out).mono ?_)); rintro x c2w ⟨g2, o2, n2, c2, rfl, P2, b⟩; have K3 : Hid (KN w (c2w.alloc (.cells #[.int .i64 0, .int .i64 1, .bool true, .slice (some ⟨g2, o2, none⟩) n2 c2] 31)) B s2 [(c2w.heap.size, #[.int .i64 0, .int .i64 1, .bool true, .slice (some ⟨g2, o2, none⟩) n2 c2]), (c1w.heap.size, #[.int .i64 0, .int .i64 1, .bool false, .slice (some ⟨g1, o1, none⟩) n1 c1])]) := (show Hid _ from (KB2.out.later b).alloc _); clear b KB2 R2)
    | (go_at_call 47; (with_reducible_and_instances (refine (HQ.out 1 1 1 [98] _ (c2w.alloc (.cells #[.int .i64 0, .int .i64 1, .bool true, .slice (some ⟨g2, o2, none⟩) n2 c2] 31)) rfl rfl).mono ?_)); rintro x a3w ⟨q3, rfl, Q3, b⟩; have KA3 : Hid (KN w a3w B s2 [(c2w.heap.size, #[.int .i64 0, .int .i64 1, .bool true, .slice (some ⟨g2, o2, none⟩) n2 c2]), (c1w.heap.size, #[.int .i64 0, .int .i64 1, .bool false, .slice (some ⟨g1, o1, none⟩) n1 c1])]) := (show Hid _ from K3.out.later b); clear b K3)
    | (go_at_call 29; (with_reducible_and_instances (refine (HA3.out a3w B _ q3 KA3.out Q3.out).mono ?_)); rintro x b3w ⟨r3, rfl, R3, KB3⟩; clear KA3 Q3 HA3)
    | (go_at_call 17; (with_reducible_and_instances (refine (HR.out 30 1 true [] b3w r3 (by omega) (by omega) (by simp) R3.out).mono ?_)); rintro x c3w ⟨g3, o3, n3, c3, rfl, P3, b⟩; have K4 : Hid (KN w (c3w.alloc (.cells #[.int .i64 30, .int .i64 1, .bool true, .slice (some ⟨g3, o3, none⟩) n3 c3] 31)) B s2 [(c3w.heap.size, #[.int .i64 30, .int .i64 1, .bool true, .slice (some ⟨g3, o3, none⟩) n3 c3]), (c2w.heap.size, #[.int .i64 0, .int .i64 1, .bool true, .slice (some ⟨g2, o2, none⟩) n2 c2]), (c1w.heap.size, #[.int .i64 0, .int .i64 1, .bool false, .slice (some ⟨g1, o1, none⟩) n1 c1])]) := (show Hid _ from (KB3.out.later b).alloc _); clear b KB3 R3)
    | (go_at_call 47; (with_reducible_and_instances (refine (HQ.out 4 1 0 [] _ (c3w.alloc (.cells #[.int .i64 30, .int .i64 1, .bool true, .slice (some ⟨g3, o3, none⟩) n3 c3] 31)) rfl rfl).mono ?_)); rintro x a4w ⟨q4, rfl, Q4, b⟩; have KA4 : Hid (KN w a4w B s2 [(c3w.heap.size, #[.int .i64 30, .int .i64 1, .bool true, .slice (some ⟨g3, o3, none⟩) n3 c3]), (c2w.heap.size, #[.int .i64 0, .int .i64 1, .bool true, .slice (some ⟨g2, o2, none⟩) n2 c2]), (c1w.heap.size, #[.int .i64 0, .int .i64 1, .bool false, .slice (some ⟨g1, o1, none⟩) n1 c1])]) := (show Hid _ from K4.out.later b); clear b K4)
    | (go_at_call 29; (with_reducible_and_instances (refine (HA4.out a4w B _ q4 KA4.out Q4.out).mono ?_)); rintro x b4w ⟨r4, rfl, R4, KB4⟩; clear KA4 Q4 HA4)
    | (go_at_call 17; (with_reducible_and_instances (refine (HR.out 0 1 true [97] b4w r4 (by omega) (by omega) (by simp) R4.out).mono ?_)); rintro x c4w ⟨g4, o4, n4, c4, rfl, P4, b⟩; have K5 : Hid (KN w (c4w.alloc (.cells #[.int .i64 0, .int .i64 1, .bool true, .slice (some ⟨g4, o4, none⟩) n4 c4] 31)) B s2 [(c4w.heap.size, #[.int .i64 0, .int .i64 1, .bool true, .slice (some ⟨g4, o4, none⟩) n4 c4]), (c3w.heap.size, #[.int .i64 30, .int .i64 1, .bool true, .slice (some ⟨g3, o3, none⟩) n3 c3]), (c2w.heap.size, #[.int .i64 0, .int .i64 1, .bool true, .slice (some ⟨g2, o2, none⟩) n2 c2]), (c1w.heap.size, #[.int .i64 0, .int .i64 1, .bool false, .slice (some ⟨g1, o1, none⟩) n1 c1])]) := (show Hid _ from (KB4.out.later b).alloc _); have x1 := (K5.out.box _ (List.mem_cons_of_mem _ (List.mem_cons_of_mem _ (List.mem_cons_of_mem _ List.mem_cons_self)))).cell 0; have x2 := (K5.out.box _ (List.mem_cons_of_mem _ (List.mem_cons_of_mem _ (List.mem_cons_of_mem _ List.mem_cons_self)))).cell 1; have x3 := (K5.out.box _ (List.mem_cons_of_mem _ (List.mem_cons_of_mem _ List.mem_cons_self))).cell 2; have x4 := (K5.out.box _ (List.mem_cons_of_mem _ List.mem_cons_self)).cell 0; have kc := conv_any (P4.out.later ((Below.refl _ _).alloc (Nat.le_refl _) (.cells #[.int .i64 0, .int .i64 1, .bool true, .slice (some ⟨g4, o4, none⟩) n4 c4] 31))).2.2 n4 c4 P4.out.1; rw [show bstr [97] = ⟨#[97]⟩ from rfl] at kc; simp only at kc x1 x2 x3 x4; clear b KB4 R4))
  go_ret
  exact ⟨by simp, K5.out.below⟩
end Go.Proofs.YtjldflfoncfndaaGreat
namespace Go.Proofs.YtjldflfoncfndaaGreat
open Go.RowKit Crcm

def putRepN (e t : Int) (s : Bool) (l : List Nat) : Int × List Nat := if repMay e t l.length = true then (0, frameBs 2 (replyN e.toNat t.toNat s.toNat l)) else (1, [])
structure RepN where
  z : Int
  e : Int
  t : Int
  s : Bool
  d : List Nat
def getRepN (l : List Nat) : RepN := if unpackN l 2 4 = true ∧ repIn (bodyAt l 0) = true then ⟨0, (repE (bodyAt l 0) : Nat), (repT (bodyAt l 0) : Nat), ((repS (bodyAt l 0) : Int) == 1), (bodyAt l 0).drop 4⟩ else ⟨22, 0, 0, false, []⟩
theorem nil_ok (w : World) : Part.ok w ⟨none, 0, 0, []⟩ := ⟨rfl, fun _ => ⟨rfl, rfl⟩, fun _ h => (by cases h), Or.inl rfl⟩
theorem repMay_nat {e t : Int} {n : Nat} (h : repMay e t n = true) : ∃ a b : Nat, e = a ∧ t = b ∧ a ≤ 255 ∧ b ≤ 4096 ∧ n ≤ 65504 := by
  simp only [repMay, Bool.and_eq_true, decide_eq_true_eq] at h
  exact ⟨e.toNat, t.toNat, by omega, by omega, by omega, by omega, by omega⟩
/-- What a Put answers. -/
def PPost (r : Int × List Nat) (w : World) (x : Ending) (w' : World) : Prop := ∃ q : Part, x = .returned (.tuple #[.slice q.ad q.len q.cap, .int .i64 r.1]) ∧ Hid (q.l = r.2 ∧ q.ok w' ∧ q.len ≤ q.cap) ∧ Below w.heap.size w w'
theorem putReply_any (e t : Int) (s : Bool) (ad : Option Addr) (len cap : Nat) (l : List Nat) (w : World) (ha : Part.ok w ⟨ad, len, cap, l⟩) : Calls Tryz.prog 12 #[repV e t s ad len cap] w (PPost (putRepN e t s l) w) := by
  have hl : l.length = len := ha.1
  unfold putRepN
  cases hm : repMay e t l.length with
  | true =>
    rw [if_pos rfl]
    rw [hl] at hm
    obtain ⟨a, b, rfl, rfl, h1, h2, h3⟩ := repMay_nat hm
    refine (putReply_ok a b s ad len cap l w h1 h2 h3 ha).mono ?_
    rintro x w' ⟨q, rfl, e1, k1, o1, b1⟩
    exact ⟨q, rfl, (show Hid _ from ⟨e1.out, k1.out, own_lc o1.out⟩), b1⟩
  | false =>
    rw [if_neg (by simp)]
    rw [hl] at hm
    refine (putReply_no e t s ad len cap w hm).mono ?_
    rintro x w' ⟨rfl, b1⟩
    exact ⟨⟨none, 0, 0, []⟩, rfl, (show Hid _ from ⟨rfl, nil_ok _, Nat.le_refl _⟩), b1⟩
/-- What the document's Put answers. -/
def QPost (r : Int × List Nat) (w : World) (x : Ending) (w' : World) : Prop := ∃ q : Part, x = .returned (.tuple #[.slice q.ad q.len q.cap, .int .i64 r.1]) ∧ Hid (q.l = r.2 ∧ q.ok w') ∧ Below w.heap.size w w'
theorem refPutReply_any (e t : Int) (s : Bool) (ad : Option Addr) (len cap : Nat) (l : List Nat) (w : World) (ha : Part.ok w ⟨ad, len, cap, l⟩) : Calls Tryz.prog 13 #[repV e t s ad len cap] w (QPost (putRepN e t s l) w) := by
  have hl : l.length = len := ha.1
  unfold putRepN
  cases hm : repMay e t l.length with
  | true =>
    rw [if_pos rfl]
    rw [hl] at hm
    obtain ⟨a, b, rfl, rfl, h1, h2, h3⟩ := repMay_nat hm
    cases s with
    | false =>
      refine (refPutReply_false a b ad len cap l w h1 h2 h3 ha).mono ?_
      rintro x w' ⟨q, rfl, e1, k1, b1⟩
      exact ⟨q, rfl, (show Hid _ from ⟨e1.out, k1.out⟩), b1⟩
    | true =>
      refine (refPutReply_true a b ad len cap l w h1 h2 h3 ha).mono ?_
      rintro x w' ⟨q, rfl, e1, k1, b1⟩
      exact ⟨q, rfl, (show Hid _ from ⟨e1.out, k1.out⟩), b1⟩
  | false =>
    rw [if_neg (by simp)]
    rw [hl] at hm
    refine (refPutReply_no e t s ad len cap w hm).mono ?_
    rintro x w' ⟨rfl, b1⟩
    exact ⟨⟨none, 0, 0, []⟩, rfl, (show Hid _ from ⟨rfl, nil_ok _⟩), b1⟩
def GRPost (r : RepN) (w : World) (x : Ending) (w' : World) : Prop := ∃ q : Part, x = .returned (.tuple #[.agg #[.int .i64 r.e, .int .i64 r.t, .bool r.s, .slice q.ad q.len q.cap], .int .i64 r.z]) ∧ Hid (q.l = r.d ∧ q.ok w') ∧ Below w.heap.size w w'
theorem getReply_any (ad : Option Addr) (len cap : Nat) (l : List Nat) (w : World) (hp : Part.ok w ⟨ad, len, cap, l⟩) (hlc : len ≤ cap) (hm : len ≤ 1000000000000000) : Calls Tryz.prog 17 #[.slice ad len cap] w (GRPost (getRepN l) w) := by
  unfold getRepN
  cases hu : unpackN l 2 4 with
  | false =>
    rw [if_neg (by simp)]
    refine (getReply_no1 ad len cap l w hp hlc hm hu).mono ?_
    rintro x w' ⟨rfl, b1⟩
    exact ⟨⟨none, 0, 0, []⟩, rfl, (show Hid _ from ⟨rfl, nil_ok _⟩), b1⟩
  | true =>
    refine (getReply_frame ad len cap l w hp hlc hm hu).mono ?_
    rintro x w' ⟨⟨h1, rfl⟩ | ⟨h1, g, o, n, c, rfl, h3, h4, h5⟩, hb⟩
    · rw [h1, if_neg (by simp)]
      exact ⟨⟨none, 0, 0, []⟩, rfl, (show Hid _ from ⟨rfl, nil_ok _⟩), hb⟩
    · rw [h1, if_pos ⟨rfl, rfl⟩]
      exact ⟨⟨some ⟨g, o, none⟩, n, c, _⟩, rfl, (show Hid _ from ⟨rfl, h3⟩), hb⟩
theorem refGetReply_any (ad : Option Addr) (len cap : Nat) (l : List Nat) (w : World) (hp : Part.ok w ⟨ad, len, cap, l⟩) (hlc : len ≤ cap) (hm : len ≤ 1000000000000000) : Calls Tryz.prog 18 #[.slice ad len cap] w (GRPost (getRepN l) w) := by
  unfold getRepN
  cases hu : unpackN l 2 4 with
  | false =>
    rw [if_neg (by simp)]
    refine (refGetReply_no1 ad len cap l w hp hlc hm hu).mono ?_
    rintro x w' ⟨rfl, b1⟩
    exact ⟨⟨none, 0, 0, []⟩, rfl, (show Hid _ from ⟨rfl, nil_ok _⟩), b1⟩
  | true =>
    refine (refGetReply_frame ad len cap l w hp hlc hm hu).mono ?_
    rintro x w' ⟨⟨h1, rfl⟩ | ⟨h1, q, rfl, h3, h4⟩, hb⟩
    · rw [h1, if_neg (by simp)]
      exact ⟨⟨none, 0, 0, []⟩, rfl, (show Hid _ from ⟨rfl, nil_ok _⟩), hb⟩
    · rw [h1, if_pos ⟨rfl, rfl⟩]
      exact ⟨q, rfl, (show Hid _ from ⟨h3, h4⟩), hb⟩
end Go.Proofs.YtjldflfoncfndaaGreat
namespace Go.Proofs.YtjldflfoncfndaaGreat
open Go.RowKit Crcm

theorem Blk.four {w : World} {B : Nat} {a b c d : Value} {T : TypeId} (h : Blk w B #[a, b, c, d] T) : w.cell? ⟨B, 0, none⟩ = some a ∧ w.cell? ⟨B, 1, none⟩ = some b ∧ w.cell? ⟨B, 2, none⟩ = some c ∧ w.cell? ⟨B, 3, none⟩ = some d := ⟨h.cell 0, h.cell 1, h.cell 2, h.cell 3⟩
theorem part_bytes {w : World} {q : Part} {l : List Nat} (h : q.l = l ∧ q.ok w) : Row w q.ad l ∧ l.length = q.len := by
  obtain ⟨e, k⟩ := h
  subst e
  exact ⟨k.2.2, k.1⟩
theorem conv_part {w : World} {q : Part} {l : List Nat} (h : q.l = l ∧ q.ok w) : (convert 22 9 (.slice q.ad q.len q.cap)).run Tryz.prog w = .ok (.string (bstr l)) w := conv_any (part_bytes h).1 q.len q.cap (part_bytes h).2
theorem part_is {w : World} {q : Part} {l : List Nat} (h : q.l = l ∧ q.ok w) : Part.ok w ⟨q.ad, q.len, q.cap, l⟩ := by
  obtain ⟨e, k⟩ := h
  subst e
  exact k
theorem part_la {w w' : World} {q : Part} {l : List Nat} (h : q.l = l ∧ q.ok w) (hb : Below w.heap.size w w') : q.l = l ∧ q.ok w' := ⟨h.1, h.2.later hb⟩
theorem getReply_at {rz re rt : Int} {rs : Bool} {rd l : List Nat} (hr : getRepN l = ⟨rz, re, rt, rs, rd⟩) (hlen : l.length ≤ 1000000000000000) (W : World) (q : Part) (hq : q.l = l ∧ q.ok W) (hlc : q.len ≤ q.cap) :
    Calls Tryz.prog 17 #[.slice q.ad q.len q.cap] W fun x w' => ∃ s : Part, x = .returned (.tuple #[.agg #[.int .i64 re, .int .i64 rt, .bool rs, .slice s.ad s.len s.cap], .int .i64 rz]) ∧ Hid (s.l = rd ∧ s.ok w') ∧ Below W.heap.size W w' := by
  have h := getReply_any q.ad q.len q.cap l W (part_is hq) hlc (by rw [← (part_is hq).1]; exact hlen)
  rw [hr] at h
  exact h
theorem refGetReply_at {rz re rt : Int} {rs : Bool} {rd l : List Nat} (hr : getRepN l = ⟨rz, re, rt, rs, rd⟩) (hlen : l.length ≤ 1000000000000000) (W : World) (ad : Option Addr) (len cap : Nat) (hq : Part.ok W ⟨ad, len, cap, l⟩) (hlc : len ≤ cap) :
    Calls Tryz.prog 18 #[.slice ad len cap] W fun x w' => ∃ s : Part, x = .returned (.tuple #[.agg #[.int .i64 re, .int .i64 rt, .bool rs, .slice s.ad s.len s.cap], .int .i64 rz]) ∧ Hid (s.l = rd ∧ s.ok w') ∧ Below W.heap.size W w' := by
  have h := refGetReply_any ad len cap l W hq hlc (by have e : l.length = len := hq.1; omega)
  rw [hr] at h
  exact h
theorem putReply_at {z e t : Int} {s : Bool} {l b : List Nat} (hr : putRepN e t s l = (z, b)) (W : World) (q : Part) (hq : q.l = l ∧ q.ok W) :
    Calls Tryz.prog 12 #[.agg #[.int .i64 e, .int .i64 t, .bool s, .slice q.ad q.len q.cap]] W fun x w' => ∃ s : Part, x = .returned (.tuple #[.slice s.ad s.len s.cap, .int .i64 z]) ∧ Hid (s.l = b ∧ s.ok w' ∧ s.len ≤ s.cap) ∧ Below W.heap.size W w' := by
  have h := putReply_any e t s q.ad q.len q.cap l W (part_is hq)
  rw [hr] at h
  exact h
theorem refPutReply_at {z e t : Int} {s : Bool} {l b : List Nat} (hr : putRepN e t s l = (z, b)) (W : World) (ad : Option Addr) (len cap : Nat) (hq : Part.ok W ⟨ad, len, cap, l⟩) :
    Calls Tryz.prog 13 #[.agg #[.int .i64 e, .int .i64 t, .bool s, .slice ad len cap]] W fun x w' => ∃ s : Part, x = .returned (.tuple #[.slice s.ad s.len s.cap, .int .i64 z]) ∧ Hid (s.l = b ∧ s.ok w') ∧ Below W.heap.size W w' := by
  have h := refPutReply_any e t s ad len cap l W hq
  rw [hr] at h
  exact h
theorem sameReply_at (e t : Int) (s : Bool) (q q' : Part) (l : List Nat) (w : World) (h1 : q.l = l ∧ q.ok w) (h2 : q'.l = l ∧ q'.ok w) :
    Calls Tryz.prog 21 #[.agg #[.int .i64 e, .int .i64 t, .bool s, .slice q.ad q.len q.cap], .agg #[.int .i64 e, .int .i64 t, .bool s, .slice q'.ad q'.len q'.cap]] w fun x w' => x = .returned (.bool true) ∧ Below w.heap.size w w' :=
  sameReply_yes e t s q.ad q'.ad q.len q.cap q'.len q'.cap l w (part_is h1) (part_is h2)
/-- What 'append([]byte{}, x...)' is, with its room. -/
theorem own_partc {w : World} {base n : Nat} {v : Value} {L : List Nat} (h : w.ownsRow base 5 1 v n (L.map bv)) (hx : ∀ x ∈ L, x < 256) (hn : L.length = n) : ∃ p : Part, v = .slice p.ad p.len p.cap ∧ (p.l = L ∧ p.ok w) ∧ p.len ≤ p.cap := by
  subst hn
  have o : Own w base v L := ⟨hx, h⟩
  obtain ⟨p, rfl, h1, h2⟩ := Part.of_own o
  exact ⟨p, rfl, ⟨h1, h2⟩, own_lc o⟩
end Go.Proofs.YtjldflfoncfndaaGreat
