/- PutReply and PutRequest of the document's package of layer 5. framed of the document's package of layer 5: the body of a frame that the whole of some bytes is. -/
import Derived.Test.YtjldflfoncfndaaGreatRTells
import Derived.Test.YtjldflfoncfndaaGreatPPut
import Derived.Test.YtjldflfoncfndaaGreatPRef
import Derived.Test.YtjldflfoncfndaaGreatPNode
namespace Go.Proofs.YtjldflfoncfndaaGreat
open Go.RowKit Crcm

theorem bytes_at {z s : Int} (n size : Nat) (w : World) (hz : z = n) (hs : s = size) (h6 : size ≤ 6) :
    Calls Tryz.prog 39 #[.int .i64 z, .int .i64 s] w fun e w' => ∃ p : Part, e = .returned (.slice p.ad p.len p.cap) ∧ Hid (p.l = spellN n size) ∧ Hid (p.ok w') ∧ Below w.heap.size w w' := by
  subst hz hs
  refine (bytes_any n size w h6).mono ?_
  rintro e w' ⟨v, rfl, hown, hb⟩
  obtain ⟨p, rfl, h1, h2⟩ := Part.of_own hown
  exact ⟨p, rfl, h1, h2, hb⟩
theorem refFrame_at {z : Int} (kind : Nat) (p : Part) (w : World) (hz : z = kind) (hk : kind ≤ 255) (hl : p.len ≤ 65536) (hp : p.ok w) :
    Calls Tryz.prog 40 #[.int .i64 z, .slice p.ad p.len p.cap] w fun e w' => ∃ q : Part, e = .returned (.tuple #[.slice q.ad q.len q.cap, .int .i64 0]) ∧ Hid (q.l = frameBs kind p.l) ∧ Hid (q.ok w') ∧ Below w.heap.size w w' := by
  subst hz
  refine (refFrame_ok kind p.ad p.len p.cap p.l w hk hl hp).mono ?_
  rintro e w' ⟨v, rfl, hown, hb⟩
  obtain ⟨q, rfl, h1, h2⟩ := Part.of_own hown
  exact ⟨q, rfl, h1, h2, hb⟩
/-- One byte in a block of its own. -/
theorem one_row (w : World) (x : Nat) (z : Int) (hz : z = x) (hx : x < 256) : Row (w.alloc (.cells #[.int .u8 z] 5)) (some ⟨w.heap.size, 0, none⟩) [x] := by
  subst hz
  refine ⟨fun y hy => by simp at hy; omega, Or.inr ⟨w.heap.size, 0, rfl, by simp, fun i hi => ?_⟩⟩
  have hi0 : i = 0 := by simpa using hi
  subst hi0
  rw [cell_of_row _ w.heap.size _ _ 5 (0, 0) (heap_alloc_new w _)]
  rfl
theorem one_own (w : World) (base : Nat) (x : Nat) (z : Int) (hz : z = x) (hb : base ≤ w.heap.size) : (w.alloc (.cells #[.int .u8 z] 5)).ownsRow base 5 1 (.slice (some ⟨w.heap.size, 0, none⟩) 1 1) 1 ([x].map bv) := by
  subst hz
  exact World.ownsRow_lit w _ 1 hb (by unfold maxLen; omega) rfl
theorem own_part {w : World} {base n : Nat} {v : Value} {L : List Nat} (h : w.ownsRow base 5 1 v n (L.map bv)) (hx : ∀ x ∈ L, x < 256) (hn : L.length = n) : ∃ p : Part, v = .slice p.ad p.len p.cap ∧ p.l = L ∧ p.ok w := by
  subst hn
  exact Part.of_own (show Own w base v L from ⟨hx, h⟩)
theorem part_of {p : Part} {w : World} {l : List Nat} (h : p.ok w) (e : p.l = l) : l.length = p.len ∧ (p.ad = none → p.len = 0 ∧ p.cap = 0) ∧ Row w p.ad l := by
  rw [← e]; exact h
theorem part_len {p : Part} {w : World} {l : List Nat} {n : Nat} (h : p.ok w) (e : p.l = l) (hn : l.length = n) : p.len = n := by
  rw [← h.1, e, hn]
theorem grown_below {N : Nat} {w0 w w' : World} {v : Value} {e size n : Nat} {xs : List Value} (b : Below N w0 w) (h : w.ownsRow N e size v n xs) (hg : w.grownBy w' v.ownBlock) (hN : N ≤ w.heap.size) : Below N w0 w' :=
  b.grown hg hN (fun k hk => (h.lt k hk).1)
theorem lt_app {a b : List Nat} (ha : ∀ x ∈ a, x < 256) (hb : ∀ x ∈ b, x < 256) : ∀ x ∈ a ++ b, x < 256 := by
  intro x hx
  rcases List.mem_append.1 hx with h | h
  · exact ha x h
  · exact hb x h
theorem lt_one {x : Nat} (h : x < 256) : ∀ y ∈ [x], y < 256 := by intro y hy; simp at hy; omega
theorem alloc_drew {N : Nat} {w0 w : World} (b : Below N w0 w) (hN : N ≤ w.heap.size) (o : Obj) : Below N w0 (w.alloc o).drew := (b.alloc hN o).drew
set_option maxRecDepth 100000 in
set_option maxHeartbeats 4000000 in
theorem refPutReply_no (e t : Int) (s : Bool) (ad : Option Addr) (len cap : Nat) (w : World) (hmay : repMay e t len = false) :
    Calls Tryz.prog 13 #[repV e t s ad len cap] w fun x w' => x = .returned (.tuple #[.slice none 0 0, .int .i64 1]) ∧ Below w.heap.size w w' := by
  have HM := tells_any e t s ad len cap (w.alloc (.cells #[.int .i64 e, .int .i64 t, .bool s, .slice ad len cap] 26))
  rw [hmay] at HM
  have HB : Hid (Below w.heap.size w (w.alloc (.cells #[.int .i64 e, .int .i64 t, .bool s, .slice ad len cap] 26))) := (show Hid _ from (Below.refl _ w).alloc (Nat.le_refl _) _)
  clear hmay
  unfold repV at HM ⊢
  go_enter Tryz.func13, Tryz.ntmps13
  go_wp2_with (go_at_call 42; refine HM.mono ?_; rintro x W1 ⟨rfl, hb1⟩)
  go_ret2
  exact ⟨rfl, HB.out.trans (hb1.mono HB.out.size)⟩
/-- The bytes of a reply, the document's way. -/
theorem reply_eq (e t s : Nat) (l : List Nat) (he : e ≤ 255) (hs : s ≤ 1) : ([e] ++ spellN t 2) ++ [s] ++ l = replyN e t s l := by
  unfold replyN
  rw [spell_one e he, spell_one s (by omega)]
theorem reply_lt {e t s : Nat} {l : List Nat} (he : e ≤ 255) (hs : s ≤ 1) (hl : ∀ x ∈ l, x < 256) : ∀ x ∈ ([e] ++ spellN t 2) ++ [s] ++ l, x < 256 :=
  lt_app (lt_app (lt_app (lt_one (by omega)) (spellN_lt _ _)) (lt_one (by omega))) hl
set_option maxRecDepth 100000 in
set_option maxHeartbeats 8000000 in
theorem refPutReply_false (e t : Nat) (ad : Option Addr) (len cap : Nat) (l : List Nat) (w : World) (he : e ≤ 255) (ht : t ≤ 4096) (hlen : len ≤ 65504) (ha : Part.ok w ⟨ad, len, cap, l⟩) :
    Calls Tryz.prog 13 #[repV e t false ad len cap] w fun x w' => ∃ p : Part, x = .returned (.tuple #[.slice p.ad p.len p.cap, .int .i64 0]) ∧ Hid (p.l = frameBs 2 (replyN e t 0 l)) ∧ Hid (p.ok w') ∧ Below w.heap.size w w' := by
  have HA : Hid (Part.ok w ⟨ad, len, cap, l⟩) := ha
  clear ha
  have hmay : repMay (e : Int) (t : Int) len = true := by simp [repMay]; omega
  have HM := tells_any (e : Int) (t : Int) false ad len cap (w.alloc (.cells #[.int .i64 (e : Int), .int .i64 (t : Int), .bool false, .slice ad len cap] 26))
  rw [hmay] at HM
  clear hmay
  unfold repV at HM ⊢
  have HS : Hid (∀ W : World, Below (w.heap.size + 1) (w.alloc (.cells #[.int .i64 (e : Int), .int .i64 (t : Int), .bool false, .slice ad len cap] 26)) W → W.cell? ⟨w.heap.size, 0, none⟩ = some (.int .i64 (e : Int)) ∧ W.cell? ⟨w.heap.size, 1, none⟩ = some (.int .i64 (t : Int)) ∧ W.cell? ⟨w.heap.size, 2, none⟩ = some (.bool false) ∧ W.cell? ⟨w.heap.size, 3, none⟩ = some (.slice ad len cap)) := (show Hid _ from fun W hW => by
    have q := (hW.block w.heap.size (by omega)).trans (heap_alloc_last w _)
    refine ⟨?_, ?_, ?_, ?_⟩ <;> (rw [cell_of_row _ _ _ _ _ _ q]; rfl))
  have HS2 : Hid (∀ W : World, Below (w.heap.size + 1) (w.alloc (.cells #[.int .i64 (e : Int), .int .i64 (t : Int), .bool false, .slice ad len cap] 26)) W → W.cell? ⟨w.heap.size, 0, none⟩ = some (.int .i64 (e : Int)) ∧ W.cell? ⟨w.heap.size, 1, none⟩ = some (.int .i64 (t : Int))) := (show Hid _ from fun W hW => ⟨(HS.out W hW).1, (HS.out W hW).2.1⟩)
  have HB : Hid (Below w.heap.size w (w.alloc (.cells #[.int .i64 (e : Int), .int .i64 (t : Int), .bool false, .slice ad len cap] 26))) := (show Hid _ from (Below.refl _ w).alloc (Nat.le_refl _) _)
  have HBW : Hid (∀ W, Below (w.heap.size + 1) (w.alloc (.cells #[.int .i64 (e : Int), .int .i64 (t : Int), .bool false, .slice ad len cap] 26)) W → Below w.heap.size w W) := (show Hid _ from fun W h => HB.out.trans (h.mono (Nat.le_succ _)))
  have hsz0 : (w.alloc (.cells #[.int .i64 (e : Int), .int .i64 (t : Int), .bool false, .slice ad len cap] 26)).heap.size = w.heap.size + 1 := by simp
  have hw8 : IntKind.u8.wrap (e : Int) = (e : Int) := by simp [IntKind.wrap, IntKind.bits, IntKind.signed]; omega
  go_enter Tryz.func13, Tryz.ntmps13
  go_wp2_with (go_at_call 42; refine HM.mono ?_; rintro r W1 ⟨rfl, hb1⟩; have D1 : Hid (Below (w.heap.size + 1) (w.alloc _) W1) := (show Hid _ from hsz0 ▸ hb1); have B0 : Hid (Below w.heap.size w W1) := (show Hid _ from HB.out.trans (hb1.mono HB.out.size)); clear hb1 HM)
  have Z1 : Hid (w.heap.size + 1 ≤ W1.heap.size) := (show Hid _ from (show w.heap.size + 1 ≤ W1.heap.size by have := D1.out.size; simpa [hsz0] using this))
  have C0 : Hid (Below (w.heap.size + 1) (w.alloc _) W1.drew) := (show Hid _ from D1.out.drew)
  have CA : Hid (Below (w.heap.size + 1) (w.alloc _) (W1.alloc (.cells #[.int .u8 (e : Int)] 5)).drew) := (show Hid _ from alloc_drew D1.out Z1.out _)
  have Z0 : Hid (w.heap.size + 1 ≤ W1.drew.heap.size) := Z1
  have ZA : Hid (w.heap.size + 1 ≤ (W1.alloc (.cells #[.int .u8 (e : Int)] 5)).drew.heap.size) := (show Hid _ from Nat.le_trans Z1.out (((Below.refl 0 W1).alloc (Nat.zero_le _) (.cells #[.int .u8 (e : Int)] 5)).drew).size)
  have OA : Hid ((W1.alloc (.cells #[.int .u8 (e : Int)] 5)).drew.ownsRow (w.heap.size + 1) 5 1 (.slice (some ⟨W1.heap.size, 0, none⟩) 1 1) 1 ([e].map bv)) := (show Hid _ from own_kept (one_own W1 _ e _ rfl Z1.out) (Below.refl _ _).drew)
  clear D1
  generalize w.alloc _ = W0 at *
  clear HB hsz0
  go_region_held3 (fun W => W.cell? ⟨w.heap.size, 0, none⟩ = some (.int .i64 (e : Int)) ∧ W.cell? ⟨w.heap.size, 1, none⟩ = some (.int .i64 (t : Int)))
    (first | exact HS2.out _ C0.out | exact HS2.out _ CA.out | exact HS2.out _ C1.out | exact HS2.out _ (C1.out.alloc Y1.out _) | exact HS2.out _ C2.out)
    (first
      | (go_at_call 39; (with_reducible_and_instances (refine (bytes_at t 2 W1.drew rfl rfl (by omega)).mono ?_)); rintro r w1 ⟨p1, rfl, e1, k1, b1⟩; have C1 : Hid (Below (w.heap.size + 1) W0 w1) := (show Hid _ from C0.out.trans (b1.mono Z0.out)); have Y1 : Hid (w.heap.size + 1 ≤ w1.heap.size) := (show Hid _ from Nat.le_trans Z0.out b1.size); clear b1)
      | (go_at_call 39; (with_reducible_and_instances (refine (bytes_at t 2 (W1.alloc (.cells #[.int .u8 (e : Int)] 5)).drew rfl rfl (by omega)).mono ?_)); rintro r w1 ⟨p1, rfl, e1, k1, b1⟩; have C1 : Hid (Below (w.heap.size + 1) W0 w1) := (show Hid _ from CA.out.trans (b1.mono ZA.out)); have Y1 : Hid (w.heap.size + 1 ≤ w1.heap.size) := (show Hid _ from Nat.le_trans ZA.out b1.size); have OB : Hid (w1.ownsRow (w.heap.size + 1) 5 1 (.slice (some ⟨W1.heap.size, 0, none⟩) 1 1) 1 ([e].map bv)) := (show Hid _ from own_kept OA.out b1); clear b1)
      | (refine step_app_any (by rfl) _ _ (by rfl) (w.heap.size + 1) (.slice (some ⟨W1.heap.size, 0, none⟩) 1 1) 1 [e] (by rfl) OB.out p1.ad p1.len p1.cap (spellN t 2) (by rfl) (part_of k1.out e1.out).1 (part_of k1.out e1.out).2.1 (part_of k1.out e1.out).2.2 (by rw [part_len k1.out e1.out (spellN_length _ _)]; omega) Y1.out ?_; intro v2 w2 hown2 hg2; have O2 : Hid (w2.ownsRow (w.heap.size + 1) 5 1 v2 (1 + p1.len) (([e] ++ spellN t 2).map bv)) := hown2; have C2 : Hid (Below (w.heap.size + 1) W0 w2) := (show Hid _ from grown_below C1.out OB.out hg2 Y1.out); have Y2 : Hid (w.heap.size + 1 ≤ w2.heap.size) := (show Hid _ from Nat.le_trans Y1.out (grown_below (Below.refl _ _) OB.out hg2 Y1.out).size); have L2 : Hid (p1.len = 2) := (show Hid _ from part_len k1.out e1.out (spellN_length _ _)); clear hown2 hg2 OB)
      | (refine step_app_any (by rfl) _ _ (by rfl) (w.heap.size + 1) (.slice (some ⟨w1.heap.size, 0, none⟩) 1 1) 1 [e] (by rfl) (one_own w1 _ e _ rfl Y1.out) p1.ad p1.len p1.cap (spellN t 2) (by rfl) (part_of k1.out e1.out).1 (part_of k1.out e1.out).2.1 ((part_of k1.out e1.out).2.2.later ((Below.refl _ _).alloc (Nat.le_refl _) _)) (by rw [part_len k1.out e1.out (spellN_length _ _)]; omega) (Nat.le_trans Y1.out (by simp)) ?_; intro v2 w2 hown2 hg2; have O2 : Hid (w2.ownsRow (w.heap.size + 1) 5 1 v2 (1 + p1.len) (([e] ++ spellN t 2).map bv)) := hown2; have C2 : Hid (Below (w.heap.size + 1) W0 w2) := (show Hid _ from grown_below (C1.out.alloc Y1.out _) (one_own w1 _ e _ rfl Y1.out) hg2 (Nat.le_trans Y1.out (by simp))); have Y2 : Hid (w.heap.size + 1 ≤ w2.heap.size) := (show Hid _ from Nat.le_trans (Nat.le_trans Y1.out (by simp)) (grown_below (Below.refl _ _) (one_own w1 _ e _ rfl Y1.out) hg2 (Nat.le_trans Y1.out (by simp))).size); have L2 : Hid (p1.len = 2) := (show Hid _ from part_len k1.out e1.out (spellN_length _ _)); clear hown2 hg2))
  all_goals clear OA CA C0 Z0 ZA C1 Y1 k1 e1 HS2
  all_goals obtain ⟨p1n, hp1n⟩ : ∃ n, p1.len = n := ⟨_, rfl⟩
  all_goals have l2 : 1 + p1.len = 1 + 2 := (by rw [L2.out])
  all_goals rw [l2] at O2
  all_goals clear l2 L2 hp1n p1n
  all_goals have c2 := (HS.out _ C2.out).2.2.1
  all_goals go_wp2_with fail
  all_goals clear c2
  all_goals have D2 : Hid (Below (w.heap.size + 1) W0 (w2.alloc (.cells #[.int .u8 0] 5)).drew) := (show Hid _ from alloc_drew C2.out Y2.out _)
  all_goals have D0 : Hid (Below (w.heap.size + 1) W0 w2.drew) := (show Hid _ from C2.out.drew)
  all_goals have DZ : Hid (w.heap.size + 1 ≤ (w2.alloc (.cells #[.int .u8 0] 5)).drew.heap.size) := (show Hid _ from Nat.le_trans Y2.out (((Below.refl 0 w2).alloc (Nat.zero_le _) (.cells #[.int .u8 0] 5)).drew).size)
  all_goals have O3 : Hid ((w2.alloc (.cells #[.int .u8 0] 5)).drew.ownsRow (w.heap.size + 1) 5 1 v2 (1 + 2) (([e] ++ spellN t 2).map bv)) := (show Hid _ from own_kept O2.out (alloc_drew (Below.refl _ _) (Nat.le_refl _) _))
  all_goals have R3 : Hid (Row (w2.alloc (.cells #[.int .u8 0] 5)).drew (some ⟨w2.heap.size, 0, none⟩) [0]) := (show Hid _ from (one_row w2 0 0 rfl (by omega)).later (Below.refl _ _).drew)
  all_goals have HS3 : Hid (∀ W : World, Below (w.heap.size + 1) W0 W → W.cell? ⟨w.heap.size, 3, none⟩ = some (.slice ad len cap)) := (show Hid _ from fun W hW => (HS.out W hW).2.2.2)
  all_goals go_region_held3 (fun W => W.cell? ⟨w.heap.size, 3, none⟩ = some (.slice ad len cap))
    (first | exact HS3.out _ D0.out | exact HS3.out _ D2.out | exact HS3.out _ D4.out | exact HS3.out _ D5.out | exact HS3.out _ D6.out)
    (first
      | (go_at_call 40; (with_reducible_and_instances (refine (refFrame_at 2 p5 w5 rfl (by omega) L5.out K5.out).mono ?_)); rintro r w6 ⟨p6, rfl, e6, k6, b6⟩; have D6 : Hid (Below (w.heap.size + 1) W0 w6) := (show Hid _ from D5.out.trans (b6.mono Y5.out)); clear b6)
      | (refine step_app_any (by rfl) _ _ (by rfl) (w.heap.size + 1) v4 (1 + 2 + 1) ([e] ++ spellN t 2 ++ [0]) (by rfl) O4.out ad len cap l (by rfl) HA.out.1 HA.out.2.1 (HA.out.later (HBW.out _ D4.out)).2.2 (by omega) Y4.out ?_; intro v5 w5 hown5 hg5; have D5 : Hid (Below (w.heap.size + 1) W0 w5) := (show Hid _ from grown_below D4.out O4.out hg5 Y4.out); have Y5 : Hid (w.heap.size + 1 ≤ w5.heap.size) := (show Hid _ from Nat.le_trans Y4.out (grown_below (Below.refl _ _) O4.out hg5 Y4.out).size); obtain ⟨p5, rfl, e5, k5⟩ := own_part hown5 (reply_lt he (by omega) HA.out.2.2.1) (by have := HA.out.1; simp at this; simp [spellN_length, this]; omega); have K5 : Hid (p5.ok w5) := k5; have E5 : Hid (p5.l = replyN e t 0 l) := (show Hid _ from e5.trans (reply_eq e t 0 l he (by omega))); have L5 : Hid (p5.len ≤ 65536) := (show Hid _ from partLen E5.out k5 HA.out.1 hlen); clear hown5 hg5 e5 k5)
      | (refine step_app_any (by rfl) _ _ (by rfl) (w.heap.size + 1) v2 (1 + 2) ([e] ++ spellN t 2) (by rfl) O3.out (some ⟨w2.heap.size, 0, none⟩) 1 1 [0] (by rfl) rfl (fun h => by cases h) R3.out (by omega) DZ.out ?_; intro v4 w4 hown4 hg4; have O4 : Hid (w4.ownsRow (w.heap.size + 1) 5 1 v4 (1 + 2 + 1) (([e] ++ spellN t 2 ++ [0]).map bv)) := hown4; have D4 : Hid (Below (w.heap.size + 1) W0 w4) := (show Hid _ from grown_below D2.out O3.out hg4 DZ.out); have Y4 : Hid (w.heap.size + 1 ≤ w4.heap.size) := (show Hid _ from Nat.le_trans DZ.out (grown_below (Below.refl _ _) O3.out hg4 DZ.out).size); clear hown4 hg4))
  all_goals go_wp2
  all_goals go_ret2
  all_goals exact ⟨p6, rfl, (show Hid _ from e6.out.trans (congrArg (frameBs 2) E5.out)), k6, HBW.out _ D6.out⟩
set_option maxRecDepth 100000 in
set_option maxHeartbeats 8000000 in
theorem refPutReply_true (e t : Nat) (ad : Option Addr) (len cap : Nat) (l : List Nat) (w : World) (he : e ≤ 255) (ht : t ≤ 4096) (hlen : len ≤ 65504) (ha : Part.ok w ⟨ad, len, cap, l⟩) :
    Calls Tryz.prog 13 #[repV e t true ad len cap] w fun x w' => ∃ p : Part, x = .returned (.tuple #[.slice p.ad p.len p.cap, .int .i64 0]) ∧ Hid (p.l = frameBs 2 (replyN e t 1 l)) ∧ Hid (p.ok w') ∧ Below w.heap.size w w' := by
  have HA : Hid (Part.ok w ⟨ad, len, cap, l⟩) := ha
  clear ha
  have hmay : repMay (e : Int) (t : Int) len = true := by simp [repMay]; omega
  have HM := tells_any (e : Int) (t : Int) true ad len cap (w.alloc (.cells #[.int .i64 (e : Int), .int .i64 (t : Int), .bool true, .slice ad len cap] 26))
  rw [hmay] at HM
  clear hmay
  unfold repV at HM ⊢
  have HS : Hid (∀ W : World, Below (w.heap.size + 1) (w.alloc (.cells #[.int .i64 (e : Int), .int .i64 (t : Int), .bool true, .slice ad len cap] 26)) W → W.cell? ⟨w.heap.size, 0, none⟩ = some (.int .i64 (e : Int)) ∧ W.cell? ⟨w.heap.size, 1, none⟩ = some (.int .i64 (t : Int)) ∧ W.cell? ⟨w.heap.size, 2, none⟩ = some (.bool true) ∧ W.cell? ⟨w.heap.size, 3, none⟩ = some (.slice ad len cap)) := (show Hid _ from fun W hW => by
    have q := (hW.block w.heap.size (by omega)).trans (heap_alloc_last w _)
    refine ⟨?_, ?_, ?_, ?_⟩ <;> (rw [cell_of_row _ _ _ _ _ _ q]; rfl))
  have HS2 : Hid (∀ W : World, Below (w.heap.size + 1) (w.alloc (.cells #[.int .i64 (e : Int), .int .i64 (t : Int), .bool true, .slice ad len cap] 26)) W → W.cell? ⟨w.heap.size, 0, none⟩ = some (.int .i64 (e : Int)) ∧ W.cell? ⟨w.heap.size, 1, none⟩ = some (.int .i64 (t : Int))) := (show Hid _ from fun W hW => ⟨(HS.out W hW).1, (HS.out W hW).2.1⟩)
  have HB : Hid (Below w.heap.size w (w.alloc (.cells #[.int .i64 (e : Int), .int .i64 (t : Int), .bool true, .slice ad len cap] 26))) := (show Hid _ from (Below.refl _ w).alloc (Nat.le_refl _) _)
  have HBW : Hid (∀ W, Below (w.heap.size + 1) (w.alloc (.cells #[.int .i64 (e : Int), .int .i64 (t : Int), .bool true, .slice ad len cap] 26)) W → Below w.heap.size w W) := (show Hid _ from fun W h => HB.out.trans (h.mono (Nat.le_succ _)))
  have hsz0 : (w.alloc (.cells #[.int .i64 (e : Int), .int .i64 (t : Int), .bool true, .slice ad len cap] 26)).heap.size = w.heap.size + 1 := by simp
  have hw8 : IntKind.u8.wrap (e : Int) = (e : Int) := by simp [IntKind.wrap, IntKind.bits, IntKind.signed]; omega
  go_enter Tryz.func13, Tryz.ntmps13
  go_wp2_with (go_at_call 42; refine HM.mono ?_; rintro r W1 ⟨rfl, hb1⟩; have D1 : Hid (Below (w.heap.size + 1) (w.alloc _) W1) := (show Hid _ from hsz0 ▸ hb1); have B0 : Hid (Below w.heap.size w W1) := (show Hid _ from HB.out.trans (hb1.mono HB.out.size)); clear hb1 HM)
  have Z1 : Hid (w.heap.size + 1 ≤ W1.heap.size) := (show Hid _ from (show w.heap.size + 1 ≤ W1.heap.size by have := D1.out.size; simpa [hsz0] using this))
  have C0 : Hid (Below (w.heap.size + 1) (w.alloc _) W1.drew) := (show Hid _ from D1.out.drew)
  have CA : Hid (Below (w.heap.size + 1) (w.alloc _) (W1.alloc (.cells #[.int .u8 (e : Int)] 5)).drew) := (show Hid _ from alloc_drew D1.out Z1.out _)
  have Z0 : Hid (w.heap.size + 1 ≤ W1.drew.heap.size) := Z1
  have ZA : Hid (w.heap.size + 1 ≤ (W1.alloc (.cells #[.int .u8 (e : Int)] 5)).drew.heap.size) := (show Hid _ from Nat.le_trans Z1.out (((Below.refl 0 W1).alloc (Nat.zero_le _) (.cells #[.int .u8 (e : Int)] 5)).drew).size)
  have OA : Hid ((W1.alloc (.cells #[.int .u8 (e : Int)] 5)).drew.ownsRow (w.heap.size + 1) 5 1 (.slice (some ⟨W1.heap.size, 0, none⟩) 1 1) 1 ([e].map bv)) := (show Hid _ from own_kept (one_own W1 _ e _ rfl Z1.out) (Below.refl _ _).drew)
  clear D1
  generalize w.alloc _ = W0 at *
  clear HB hsz0
  go_region_held3 (fun W => W.cell? ⟨w.heap.size, 0, none⟩ = some (.int .i64 (e : Int)) ∧ W.cell? ⟨w.heap.size, 1, none⟩ = some (.int .i64 (t : Int)))
    (first | exact HS2.out _ C0.out | exact HS2.out _ CA.out | exact HS2.out _ C1.out | exact HS2.out _ (C1.out.alloc Y1.out _) | exact HS2.out _ C2.out)
    (first
      | (go_at_call 39; (with_reducible_and_instances (refine (bytes_at t 2 W1.drew rfl rfl (by omega)).mono ?_)); rintro r w1 ⟨p1, rfl, e1, k1, b1⟩; have C1 : Hid (Below (w.heap.size + 1) W0 w1) := (show Hid _ from C0.out.trans (b1.mono Z0.out)); have Y1 : Hid (w.heap.size + 1 ≤ w1.heap.size) := (show Hid _ from Nat.le_trans Z0.out b1.size); clear b1)
      | (go_at_call 39; (with_reducible_and_instances (refine (bytes_at t 2 (W1.alloc (.cells #[.int .u8 (e : Int)] 5)).drew rfl rfl (by omega)).mono ?_)); rintro r w1 ⟨p1, rfl, e1, k1, b1⟩; have C1 : Hid (Below (w.heap.size + 1) W0 w1) := (show Hid _ from CA.out.trans (b1.mono ZA.out)); have Y1 : Hid (w.heap.size + 1 ≤ w1.heap.size) := (show Hid _ from Nat.le_trans ZA.out b1.size); have OB : Hid (w1.ownsRow (w.heap.size + 1) 5 1 (.slice (some ⟨W1.heap.size, 0, none⟩) 1 1) 1 ([e].map bv)) := (show Hid _ from own_kept OA.out b1); clear b1)
      | (refine step_app_any (by rfl) _ _ (by rfl) (w.heap.size + 1) (.slice (some ⟨W1.heap.size, 0, none⟩) 1 1) 1 [e] (by rfl) OB.out p1.ad p1.len p1.cap (spellN t 2) (by rfl) (part_of k1.out e1.out).1 (part_of k1.out e1.out).2.1 (part_of k1.out e1.out).2.2 (by rw [part_len k1.out e1.out (spellN_length _ _)]; omega) Y1.out ?_; intro v2 w2 hown2 hg2; have O2 : Hid (w2.ownsRow (w.heap.size + 1) 5 1 v2 (1 + p1.len) (([e] ++ spellN t 2).map bv)) := hown2; have C2 : Hid (Below (w.heap.size + 1) W0 w2) := (show Hid _ from grown_below C1.out OB.out hg2 Y1.out); have Y2 : Hid (w.heap.size + 1 ≤ w2.heap.size) := (show Hid _ from Nat.le_trans Y1.out (grown_below (Below.refl _ _) OB.out hg2 Y1.out).size); have L2 : Hid (p1.len = 2) := (show Hid _ from part_len k1.out e1.out (spellN_length _ _)); clear hown2 hg2 OB)
      | (refine step_app_any (by rfl) _ _ (by rfl) (w.heap.size + 1) (.slice (some ⟨w1.heap.size, 0, none⟩) 1 1) 1 [e] (by rfl) (one_own w1 _ e _ rfl Y1.out) p1.ad p1.len p1.cap (spellN t 2) (by rfl) (part_of k1.out e1.out).1 (part_of k1.out e1.out).2.1 ((part_of k1.out e1.out).2.2.later ((Below.refl _ _).alloc (Nat.le_refl _) _)) (by rw [part_len k1.out e1.out (spellN_length _ _)]; omega) (Nat.le_trans Y1.out (by simp)) ?_; intro v2 w2 hown2 hg2; have O2 : Hid (w2.ownsRow (w.heap.size + 1) 5 1 v2 (1 + p1.len) (([e] ++ spellN t 2).map bv)) := hown2; have C2 : Hid (Below (w.heap.size + 1) W0 w2) := (show Hid _ from grown_below (C1.out.alloc Y1.out _) (one_own w1 _ e _ rfl Y1.out) hg2 (Nat.le_trans Y1.out (by simp))); have Y2 : Hid (w.heap.size + 1 ≤ w2.heap.size) := (show Hid _ from Nat.le_trans (Nat.le_trans Y1.out (by simp)) (grown_below (Below.refl _ _) (one_own w1 _ e _ rfl Y1.out) hg2 (Nat.le_trans Y1.out (by simp))).size); have L2 : Hid (p1.len = 2) := (show Hid _ from part_len k1.out e1.out (spellN_length _ _)); clear hown2 hg2))
  all_goals clear OA CA C0 Z0 ZA C1 Y1 k1 e1 HS2
  all_goals obtain ⟨p1n, hp1n⟩ : ∃ n, p1.len = n := ⟨_, rfl⟩
  all_goals have l2 : 1 + p1.len = 1 + 2 := (by rw [L2.out])
  all_goals rw [l2] at O2
  all_goals clear l2 L2 hp1n p1n
  all_goals have c2 := (HS.out _ C2.out).2.2.1
  all_goals go_wp2_with fail
  all_goals clear c2
  all_goals have D2 : Hid (Below (w.heap.size + 1) W0 (w2.alloc (.cells #[.int .u8 1] 5)).drew) := (show Hid _ from alloc_drew C2.out Y2.out _)
  all_goals have D0 : Hid (Below (w.heap.size + 1) W0 w2.drew) := (show Hid _ from C2.out.drew)
  all_goals have DZ : Hid (w.heap.size + 1 ≤ (w2.alloc (.cells #[.int .u8 1] 5)).drew.heap.size) := (show Hid _ from Nat.le_trans Y2.out (((Below.refl 0 w2).alloc (Nat.zero_le _) (.cells #[.int .u8 1] 5)).drew).size)
  all_goals have O3 : Hid ((w2.alloc (.cells #[.int .u8 1] 5)).drew.ownsRow (w.heap.size + 1) 5 1 v2 (1 + 2) (([e] ++ spellN t 2).map bv)) := (show Hid _ from own_kept O2.out (alloc_drew (Below.refl _ _) (Nat.le_refl _) _))
  all_goals have R3 : Hid (Row (w2.alloc (.cells #[.int .u8 1] 5)).drew (some ⟨w2.heap.size, 0, none⟩) [1]) := (show Hid _ from (one_row w2 1 1 rfl (by omega)).later (Below.refl _ _).drew)
  all_goals have HS3 : Hid (∀ W : World, Below (w.heap.size + 1) W0 W → W.cell? ⟨w.heap.size, 3, none⟩ = some (.slice ad len cap)) := (show Hid _ from fun W hW => (HS.out W hW).2.2.2)
  all_goals go_region_held3 (fun W => W.cell? ⟨w.heap.size, 3, none⟩ = some (.slice ad len cap))
    (first | exact HS3.out _ D0.out | exact HS3.out _ D2.out | exact HS3.out _ D4.out | exact HS3.out _ D5.out | exact HS3.out _ D6.out)
    (first
      | (go_at_call 40; (with_reducible_and_instances (refine (refFrame_at 2 p5 w5 rfl (by omega) L5.out K5.out).mono ?_)); rintro r w6 ⟨p6, rfl, e6, k6, b6⟩; have D6 : Hid (Below (w.heap.size + 1) W0 w6) := (show Hid _ from D5.out.trans (b6.mono Y5.out)); clear b6)
      | (refine step_app_any (by rfl) _ _ (by rfl) (w.heap.size + 1) v4 (1 + 2 + 1) ([e] ++ spellN t 2 ++ [1]) (by rfl) O4.out ad len cap l (by rfl) HA.out.1 HA.out.2.1 (HA.out.later (HBW.out _ D4.out)).2.2 (by omega) Y4.out ?_; intro v5 w5 hown5 hg5; have D5 : Hid (Below (w.heap.size + 1) W0 w5) := (show Hid _ from grown_below D4.out O4.out hg5 Y4.out); have Y5 : Hid (w.heap.size + 1 ≤ w5.heap.size) := (show Hid _ from Nat.le_trans Y4.out (grown_below (Below.refl _ _) O4.out hg5 Y4.out).size); obtain ⟨p5, rfl, e5, k5⟩ := own_part hown5 (reply_lt he (by omega) HA.out.2.2.1) (by have := HA.out.1; simp at this; simp [spellN_length, this]; omega); have K5 : Hid (p5.ok w5) := k5; have E5 : Hid (p5.l = replyN e t 1 l) := (show Hid _ from e5.trans (reply_eq e t 1 l he (by omega))); have L5 : Hid (p5.len ≤ 65536) := (show Hid _ from partLen E5.out k5 HA.out.1 hlen); clear hown5 hg5 e5 k5)
      | (refine step_app_any (by rfl) _ _ (by rfl) (w.heap.size + 1) v2 (1 + 2) ([e] ++ spellN t 2) (by rfl) O3.out (some ⟨w2.heap.size, 0, none⟩) 1 1 [1] (by rfl) rfl (fun h => by cases h) R3.out (by omega) DZ.out ?_; intro v4 w4 hown4 hg4; have O4 : Hid (w4.ownsRow (w.heap.size + 1) 5 1 v4 (1 + 2 + 1) (([e] ++ spellN t 2 ++ [1]).map bv)) := hown4; have D4 : Hid (Below (w.heap.size + 1) W0 w4) := (show Hid _ from grown_below D2.out O3.out hg4 DZ.out); have Y4 : Hid (w.heap.size + 1 ≤ w4.heap.size) := (show Hid _ from Nat.le_trans DZ.out (grown_below (Below.refl _ _) O3.out hg4 DZ.out).size); clear hown4 hg4))
  all_goals go_wp2
  all_goals go_ret2
  all_goals exact ⟨p6, rfl, (show Hid _ from e6.out.trans (congrArg (frameBs 2) E5.out)), k6, HBW.out _ D6.out⟩
end Go.Proofs.YtjldflfoncfndaaGreat
namespace Go.Proofs.YtjldflfoncfndaaGreat
open Go.RowKit Crcm

set_option maxRecDepth 100000 in
set_option maxHeartbeats 4000000 in
theorem framed_ok {z c : Int} (ad : Option Addr) (len cap : Nat) (l : List Nat) (kind least : Nat) (w : World) (hz : z = kind) (hc : c = least) (hp : Part.ok w ⟨ad, len, cap, l⟩) (hlc : len ≤ cap) (hm : len ≤ 1000000000000000) (h : unpackN l kind least = true) :
    Calls Tryz.prog 45 #[.slice ad len cap, .int .i64 z, .int .i64 c] w fun e w' => ∃ p : Part, e = .returned (.tuple #[.slice p.ad p.len p.cap, .bool true]) ∧ Hid (p.l = bodyAt l 0) ∧ Hid (p.ok w') ∧ Hid (Own w' w.heap.size (.slice p.ad p.len p.cap) (bodyAt l 0)) ∧ Below w.heap.size w w' := by
  subst hz hc
  unfold unpackN at h
  obtain ⟨h1, h2, h3, h4⟩ := of_decide_eq_true h
  have q := refUnframe_any ad len cap l 0 w hp hlc hm (by omega)
  have e0 := unframeN_ok l 0 h1
  rw [show ((0 : Nat) : Int) = 0 from rfl] at e0
  rw [e0] at q
  have hl : l.length = len := hp.1
  have e1 : ((kindAt l 0 : Nat) : Int) = kind := by omega
  have e2 : ((0 + 9 + sizeAt l 0 : Nat) : Int) = (len : Int) := by omega
  have hbl := bodyAt_length h1
  simp only at q
  rw [e1, e2] at q
  clear hp e0 e1 e2 h h1 h2
  go_enter Tryz.func45, Tryz.ntmps45
  go_wp2_with (go_at_call 75; refine q.mono ?_; rintro e w' ⟨v, rfl, hown, hb⟩; obtain ⟨p, rfl, h5, h6⟩ := Part.of_own hown; have hpl : p.len = sizeAt l 0 := (by rw [← h6.1, h5, hbl]); have hpk : least ≤ p.len := (by omega); have O6 : Hid (Own w' w.heap.size (.slice p.ad p.len p.cap) (bodyAt l 0)) := hown; have K6 : Hid (p.ok w') := h6; have E6 : Hid (p.l = bodyAt l 0) := h5; clear hown h5 h6 hpl)
  go_ret2
  exact ⟨p, rfl, E6, K6, O6, hb⟩
set_option maxRecDepth 100000 in
set_option maxHeartbeats 4000000 in
theorem framed_no {z c : Int} (ad : Option Addr) (len cap : Nat) (l : List Nat) (kind least : Nat) (w : World) (hz : z = kind) (hc : c = least) (hp : Part.ok w ⟨ad, len, cap, l⟩) (hlc : len ≤ cap) (hm : len ≤ 1000000000000000) (h : unpackN l kind least = false) :
    Calls Tryz.prog 45 #[.slice ad len cap, .int .i64 z, .int .i64 c] w fun e w' => ∃ p : Part, e = .returned (.tuple #[.slice p.ad p.len p.cap, .bool false]) ∧ Below w.heap.size w w' := by
  subst hz hc
  have q := refUnframe_any ad len cap l 0 w hp hlc hm (by omega)
  have hl : l.length = len := hp.1
  clear hp
  unfold unpackN at h
  by_cases h1 : unframeE l 0 = 0
  · have e0 := unframeN_ok l 0 h1
    rw [show ((0 : Nat) : Int) = 0 from rfl] at e0
    rw [e0] at q
    have hbl := bodyAt_length h1
    simp only at q
    clear e0
    by_cases h2 : kindAt l 0 = kind
    · by_cases h3 : 9 + sizeAt l 0 = len
      · have h4 : sizeAt l 0 < least := by simp [h1, h2, hl, h3] at h; omega
        have e1 : ((kindAt l 0 : Nat) : Int) = kind := by omega
        have e2 : ((0 + 9 + sizeAt l 0 : Nat) : Int) = (len : Int) := by omega
        rw [e1, e2] at q
        clear e1 e2 h h1 h2
        go_enter Tryz.func45, Tryz.ntmps45
        go_wp2_with (go_at_call 75; refine q.mono ?_; rintro e w' ⟨v, rfl, hown, hb⟩; obtain ⟨p, rfl, h5, h6⟩ := Part.of_own hown; have hpl : p.len = sizeAt l 0 := (by rw [← h6.1, h5, hbl]); have hpk : p.len < least := (by omega); clear hown h5 h6 hpl)
        have hd : decide (least ≤ p.len) = false := by simp; omega
        rw [hd]
        go_ret2
        exact ⟨p, rfl, hb⟩
      · have e1 : ((kindAt l 0 : Nat) : Int) = kind := by omega
        rw [e1] at q
        have e3 : (((0 + 9 + sizeAt l 0 : Nat) : Int) == (len : Int)) = false := by simp; omega
        generalize ((0 + 9 + sizeAt l 0 : Nat) : Int) = to at *
        clear e1 h h1 h2 h3 hbl
        go_enter Tryz.func45, Tryz.ntmps45
        go_wp2_with (go_at_call 75; refine q.mono ?_; rintro e w' ⟨v, rfl, hown, hb⟩; obtain ⟨p, rfl, h5, h6⟩ := Part.of_own hown; clear hown h5 h6)
        go_ret2
        exact ⟨p, rfl, hb⟩
    · have e3 : (((kindAt l 0 : Nat) : Int) == (kind : Int)) = false := by simp; omega
      generalize ((0 + 9 + sizeAt l 0 : Nat) : Int) = to at *
      generalize ((kindAt l 0 : Nat) : Int) = kd at *
      clear h h1 h2 hbl
      go_enter Tryz.func45, Tryz.ntmps45
      go_wp2_with (go_at_call 75; refine q.mono ?_; rintro e w' ⟨v, rfl, hown, hb⟩; obtain ⟨p, rfl, h5, h6⟩ := Part.of_own hown; clear hown h5 h6)
      go_ret2
      exact ⟨p, rfl, hb⟩
  · have e0 := unframeN_err l 0 h1
    rw [show ((0 : Nat) : Int) = 0 from rfl] at e0
    rw [e0] at q
    simp only at q
    have e3 : (unframeE l 0 == 0) = false := by simpa using h1
    generalize unframeE l 0 = ee at *
    clear e0 h h1
    go_enter Tryz.func45, Tryz.ntmps45
    go_wp2_with (go_at_call 75; refine q.mono ?_; rintro e w' ⟨v, rfl, hown, hb⟩; obtain ⟨p, rfl, h5, h6⟩ := Part.of_own hown; clear hown h5 h6)
    go_ret2
    exact ⟨p, rfl, hb⟩
/-- framed of a frame with a body: where the body lies. -/
theorem framed_at {z c : Int} (ad : Option Addr) (len cap : Nat) (l : List Nat) (kind least : Nat) (w : World) (hz : z = kind) (hc : c = least) (hp : Part.ok w ⟨ad, len, cap, l⟩) (hlc : len ≤ cap) (hm : len ≤ 1000000000000000) (h : unpackN l kind least = true) (h1 : 1 ≤ least) :
    Calls Tryz.prog 45 #[.slice ad len cap, .int .i64 z, .int .i64 c] w fun e w' => ∃ g n c : Nat, e = .returned (.tuple #[.slice (some ⟨g, 0, none⟩) n c, .bool true]) ∧ n = (bodyAt l 0).length ∧ least ≤ n ∧ n ≤ 65536 ∧ n ≤ c ∧ c ≤ maxLen ∧ w.heap.size ≤ g ∧ Part.ok w' ⟨some ⟨g, 0, none⟩, n, c, bodyAt l 0⟩ ∧ Below w.heap.size w w' := by
  have hl : least ≤ (bodyAt l 0).length ∧ (bodyAt l 0).length ≤ 65536 := by
    rw [unpackN_eq] at h
    simp at h
    rw [bodyAt_length h.1.1.1]
    exact ⟨h.2, (unframeE_zero h.1.1.1).1⟩
  refine (framed_ok ad len cap l kind least w hz hc hp hlc hm h).mono ?_
  rintro e w' ⟨p, rfl, e1, k1, o1, b1⟩
  have hk : p.l.length = p.len := k1.out.1
  rw [e1.out] at hk
  rcases o1.out.2.2 with ⟨hv, h0⟩ | ⟨g, cap, cur, hv, hb, hg, hn, hm, hs, ht⟩
  · omega
  · injection hv with q1 q2 q3
    obtain ⟨pa, pn, pc, pl⟩ := p
    simp only at q1 q2 q3 hk
    have k2 := k1.out
    have e2 := e1.out
    simp only at e2
    subst q1 q2 q3 e2
    exact ⟨g, _, _, rfl, rfl, hl.1, hl.2, hn, hm, hb, k2, b1⟩
end Go.Proofs.YtjldflfoncfndaaGreat
