/- asks of the document's package of layer 5: which requests may be. PutRequest of the document's package of layer 5. -/
import Derived.Test.YtjldflfoncfndaaGreatRTells
import Derived.Test.YtjldflfoncfndaaGreatPRPut
import Derived.Test.YtjldflfoncfndaaGreatPPut
namespace Go.Proofs.YtjldflfoncfndaaGreat
open Go.RowKit Crcm

set_option maxRecDepth 100000 in
set_option maxHeartbeats 4000000 in
theorem asks_any (k l p : Int) (ad : Option Addr) (len cap : Nat) (w : World) :
    Calls Tryz.prog 38 #[reqV k l p ad len cap] w fun x w' => x = .returned (.bool (reqMay k l p len)) ∧ Below w.heap.size w w' := by
  have HB : Hid (Below w.heap.size w (w.alloc (.cells #[.int .i64 k, .int .i64 l, .int .i64 p, .slice ad len cap] 24))) := (show Hid _ from (Below.refl _ w).alloc (Nat.le_refl _) _)
  have HP := maxPosN_le k
  have HD := maxDataN_le k
  unfold reqV
  by_cases h0 : 1 ≤ k
  rotate_left
  · have HN : Hid (¬ (1 ≤ k ∧ k ≤ 6 ∧ 0 ≤ l ∧ l < 281474976710656 ∧ 0 ≤ p ∧ p ≤ maxPosN k ∧ (len : Int) ≤ maxDataN k)) := (show Hid _ from fun ⟨a0, a1, a2, a3, a4, a5, a6⟩ => by omega)
    clear HP HD
    go_enter Tryz.func38, Tryz.ntmps38
    go_wp2
    go_ret
    exact ⟨congrArg (fun b => Ending.returned (.bool b)) (reqMay_no HN.out), HB.out⟩
  by_cases h1 : k ≤ 6
  rotate_left
  · have HN : Hid (¬ (1 ≤ k ∧ k ≤ 6 ∧ 0 ≤ l ∧ l < 281474976710656 ∧ 0 ≤ p ∧ p ≤ maxPosN k ∧ (len : Int) ≤ maxDataN k)) := (show Hid _ from fun ⟨a0, a1, a2, a3, a4, a5, a6⟩ => by omega)
    clear HP HD
    go_enter Tryz.func38, Tryz.ntmps38
    go_wp2
    go_ret
    exact ⟨congrArg (fun b => Ending.returned (.bool b)) (reqMay_no HN.out), HB.out⟩
  by_cases h2 : 0 ≤ l
  rotate_left
  · have HN : Hid (¬ (1 ≤ k ∧ k ≤ 6 ∧ 0 ≤ l ∧ l < 281474976710656 ∧ 0 ≤ p ∧ p ≤ maxPosN k ∧ (len : Int) ≤ maxDataN k)) := (show Hid _ from fun ⟨a0, a1, a2, a3, a4, a5, a6⟩ => by omega)
    clear HP HD
    go_enter Tryz.func38, Tryz.ntmps38
    go_wp2
    go_ret
    exact ⟨congrArg (fun b => Ending.returned (.bool b)) (reqMay_no HN.out), HB.out⟩
  by_cases h3 : l < 281474976710656
  rotate_left
  · have HN : Hid (¬ (1 ≤ k ∧ k ≤ 6 ∧ 0 ≤ l ∧ l < 281474976710656 ∧ 0 ≤ p ∧ p ≤ maxPosN k ∧ (len : Int) ≤ maxDataN k)) := (show Hid _ from fun ⟨a0, a1, a2, a3, a4, a5, a6⟩ => by omega)
    clear HP HD
    go_enter Tryz.func38, Tryz.ntmps38
    go_wp2
    go_ret
    exact ⟨congrArg (fun b => Ending.returned (.bool b)) (reqMay_no HN.out), HB.out⟩
  by_cases h4 : 0 ≤ p
  rotate_left
  · have HN : Hid (¬ (1 ≤ k ∧ k ≤ 6 ∧ 0 ≤ l ∧ l < 281474976710656 ∧ 0 ≤ p ∧ p ≤ maxPosN k ∧ (len : Int) ≤ maxDataN k)) := (show Hid _ from fun ⟨a0, a1, a2, a3, a4, a5, a6⟩ => by omega)
    clear HP HD
    go_enter Tryz.func38, Tryz.ntmps38
    go_wp2
    go_ret
    exact ⟨congrArg (fun b => Ending.returned (.bool b)) (reqMay_no HN.out), HB.out⟩
  by_cases h5 : p ≤ 4096
  rotate_left
  · have HN : Hid (¬ (1 ≤ k ∧ k ≤ 6 ∧ 0 ≤ l ∧ l < 281474976710656 ∧ 0 ≤ p ∧ p ≤ maxPosN k ∧ (len : Int) ≤ maxDataN k)) := (show Hid _ from fun ⟨a0, a1, a2, a3, a4, a5, a6⟩ => by omega)
    clear HP HD
    go_enter Tryz.func38, Tryz.ntmps38
    go_wp2
    go_ret
    exact ⟨congrArg (fun b => Ending.returned (.bool b)) (reqMay_no HN.out), HB.out⟩
  by_cases h6 : len ≤ 65504
  rotate_left
  · have HN : Hid (¬ (1 ≤ k ∧ k ≤ 6 ∧ 0 ≤ l ∧ l < 281474976710656 ∧ 0 ≤ p ∧ p ≤ maxPosN k ∧ (len : Int) ≤ maxDataN k)) := (show Hid _ from fun ⟨a0, a1, a2, a3, a4, a5, a6⟩ => by omega)
    clear HP HD
    go_enter Tryz.func38, Tryz.ntmps38
    go_wp2
    go_ret
    exact ⟨congrArg (fun b => Ending.returned (.bool b)) (reqMay_no HN.out), HB.out⟩
  clear HP HD
  by_cases n3 : k = 3
  · subst n3
    have m1 : maxPosN 3 = 0 := by simp [maxPosN]
    have m2 : maxDataN 3 = 0 := by simp [maxDataN]
    by_cases hz : p = 0
    · subst hz
      by_cases hl : len = 0
      · subst hl
        have HN : Hid (true = reqMay 3 l 0 0) := (show Hid _ from reqMay_yes (by rw [m1, m2]; omega))
        clear m1 m2
        go_enter Tryz.func38, Tryz.ntmps38
        go_wp2
        go_ret
        exact ⟨congrArg (fun b => Ending.returned (.bool b)) (HN.out), HB.out⟩
      · have HN : Hid (false = reqMay 3 l 0 len) := (show Hid _ from reqMay_no (by rw [m1, m2]; omega))
        have hl2 : ((len : Int) == 0) = false := by simp; omega
        clear m1 m2
        go_enter Tryz.func38, Tryz.ntmps38
        go_wp2
        go_ret
        exact ⟨congrArg (fun b => Ending.returned (.bool b)) (HN.out), HB.out⟩
    · have HN : Hid (false = reqMay 3 l p len) := (show Hid _ from reqMay_no (by rw [m1, m2]; omega))
      have hz2 : (p == 0) = false := by simpa using hz
      have hz3 : (p != 0) = true := by simpa using hz
      clear m1 m2
      go_enter Tryz.func38, Tryz.ntmps38
      go_wp2
      go_ret
      exact ⟨congrArg (fun b => Ending.returned (.bool b)) (HN.out), HB.out⟩
  have e3 : (k == 3) = false := by simpa using n3
  by_cases n5 : k = 5
  · subst n5
    have m1 : maxPosN 5 = 0 := by simp [maxPosN]
    have m2 : maxDataN 5 = 0 := by simp [maxDataN]
    by_cases hz : p = 0
    · subst hz
      by_cases hl : len = 0
      · subst hl
        have HN : Hid (true = reqMay 5 l 0 0) := (show Hid _ from reqMay_yes (by rw [m1, m2]; omega))
        clear m1 m2
        go_enter Tryz.func38, Tryz.ntmps38
        go_wp2
        go_ret
        exact ⟨congrArg (fun b => Ending.returned (.bool b)) (HN.out), HB.out⟩
      · have HN : Hid (false = reqMay 5 l 0 len) := (show Hid _ from reqMay_no (by rw [m1, m2]; omega))
        have hl2 : ((len : Int) == 0) = false := by simp; omega
        clear m1 m2
        go_enter Tryz.func38, Tryz.ntmps38
        go_wp2
        go_ret
        exact ⟨congrArg (fun b => Ending.returned (.bool b)) (HN.out), HB.out⟩
    · have HN : Hid (false = reqMay 5 l p len) := (show Hid _ from reqMay_no (by rw [m1, m2]; omega))
      have hz2 : (p == 0) = false := by simpa using hz
      have hz3 : (p != 0) = true := by simpa using hz
      clear m1 m2
      go_enter Tryz.func38, Tryz.ntmps38
      go_wp2
      go_ret
      exact ⟨congrArg (fun b => Ending.returned (.bool b)) (HN.out), HB.out⟩
  have e5 : (k == 5) = false := by simpa using n5
  by_cases n1 : k = 1
  · subst n1
    have HN : Hid (true = reqMay 1 l p len) := (show Hid _ from reqMay_yes (by simp [maxPosN, maxDataN]; omega))
    go_enter Tryz.func38, Tryz.ntmps38
    go_wp2
    go_ret
    exact ⟨congrArg (fun b => Ending.returned (.bool b)) (HN.out), HB.out⟩
  have e1 : (k == 1) = false := by simpa using n1
  by_cases n2 : k = 2
  · subst n2
    have HN : Hid (true = reqMay 2 l p len) := (show Hid _ from reqMay_yes (by simp [maxPosN, maxDataN]; omega))
    go_enter Tryz.func38, Tryz.ntmps38
    go_wp2
    go_ret
    exact ⟨congrArg (fun b => Ending.returned (.bool b)) (HN.out), HB.out⟩
  have e2 : (k == 2) = false := by simpa using n2
  have m1 : maxPosN k = 4096 := by unfold maxPosN; rw [if_neg (by omega)]
  have m2 : maxDataN k = 0 := by unfold maxDataN; rw [if_neg (by omega)]
  by_cases hl : len = 0
  · subst hl
    have HN : Hid (true = reqMay k l p 0) := (show Hid _ from reqMay_yes (by rw [m1, m2]; omega))
    clear m1 m2
    go_enter Tryz.func38, Tryz.ntmps38
    go_wp2
    go_ret
    exact ⟨congrArg (fun b => Ending.returned (.bool b)) (HN.out), HB.out⟩
  · have HN : Hid (false = reqMay k l p len) := (show Hid _ from reqMay_no (by rw [m1, m2]; omega))
    have hl2 : ((len : Int) == 0) = false := by simp; omega
    clear m1 m2
    go_enter Tryz.func38, Tryz.ntmps38
    go_wp2
    go_ret
    exact ⟨congrArg (fun b => Ending.returned (.bool b)) (HN.out), HB.out⟩
end Go.Proofs.YtjldflfoncfndaaGreat
namespace Go.Proofs.YtjldflfoncfndaaGreat
open Go.RowKit Crcm

set_option maxRecDepth 100000 in
set_option maxHeartbeats 4000000 in
theorem refPutRequest_no (k g p : Int) (ad : Option Addr) (len cap : Nat) (w : World) (hmay : reqMay k g p len = false) :
    Calls Tryz.prog 11 #[reqV k g p ad len cap] w fun x w' => x = .returned (.tuple #[.slice none 0 0, .int .i64 1]) ∧ Below w.heap.size w w' := by
  have HM := asks_any k g p ad len cap (w.alloc (.cells #[.int .i64 k, .int .i64 g, .int .i64 p, .slice ad len cap] 24))
  rw [hmay] at HM
  have HB : Hid (Below w.heap.size w (w.alloc (.cells #[.int .i64 k, .int .i64 g, .int .i64 p, .slice ad len cap] 24))) := (show Hid _ from (Below.refl _ w).alloc (Nat.le_refl _) _)
  clear hmay
  unfold reqV at HM ⊢
  go_enter Tryz.func11, Tryz.ntmps11
  go_wp2_with (go_at_call 38; refine HM.mono ?_; rintro x W1 ⟨rfl, hb1⟩)
  go_ret2
  exact ⟨rfl, HB.out.trans (hb1.mono HB.out.size)⟩
theorem request_eq (k g p : Nat) (l : List Nat) (hk : k ≤ 255) : ([k] ++ spellN g 6) ++ spellN p 2 ++ l = requestN k g p l := by
  unfold requestN
  rw [spell_one k hk]
theorem request_lt {k g p : Nat} {l : List Nat} (hk : k ≤ 255) (hl : ∀ x ∈ l, x < 256) : ∀ x ∈ ([k] ++ spellN g 6) ++ spellN p 2 ++ l, x < 256 :=
  lt_app (lt_app (lt_app (lt_one (by omega)) (spellN_lt _ _)) (spellN_lt _ _)) hl
set_option maxRecDepth 100000 in
set_option maxHeartbeats 8000000 in
theorem refPutRequest_ok (k g p : Nat) (ad : Option Addr) (len cap : Nat) (l : List Nat) (w : World) (hm : reqMay k g p len = true) (ha : Part.ok w ⟨ad, len, cap, l⟩) :
    Calls Tryz.prog 11 #[reqV k g p ad len cap] w fun x w' => ∃ q : Part, x = .returned (.tuple #[.slice q.ad q.len q.cap, .int .i64 0]) ∧ Hid (q.l = frameBs 1 (requestN k g p l)) ∧ Hid (q.ok w') ∧ Below w.heap.size w w' := by
  have HA : Hid (Part.ok w ⟨ad, len, cap, l⟩) := ha
  clear ha
  have HM := asks_any (k : Int) (g : Int) (p : Int) ad len cap (w.alloc (.cells #[.int .i64 (k : Int), .int .i64 (g : Int), .int .i64 (p : Int), .slice ad len cap] 24))
  rw [hm] at HM
  obtain ⟨hk, hg, hpp, hlen⟩ := reqMay_lim hm
  clear hm
  unfold reqV at HM ⊢
  have HS : Hid (∀ W : World, Below (w.heap.size + 1) (w.alloc (.cells #[.int .i64 (k : Int), .int .i64 (g : Int), .int .i64 (p : Int), .slice ad len cap] 24)) W → W.cell? ⟨w.heap.size, 0, none⟩ = some (.int .i64 (k : Int)) ∧ W.cell? ⟨w.heap.size, 1, none⟩ = some (.int .i64 (g : Int)) ∧ W.cell? ⟨w.heap.size, 2, none⟩ = some (.int .i64 (p : Int)) ∧ W.cell? ⟨w.heap.size, 3, none⟩ = some (.slice ad len cap)) := (show Hid _ from fun W hW => by
    have q := (hW.block w.heap.size (by omega)).trans (heap_alloc_last w _)
    refine ⟨?_, ?_, ?_, ?_⟩ <;> (rw [cell_of_row _ _ _ _ _ _ q]; rfl))
  have HS2 : Hid (∀ W : World, Below (w.heap.size + 1) (w.alloc (.cells #[.int .i64 (k : Int), .int .i64 (g : Int), .int .i64 (p : Int), .slice ad len cap] 24)) W → W.cell? ⟨w.heap.size, 0, none⟩ = some (.int .i64 (k : Int)) ∧ W.cell? ⟨w.heap.size, 1, none⟩ = some (.int .i64 (g : Int))) := (show Hid _ from fun W hW => ⟨(HS.out W hW).1, (HS.out W hW).2.1⟩)
  have HB : Hid (Below w.heap.size w (w.alloc (.cells #[.int .i64 (k : Int), .int .i64 (g : Int), .int .i64 (p : Int), .slice ad len cap] 24))) := (show Hid _ from (Below.refl _ w).alloc (Nat.le_refl _) _)
  have HBW : Hid (∀ W, Below (w.heap.size + 1) (w.alloc (.cells #[.int .i64 (k : Int), .int .i64 (g : Int), .int .i64 (p : Int), .slice ad len cap] 24)) W → Below w.heap.size w W) := (show Hid _ from fun W h => HB.out.trans (h.mono (Nat.le_succ _)))
  have hsz0 : (w.alloc (.cells #[.int .i64 (k : Int), .int .i64 (g : Int), .int .i64 (p : Int), .slice ad len cap] 24)).heap.size = w.heap.size + 1 := by simp
  have hw8 : IntKind.u8.wrap (k : Int) = (k : Int) := by simp [IntKind.wrap, IntKind.bits, IntKind.signed]; omega
  go_enter Tryz.func11, Tryz.ntmps11
  go_wp2_with (go_at_call 38; refine HM.mono ?_; rintro r W1 ⟨rfl, hb1⟩; have D1 : Hid (Below (w.heap.size + 1) (w.alloc _) W1) := (show Hid _ from hsz0 ▸ hb1); have B0 : Hid (Below w.heap.size w W1) := (show Hid _ from HB.out.trans (hb1.mono HB.out.size)); clear hb1 HM)
  have Z1 : Hid (w.heap.size + 1 ≤ W1.heap.size) := (show Hid _ from (show w.heap.size + 1 ≤ W1.heap.size by have := D1.out.size; simpa [hsz0] using this))
  have C0 : Hid (Below (w.heap.size + 1) (w.alloc _) W1.drew) := (show Hid _ from D1.out.drew)
  have CA : Hid (Below (w.heap.size + 1) (w.alloc _) (W1.alloc (.cells #[.int .u8 (k : Int)] 5)).drew) := (show Hid _ from alloc_drew D1.out Z1.out _)
  have Z0 : Hid (w.heap.size + 1 ≤ W1.drew.heap.size) := Z1
  have ZA : Hid (w.heap.size + 1 ≤ (W1.alloc (.cells #[.int .u8 (k : Int)] 5)).drew.heap.size) := (show Hid _ from Nat.le_trans Z1.out (((Below.refl 0 W1).alloc (Nat.zero_le _) (.cells #[.int .u8 (k : Int)] 5)).drew).size)
  have OA : Hid ((W1.alloc (.cells #[.int .u8 (k : Int)] 5)).drew.ownsRow (w.heap.size + 1) 5 1 (.slice (some ⟨W1.heap.size, 0, none⟩) 1 1) 1 ([k].map bv)) := (show Hid _ from own_kept (one_own W1 _ k _ rfl Z1.out) (Below.refl _ _).drew)
  clear D1
  generalize w.alloc _ = W0 at *
  clear HB hsz0
  go_region_held3 (fun W => W.cell? ⟨w.heap.size, 0, none⟩ = some (.int .i64 (k : Int)) ∧ W.cell? ⟨w.heap.size, 1, none⟩ = some (.int .i64 (g : Int)))
    (first | exact HS2.out _ C0.out | exact HS2.out _ CA.out | exact HS2.out _ C1.out | exact HS2.out _ (C1.out.alloc Y1.out _) | exact HS2.out _ C2.out)
    (first
      | (go_at_call 39; (with_reducible_and_instances (refine (bytes_at g 6 W1.drew rfl rfl (by omega)).mono ?_)); rintro r w1 ⟨p1, rfl, e1, k1, b1⟩; have C1 : Hid (Below (w.heap.size + 1) W0 w1) := (show Hid _ from C0.out.trans (b1.mono Z0.out)); have Y1 : Hid (w.heap.size + 1 ≤ w1.heap.size) := (show Hid _ from Nat.le_trans Z0.out b1.size); clear b1)
      | (go_at_call 39; (with_reducible_and_instances (refine (bytes_at g 6 (W1.alloc (.cells #[.int .u8 (k : Int)] 5)).drew rfl rfl (by omega)).mono ?_)); rintro r w1 ⟨p1, rfl, e1, k1, b1⟩; have C1 : Hid (Below (w.heap.size + 1) W0 w1) := (show Hid _ from CA.out.trans (b1.mono ZA.out)); have Y1 : Hid (w.heap.size + 1 ≤ w1.heap.size) := (show Hid _ from Nat.le_trans ZA.out b1.size); have OB : Hid (w1.ownsRow (w.heap.size + 1) 5 1 (.slice (some ⟨W1.heap.size, 0, none⟩) 1 1) 1 ([k].map bv)) := (show Hid _ from own_kept OA.out b1); clear b1)
      | (refine step_app_any (by rfl) _ _ (by rfl) (w.heap.size + 1) (.slice (some ⟨W1.heap.size, 0, none⟩) 1 1) 1 [k] (by rfl) OB.out p1.ad p1.len p1.cap (spellN g 6) (by rfl) (part_of k1.out e1.out).1 (part_of k1.out e1.out).2.1 (part_of k1.out e1.out).2.2 (by rw [part_len k1.out e1.out (spellN_length _ _)]; omega) Y1.out ?_; intro v2 w2 hown2 hg2; have O2 : Hid (w2.ownsRow (w.heap.size + 1) 5 1 v2 (1 + p1.len) (([k] ++ spellN g 6).map bv)) := hown2; have C2 : Hid (Below (w.heap.size + 1) W0 w2) := (show Hid _ from grown_below C1.out OB.out hg2 Y1.out); have Y2 : Hid (w.heap.size + 1 ≤ w2.heap.size) := (show Hid _ from Nat.le_trans Y1.out (grown_below (Below.refl _ _) OB.out hg2 Y1.out).size); have L2 : Hid (p1.len = 6) := (show Hid _ from part_len k1.out e1.out (spellN_length _ _)); clear hown2 hg2 OB)
      | (refine step_app_any (by rfl) _ _ (by rfl) (w.heap.size + 1) (.slice (some ⟨w1.heap.size, 0, none⟩) 1 1) 1 [k] (by rfl) (one_own w1 _ k _ rfl Y1.out) p1.ad p1.len p1.cap (spellN g 6) (by rfl) (part_of k1.out e1.out).1 (part_of k1.out e1.out).2.1 ((part_of k1.out e1.out).2.2.later ((Below.refl _ _).alloc (Nat.le_refl _) _)) (by rw [part_len k1.out e1.out (spellN_length _ _)]; omega) (Nat.le_trans Y1.out (by simp)) ?_; intro v2 w2 hown2 hg2; have O2 : Hid (w2.ownsRow (w.heap.size + 1) 5 1 v2 (1 + p1.len) (([k] ++ spellN g 6).map bv)) := hown2; have C2 : Hid (Below (w.heap.size + 1) W0 w2) := (show Hid _ from grown_below (C1.out.alloc Y1.out _) (one_own w1 _ k _ rfl Y1.out) hg2 (Nat.le_trans Y1.out (by simp))); have Y2 : Hid (w.heap.size + 1 ≤ w2.heap.size) := (show Hid _ from Nat.le_trans (Nat.le_trans Y1.out (by simp)) (grown_below (Below.refl _ _) (one_own w1 _ k _ rfl Y1.out) hg2 (Nat.le_trans Y1.out (by simp))).size); have L2 : Hid (p1.len = 6) := (show Hid _ from part_len k1.out e1.out (spellN_length _ _)); clear hown2 hg2))
  all_goals clear OA CA C0 Z0 ZA C1 Y1 k1 e1 HS2
  all_goals obtain ⟨p1n, hp1n⟩ : ∃ n, p1.len = n := ⟨_, rfl⟩
  all_goals have l2 : 1 + p1.len = 1 + 6 := (by rw [L2.out])
  all_goals rw [l2] at O2
  all_goals clear l2 L2 hp1n p1n
  all_goals go_wp2_with fail
  all_goals have D0 : Hid (Below (w.heap.size + 1) W0 w2.drew) := (show Hid _ from C2.out.drew)
  all_goals have DZ : Hid (w.heap.size + 1 ≤ w2.drew.heap.size) := Y2
  all_goals have O3 : Hid (w2.drew.ownsRow (w.heap.size + 1) 5 1 v2 (1 + 6) (([k] ++ spellN g 6).map bv)) := (show Hid _ from own_kept O2.out (Below.refl _ _).drew)
  all_goals have HS3 : Hid (∀ W : World, Below (w.heap.size + 1) W0 W → W.cell? ⟨w.heap.size, 2, none⟩ = some (.int .i64 (p : Int)) ∧ W.cell? ⟨w.heap.size, 3, none⟩ = some (.slice ad len cap)) := (show Hid _ from fun W hW => (HS.out W hW).2.2)
  all_goals go_region_held3 (fun W => W.cell? ⟨w.heap.size, 2, none⟩ = some (.int .i64 (p : Int)) ∧ W.cell? ⟨w.heap.size, 3, none⟩ = some (.slice ad len cap))
    (first | exact HS3.out _ D0.out | exact HS3.out _ D3.out | exact HS3.out _ D4.out | exact HS3.out _ D5.out)
    (first
      | (go_at_call 39; (with_reducible_and_instances (refine (bytes_at p 2 w2.drew rfl rfl (by omega)).mono ?_)); rintro r w3 ⟨p3, rfl, e3, k3, b3⟩; have D3 : Hid (Below (w.heap.size + 1) W0 w3) := (show Hid _ from D0.out.trans (b3.mono DZ.out)); have Y3 : Hid (w.heap.size + 1 ≤ w3.heap.size) := (show Hid _ from Nat.le_trans DZ.out b3.size); have O3b : Hid (w3.ownsRow (w.heap.size + 1) 5 1 v2 (1 + 6) (([k] ++ spellN g 6).map bv)) := (show Hid _ from own_kept O3.out b3); clear b3)
      | (refine step_app_any (by rfl) _ _ (by rfl) (w.heap.size + 1) v4 (1 + 6 + p3.len) ([k] ++ spellN g 6 ++ spellN p 2) (by rfl) O4.out ad len cap l (by rfl) HA.out.1 HA.out.2.1 (HA.out.later (HBW.out _ D4.out)).2.2 (by rw [part_len k3.out e3.out (spellN_length _ _)]; omega) Y4.out ?_; intro v5 w5 hown5 hg5; have D5 : Hid (Below (w.heap.size + 1) W0 w5) := (show Hid _ from grown_below D4.out O4.out hg5 Y4.out); have Y5 : Hid (w.heap.size + 1 ≤ w5.heap.size) := (show Hid _ from Nat.le_trans Y4.out (grown_below (Below.refl _ _) O4.out hg5 Y4.out).size); obtain ⟨p5, rfl, e5, k5⟩ := own_part hown5 (request_lt (by omega) HA.out.2.2.1) (by rw [part_len k3.out e3.out (spellN_length _ _)]; have := HA.out.1; simp at this; simp [spellN_length, this]; omega); have K5 : Hid (p5.ok w5) := k5; have E5 : Hid (p5.l = requestN k g p l) := (show Hid _ from e5.trans (request_eq k g p l (by omega))); have L5 : Hid (p5.len ≤ 65536) := (show Hid _ from partLenQ E5.out k5 HA.out.1 hlen); clear hown5 hg5 e5 k5)
      | (refine step_app_any (by rfl) _ _ (by rfl) (w.heap.size + 1) v2 (1 + 6) ([k] ++ spellN g 6) (by rfl) O3b.out p3.ad p3.len p3.cap (spellN p 2) (by rfl) (part_of k3.out e3.out).1 (part_of k3.out e3.out).2.1 (part_of k3.out e3.out).2.2 (by rw [part_len k3.out e3.out (spellN_length _ _)]; omega) Y3.out ?_; intro v4 w4 hown4 hg4; have O4 : Hid (w4.ownsRow (w.heap.size + 1) 5 1 v4 (1 + 6 + p3.len) (([k] ++ spellN g 6 ++ spellN p 2).map bv)) := hown4; have D4 : Hid (Below (w.heap.size + 1) W0 w4) := (show Hid _ from grown_below D3.out O3b.out hg4 Y3.out); have Y4 : Hid (w.heap.size + 1 ≤ w4.heap.size) := (show Hid _ from Nat.le_trans Y3.out (grown_below (Below.refl _ _) O3b.out hg4 Y3.out).size); clear hown4 hg4))
  all_goals go_wp2_with (go_at_call 40; (with_reducible_and_instances (refine (refFrame_at 1 p5 w5 rfl (by omega) L5.out K5.out).mono ?_)); rintro r w6 ⟨p6, rfl, e6, k6, b6⟩; have D6 : Hid (Below (w.heap.size + 1) W0 w6) := (show Hid _ from D5.out.trans (b6.mono Y5.out)); clear b6)
  all_goals go_ret2
  all_goals exact ⟨p6, rfl, (show Hid _ from e6.out.trans (congrArg (frameBs 1) E5.out)), k6, HBW.out _ D6.out⟩
end Go.Proofs.YtjldflfoncfndaaGreat
