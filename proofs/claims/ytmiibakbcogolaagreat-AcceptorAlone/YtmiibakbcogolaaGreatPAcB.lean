/- There and back: what Asks and Answers tell; GetAnswer of an Answer that may be. Small laws on slices of bytes; Bytes and Frame of the document's package of layer 1, as a walk meets them. num and Own of the statements of layer 8. -/
import Derived.Test.YtmiibakbcogolaaGreatPAcT
import Derived.Test.YtmiibakbcogolaaGreatPMath
import Derived.Test.YtmiibakbcogolaaGreatPRef
namespace Go.Proofs.YtmiibakbcogolaaGreat.Ac
open Go.RowKit Crcm

theorem valN_inj : ∀ {a b : List Nat}, a.length = b.length → (∀ x ∈ a, x < 256) → (∀ x ∈ b, x < 256) → valN a = valN b → a = b
  | [], [], _, _, _, _ => rfl
  | [], _ :: _, h, _, _, _ => by simp at h
  | _ :: _, [], h, _, _, _ => by simp at h
  | x :: a, y :: b, h, ha, hb, hv => by
    simp only [valN] at hv
    have h1 := ha x (by simp)
    have h2 := hb y (by simp)
    have e1 : x = y := by omega
    have e2 : valN a = valN b := by omega
    rw [e1, valN_inj (by simpa using h) (fun z hz => ha z (by simp [hz])) (fun z hz => hb z (by simp [hz])) e2]
theorem spell_val (l : List Nat) (n : Nat) (hn : l.length = n) (h : ∀ x ∈ l, x < 256) : spellN (valN l) n = l := by
  subst hn
  refine valN_inj (spellN_length _ _) (spellN_lt _ _) h ?_
  rw [valN_spellN]
  exact Nat.mod_eq_of_lt (valN_lt l h)
theorem take_split (l : List Nat) (p n m : Nat) : (l.drop p).take (n + m) = (l.drop p).take n ++ (l.drop (p + n)).take m := by
  rw [List.take_add, List.drop_drop]
theorem unpack_frame (kind least : Nat) (b : List Nat) (hk : kind ≤ 255) (hl : b.length ≤ 65536) (hm : least ≤ b.length) : unpackN (frameBs kind b) kind least = true ∧ bodyAt (frameBs kind b) 0 = b := by
  obtain ⟨h1, h2, h3, h4, h5⟩ := frame_parts [] [] b kind 0 rfl hk hl
  simp only [List.nil_append, List.append_nil] at h1 h2 h3 h4 h5
  have e : unframeE (frameBs kind b) 0 = 0 := by
    unfold unframeE
    rw [h1, frameBs_length, if_neg (by omega), if_neg (by omega), if_neg (by omega), h4, h5, if_pos rfl]
  refine ⟨?_, h3⟩
  unfold unpackN
  rw [h1, h2, e, frameBs_length]
  simp [hm]
theorem seg (a b c : List Nat) (n m : Nat) (ha : a.length = n) (hb : b.length = m) : ((a ++ (b ++ c)).drop n).take m = b := by
  subst ha hb
  simp
theorem val_spell (x n : Nat) (h : x < 2 ^ (8 * n)) : valN (spellN x n) = x := by rw [valN_spellN]; exact Nat.mod_eq_of_lt h
theorem askBack (k g v b : Nat) (l : List Nat) (hk : k ≤ 255) (hg : g < 281474976710656) (hv : v < 281474976710656) (hb : b < 281474976710656) : askK (askN k g v b l) = k ∧ askG (askN k g v b l) = g ∧ askW (askN k g v b l) = v ∧ askB (askN k g v b l) = b ∧ (askN k g v b l).drop 19 = l := by
  refine ⟨?_, ?_, ?_, ?_, ?_⟩
  · unfold askK; rw [show askN k g v b l = [] ++ (spellN k 1 ++ (spellN g 6 ++ spellN v 6 ++ spellN b 6 ++ l)) by simp [askN], seg _ _ _ 0 1 rfl (spellN_length _ _), val_spell _ _ (by omega)]
  · unfold askG; rw [show askN k g v b l = spellN k 1 ++ (spellN g 6 ++ (spellN v 6 ++ spellN b 6 ++ l)) by simp [askN], seg _ _ _ 1 6 (spellN_length _ _) (spellN_length _ _), val_spell _ _ (by omega)]
  · unfold askW; rw [show askN k g v b l = (spellN k 1 ++ spellN g 6) ++ (spellN v 6 ++ (spellN b 6 ++ l)) by simp [askN], seg _ _ _ 7 6 (by simp [spellN_length]) (spellN_length _ _), val_spell _ _ (by omega)]
  · unfold askB; rw [show askN k g v b l = (spellN k 1 ++ spellN g 6 ++ spellN v 6) ++ (spellN b 6 ++ l) by simp [askN], seg _ _ _ 13 6 (by simp [spellN_length]) (spellN_length _ _), val_spell _ _ (by omega)]
  · rw [show askN k g v b l = (spellN k 1 ++ spellN g 6 ++ spellN v 6 ++ spellN b 6) ++ l by simp [askN]]
    exact List.drop_left' (by simp [spellN_length])
theorem txBack (v p b s : Nat) (l : List Nat) (hs : s ≤ 255) (hv : v < 281474976710656) (hp : p < 281474976710656) (hb : b < 281474976710656) : txV (textN v p b s l) = v ∧ txP (textN v p b s l) = p ∧ txB (textN v p b s l) = b ∧ txL (textN v p b s l) = s ∧ (textN v p b s l).drop 19 = l := by
  refine ⟨?_, ?_, ?_, ?_, ?_⟩
  · unfold txV; rw [show textN v p b s l = [] ++ (spellN v 6 ++ (spellN p 6 ++ spellN b 6 ++ spellN s 1 ++ l)) by simp [textN], seg _ _ _ 0 6 rfl (spellN_length _ _), val_spell _ _ (by omega)]
  · unfold txP; rw [show textN v p b s l = spellN v 6 ++ (spellN p 6 ++ (spellN b 6 ++ spellN s 1 ++ l)) by simp [textN], seg _ _ _ 6 6 (spellN_length _ _) (spellN_length _ _), val_spell _ _ (by omega)]
  · unfold txB; rw [show textN v p b s l = (spellN v 6 ++ spellN p 6) ++ (spellN b 6 ++ (spellN s 1 ++ l)) by simp [textN], seg _ _ _ 12 6 (by simp [spellN_length]) (spellN_length _ _), val_spell _ _ (by omega)]
  · unfold txL; rw [show textN v p b s l = (spellN v 6 ++ spellN p 6 ++ spellN b 6) ++ (spellN s 1 ++ l) by simp [textN], seg _ _ _ 18 1 (by simp [spellN_length]) (spellN_length _ _), val_spell _ _ (by omega)]
  · rw [show textN v p b s l = (spellN v 6 ++ spellN p 6 ++ spellN b 6 ++ spellN s 1) ++ l by simp [textN]]
    exact List.drop_left' (by simp [spellN_length])
theorem ansBack (e v p b s : Nat) (l : List Nat) (he : e ≤ 255) : valN (((ansN e v p b s l).drop 0).take 1) = e ∧ (ansN e v p b s l).drop 1 = textN v p b s l := by
  refine ⟨?_, ?_⟩
  · rw [show ansN e v p b s l = [] ++ (spellN e 1 ++ textN v p b s l) by simp [ansN], seg _ _ _ 0 1 rfl (spellN_length _ _), val_spell _ _ (by omega)]
  · unfold ansN
    exact List.drop_left' (spellN_length _ _)
set_option maxRecDepth 100000 in
set_option maxHeartbeats 4000000 in
theorem getAns_of (q : Part) (e v p b : Nat) (sl : Bool) (dl : List Nat) (w : World) (hq : q.l = frameBs 4 (ansN e v p b sl.toNat dl)) (hk : q.ok w) (hlc : q.len ≤ q.cap) (he : e ≤ 255) (hv : v < 281474976710656) (hp : p < 281474976710656) (hb : b < 281474976710656) (hdl : dl.length ≤ 4000) :
    Calls Tryz.prog 17 #[.slice q.ad q.len q.cap] w fun x w' => ∃ r : Part, x = .returned (.tuple #[.agg #[.int .i64 (e : Int), .int .i64 (v : Int), .int .i64 (p : Int), .int .i64 (b : Int), .bool sl, .slice r.ad r.len r.cap], .int .i64 0]) ∧ Hid (r.l = dl ∧ r.ok w') ∧ Below w.heap.size w w' ∧ Hid (∀ b off, r.ad = some ⟨b, off, none⟩ → w.heap.size ≤ b) := by
  have hs1 : sl.toNat ≤ 255 := by cases sl <;> decide
  have hl := ansN_length e v p b sl.toNat dl
  obtain ⟨u1, u2⟩ := unpack_frame 4 1 (ansN e v p b sl.toNat dl) (by omega) (by omega) (by omega)
  obtain ⟨t1, t2, t3, t4, t5⟩ := txBack v p b sl.toNat dl hs1 hv hp hb
  obtain ⟨a1, a2⟩ := ansBack e v p b sl.toNat dl he
  have h0 : q.l.length = q.len := hk.1
  have HB : Hid (Below w.heap.size w (w.alloc (.cells #[.int .i64 0, .int .i64 0, .int .i64 0, .int .i64 0, .bool false, .slice none 0 0] 36))) := hid ((Below.refl _ w).alloc (Nat.le_refl _) _)
  have Q := unpack_at (z := 4) (c := 1) q.ad q.len q.cap q.l 4 1 (w.alloc (.cells #[.int .i64 0, .int .i64 0, .int .i64 0, .int .i64 0, .bool false, .slice none 0 0] 36)) rfl rfl (hk.later HB.out) hlc (by rw [hq, frameBs_length, hl] at h0; omega) (by rw [hq]; exact u1) (by omega)
  rw [hq, u2] at Q
  generalize hbd : ansN e v p b sl.toNat dl = bd at *
  have HX : Hid (∀ (W : World) (g n c : Nat), Part.ok W ⟨some ⟨g, 0, none⟩, n, c, bd⟩ → n = bd.length → n ≤ c → g < W.heap.size → Calls Tryz.prog 49 #[.slice (some ⟨g, 1, none⟩) (n - 1) (c - 1)] W fun x w' => ∃ o' : Nat, x = .returned (.tuple #[.agg #[.int .i64 0, .int .i64 (v : Int), .int .i64 (p : Int), .int .i64 (b : Int), .bool sl, .slice (some ⟨g, o', none⟩) (n - 1 - 19) (c - 1 - 19)], .bool true]) ∧ Hid (Part.ok w' ⟨some ⟨g, o', none⟩, n - 1 - 19, c - 1 - 19, dl⟩) ∧ Below W.heap.size W w') := hid (fun W g n c h1 h2 h3 h4 => by
    have q2 := part_rest 1 h1 (by omega) 1 (fun _ => rfl)
    rw [a2] at q2
    have r := readText_ok g 1 (n - 1) (c - 1) (textN v p b sl.toNat dl) W sl true q2 (by omega) (by omega) (by omega) (by rw [t4]; cases sl <;> rfl) (by rw [t4]; cases sl <;> rfl) h4
    rw [t1, t2, t3, t5] at r
    exact r)
  have HN : Hid (∀ (W : World) (g n c : Nat), Part.ok W ⟨some ⟨g, 0, none⟩, n, c, bd⟩ → n = bd.length → n ≤ c → Calls Tryz.prog 46 #[.slice (some ⟨g, 0, none⟩) n c, .int .i64 0, .int .i64 1] W fun x w' => x = .returned (.int .i64 (e : Int)) ∧ Below W.heap.size W w') := hid (fun W g n c h1 h2 h3 => by
    have r := numberAt_any (z := 0) (s := 1) (some ⟨g, 0, none⟩) n c bd 0 1 W rfl rfl h1 h3 (by omega) (by omega) (by omega) (by omega)
    rw [a1] at r
    exact r)
  have HM : Hid (∀ (W : World) (ad : Option Addr) (n c : Nat), n ≤ 4000 → Calls Tryz.prog 41 #[.agg #[.int .i64 (e : Int), .int .i64 (v : Int), .int .i64 (p : Int), .int .i64 (b : Int), .bool sl, .slice ad n c]] W fun x w' => x = .returned (.bool true) ∧ Below W.heap.size W w') := hid (fun W ad n c hn => by
    have hm : ansMay (e : Int) (v : Int) (p : Int) (b : Int) n = true := by simp [ansMay, isLogletN]; omega
    have r := nmay_any (e : Int) (v : Int) (p : Int) (b : Int) sl ad n c W
    rw [hm] at r
    exact r)
  clear u1 u2 t1 t2 t3 t4 t5 a1 a2 hk hq h0 hs1 hbd
  go_enter Tryz.func17, Tryz.ntmps17
  go_wp2_with (first
    | (go_at_call 45; refine Q.mono ?_; rintro x V ⟨g, n, c, rfl, hn, hn4, hn6, hnc, hcm, hg, k1, hb1⟩; have X0 : Hid (Blk V w.heap.size #[.int .i64 0, .int .i64 0, .int .i64 0, .int .i64 0, .bool false, .slice none 0 0] 36) := hid (blk_below (blk_new _ w _) hb1 (by simp)); have P0 : Hid (Part.ok V ⟨some ⟨g, 0, none⟩, n, c, bd⟩) := k1; have B0 : Hid (Below w.heap.size w V) := hid (HB.out.trans (hb1.mono HB.out.size)); have G0 : Hid (g < V.heap.size ∧ w.heap.size < g) := hid ⟨by (obtain ⟨b', off, e', hb', -⟩ := k1.cells (by omega); cases e'; exact hb'), Nat.lt_of_lt_of_le (by simp) hg⟩; have HNL : Hid (n = bd.length) := hn; have i1 : (1 : Int) ≤ (n : Int) := (by omega); have i2 : (n : Int) ≤ (c : Int) := (by omega); have i3 : (1 : Int) ≤ (c : Int) := (by omega); have hc20 : 20 ≤ c := (by omega); have i4 : (c == 1) = false := (by simp; omega); have i5 : ((c : Int) == 1) = false := (by simp; omega); clear hb1 k1 Q hcm hg hn)
    | (go_at_call 49; (with_reducible_and_instances (refine (HX.out V g n c P0.out HNL.out hnc G0.out.1).mono ?_)); rintro x V2 ⟨o', rfl, P2, b2⟩; have X2 : Hid (Blk V2 w.heap.size #[.int .i64 0, .int .i64 0, .int .i64 0, .int .i64 0, .bool false, .slice none 0 0] 36) := hid (X0.out.later b2); have B2 : Hid (Below w.heap.size w V2) := hid (B0.out.trans (b2.mono B0.out.size)); have Q2 : Hid (Part.ok V2 ⟨some ⟨g, 0, none⟩, n, c, bd⟩) := hid (P0.out.later b2); have G2 : Hid (g < V2.heap.size) := hid (Nat.lt_of_lt_of_le G0.out.1 b2.size); clear b2 X0 P0 B0)
    | (go_at_call 46; (with_reducible_and_instances (refine (HN.out _ g n c (Q2.out.later ((Below.refl _ _).alloc (Nat.le_refl _) _)) HNL.out hnc).mono ?_)); rintro x V3 ⟨rfl, b3⟩; have N3 : Hid (Blk V3 V2.heap.size #[.int .i64 0, .int .i64 (v : Int), .int .i64 (p : Int), .int .i64 (b : Int), .bool sl, .slice (some ⟨g, o', none⟩) (n - 1 - 19) (c - 1 - 19)] 36) := hid ((blk_new _ V2 _).later b3); have c0 := N3.out.cell 0; have f0 := N3.out.free 0; simp only [List.getElem?_toArray, List.getElem?_cons_zero] at c0; have N4 : Hid (Blk (V3.setCell ⟨V2.heap.size, 0, none⟩ (.int .i64 (e : Int))) V2.heap.size #[.int .i64 (e : Int), .int .i64 (v : Int), .int .i64 (p : Int), .int .i64 (b : Int), .bool sl, .slice (some ⟨g, o', none⟩) (n - 1 - 19) (c - 1 - 19)] 36) := hid (N3.out.set 0 _); obtain ⟨⟨d0, d1, d2, d3, d4, d5⟩, -⟩ := blk6 N4.out; have BV : Hid (Below V2.heap.size V2 (V3.setCell ⟨V2.heap.size, 0, none⟩ (.int .i64 (e : Int)))) := hid ((((Below.refl _ _).alloc (Nat.le_refl _) _).trans (b3.mono (by simp))).setCell (p := ⟨V2.heap.size, 0, none⟩) (Nat.le_refl _) _); have hn20 : n - 1 - 19 ≤ 4000 := (by have := HNL.out; omega); have HM3 := HM.out (V3.setCell ⟨V2.heap.size, 0, none⟩ (.int .i64 (e : Int))) (some ⟨g, o', none⟩) (n - 1 - 19) (c - 1 - 19) hn20; clear b3)
    | (go_at_call 41; (with_reducible_and_instances (refine HM3.mono ?_)); rintro x V4 ⟨rfl, b4⟩; have B4 : Hid (Below V2.heap.size V2 V4) := hid (BV.out.trans (b4.mono BV.out.size)); have N5 : Hid (Blk V4 V2.heap.size #[.int .i64 (e : Int), .int .i64 (v : Int), .int .i64 (p : Int), .int .i64 (b : Int), .bool sl, .slice (some ⟨g, o', none⟩) (n - 1 - 19) (c - 1 - 19)] 36) := hid (N4.out.later b4); obtain ⟨⟨r0, r1, r2, r3, r4, r5⟩, -⟩ := blk6 N5.out; have X4 : Hid (Blk V4 w.heap.size #[.int .i64 0, .int .i64 0, .int .i64 0, .int .i64 0, .bool false, .slice none 0 0] 36) := hid (X2.out.later B4.out); obtain ⟨⟨x0, x1, x2, x3, x4, x5⟩, y0, y1, y2, y3, y4, y5⟩ := blk6 X4.out; clear b4 HM3))
  refine bodyPost_ret (ret_ans Tryz.results17 _ _ w.heap.size _ _ _ _ _ _ _ _ rfl (blk_set6 X4.out _ _ _ _ _ _)) rfl ⟨⟨some ⟨g, o', none⟩, n - 1 - 19, c - 1 - 19, dl⟩, rfl, hid ⟨rfl, part_set6 (P2.out.later B4.out) (fun b' off e' => by injection e' with e'; injection e' with e'; have := G0.out.2; omega)⟩, ?_, hid (fun b' off e' => by injection e' with e'; injection e' with e'; have := G0.out.2; omega)⟩
  exact set6_below (B2.out.trans (B4.out.mono B2.out.size)) (Nat.le_refl _) _ _ _ _ _ _
end Go.Proofs.YtmiibakbcogolaaGreat.Ac
namespace Go.Proofs.YtmiibakbcogolaaGreat.Ac
open Go.RowKit Crcm

theorem bytes_at {z s : Int} (n size : Nat) (w : World) (hz : z = n) (hs : s = size) (h6 : size ≤ 6) :
    Calls Tryz.prog 74 #[.int .i64 z, .int .i64 s] w fun e w' => ∃ p : Part, e = .returned (.slice p.ad p.len p.cap) ∧ Hid (p.l = spellN n size) ∧ Hid (p.ok w') ∧ Below w.heap.size w w' := by
  subst hz hs
  refine (bytes_any n size w h6).mono ?_
  rintro e w' ⟨v, rfl, hown, hb⟩
  obtain ⟨p, rfl, h1, h2⟩ := Part.of_own hown
  exact ⟨p, rfl, h1, h2, hb⟩
theorem refFrame_at {z : Int} (kind : Nat) (p : Part) (w : World) (hz : z = kind) (hk : kind ≤ 255) (hl : p.len ≤ 65536) (hp : p.ok w) :
    Calls Tryz.prog 40 #[.int .i64 z, .slice p.ad p.len p.cap] w fun e w' => ∃ q : Part, e = .returned (.tuple #[.slice q.ad q.len q.cap, .int .i64 0]) ∧ Hid (q.l = frameBs kind p.l) ∧ Hid (q.ok w') ∧ Below w.heap.size w w' := by
  subst hz
  refine (refFrame_ok kind p.ad p.len p.cap p.l w hk hl hp).mono ?_
  rintro e w' ⟨v, rfl, hown, hb⟩
  obtain ⟨q, rfl, h1, h2⟩ := Part.of_own hown
  exact ⟨q, rfl, h1, h2, hb⟩
/-- One byte in a block of its own. -/
theorem one_row (w : World) (x : Nat) (z : Int) (hz : z = x) (hx : x < 256) : Row (w.alloc (.cells #[.int .u8 z] 5)) (some ⟨w.heap.size, 0, none⟩) [x] := by
  subst hz
  refine ⟨fun y hy => by simp at hy; omega, Or.inr ⟨w.heap.size, 0, rfl, by simp, fun i hi => ?_⟩⟩
  have hi0 : i = 0 := by simpa using hi
  subst hi0
  rw [cell_of_row _ w.heap.size _ _ 5 (0, 0) (heap_alloc_new w _)]
  rfl
theorem one_own (w : World) (base : Nat) (x : Nat) (z : Int) (hz : z = x) (hb : base ≤ w.heap.size) : (w.alloc (.cells #[.int .u8 z] 5)).ownsRow base 5 1 (.slice (some ⟨w.heap.size, 0, none⟩) 1 1) 1 ([x].map bv) := by
  subst hz
  exact World.ownsRow_lit w _ 1 hb (by unfold maxLen; omega) rfl
theorem own_part {w : World} {base n : Nat} {v : Value} {L : List Nat} (h : w.ownsRow base 5 1 v n (L.map bv)) (hx : ∀ x ∈ L, x < 256) (hn : L.length = n) : ∃ p : Part, v = .slice p.ad p.len p.cap ∧ p.l = L ∧ p.ok w := by
  subst hn
  exact Part.of_own (show Own w base v L from ⟨hx, h⟩)
theorem part_of {p : Part} {w : World} {l : List Nat} (h : p.ok w) (e : p.l = l) : l.length = p.len ∧ (p.ad = none → p.len = 0 ∧ p.cap = 0) ∧ Row w p.ad l := by
  rw [← e]; exact h
theorem part_len {p : Part} {w : World} {l : List Nat} {n : Nat} (h : p.ok w) (e : p.l = l) (hn : l.length = n) : p.len = n := by
  rw [← h.1, e, hn]
theorem grown_below {N : Nat} {w0 w w' : World} {v : Value} {e size n : Nat} {xs : List Value} (b : Below N w0 w) (h : w.ownsRow N e size v n xs) (hg : w.grownBy w' v.ownBlock) (hN : N ≤ w.heap.size) : Below N w0 w' :=
  b.grown hg hN (fun k hk => (h.lt k hk).1)
theorem lt_app {a b : List Nat} (ha : ∀ x ∈ a, x < 256) (hb : ∀ x ∈ b, x < 256) : ∀ x ∈ a ++ b, x < 256 := by
  intro x hx
  rcases List.mem_append.1 hx with h | h
  · exact ha x h
  · exact hb x h
theorem lt_one {x : Nat} (h : x < 256) : ∀ y ∈ [x], y < 256 := by intro y hy; simp at hy; omega
theorem alloc_drew {N : Nat} {w0 w : World} (b : Below N w0 w) (hN : N ≤ w.heap.size) (o : Obj) : Below N w0 (w.alloc o).drew := (b.alloc hN o).drew
theorem oe0 {w : World} {N n : Nat} (h : (w.alloc (.cells #[] 5)).ownsRow N 5 1 (.slice (some ⟨w.heap.size, 0, none⟩) 0 0) 0 (([] : List Nat).map bv)) (e : w.heap.size = n) : (w.alloc (.cells #[] 5)).ownsRow N 5 1 (.slice (some ⟨n, 0, none⟩) 0 0) 0 (([] : List Nat).map bv) := by
  rw [e] at h
  exact h
theorem ret_ask1 {fn : Func} {p : Tmp} (h : fn.results = #[.cell p 30]) (tmps : Array Value) (w : World) (B : Nat) (k g v b : Int) (ad : Option Addr) (len cap : Nat)
    (hp : tmps.getD p undef = .pointer (some ⟨B, 0, none⟩)) (hg : Blk w B #[.int .i64 k, .int .i64 g, .int .i64 v, .int .i64 b, .slice ad len cap] 30) :
    (results fn tmps).run Tryz.prog w = .ok (askV k g v b ad len cap) w := by
  have hl := run_loadVar_row (P := Tryz.prog) w B 30 30 _ (0, 0) _ hg Tryz.underlying30 rfl (by kernel_rfl)
  have hp' : tmps[p]?.getD undef = .pointer (some ⟨B, 0, none⟩) := by rw [← hp]; simp
  simp [results, h, asAddr, hp', hl, askV]
theorem part_setF {w : World} {q : Part} {B : Nat} {k g v b : Int} {ad : Option Addr} {len cap : Nat} {T : TypeId} {a' b' c' d' : Int} {ad' : Option Addr} {len' cap' : Nat} (hB : Blk w B #[.int .i64 k, .int .i64 g, .int .i64 v, .int .i64 b, .slice ad len cap] T) (h : q.ok w) : q.ok (set5 w B (.int .i64 a') (.int .i64 b') (.int .i64 c') (.int .i64 d') (.slice ad' len' cap')) := by
  by_cases h0 : q.l = []
  · exact ⟨h.1, h.2.1, h.2.2.1, Or.inl h0⟩
  · have hne : ∀ b' off, q.ad = some ⟨b', off, none⟩ → b' ≠ B := fun b' off e hb => by
      subst hb
      rcases h.2.2.2 with h1 | ⟨b2, o2, e2, hlt, hc⟩
      · exact h0 h1
      · rw [e] at e2
        cases e2
        have h2 := hc 0 (List.length_pos_iff.2 h0)
        rw [hB.cell] at h2
        generalize off + 0 = k at h2
        rcases k with _ | _ | _ | _ | _ | k
        all_goals (simp at h2)
    exact part_sets (part_sets (part_sets (part_sets (part_sets h hne) hne) hne) hne) hne
end Go.Proofs.YtmiibakbcogolaaGreat.Ac
namespace Go.Proofs.YtmiibakbcogolaaGreat.Ac
open Go.RowKit Crcm

theorem num8_any (n : Int) (w : World) : Calls Tryz.prog 19 #[.int .i64 n] w fun e w' => e = .returned (.int .i64 n) ∧ w' = w := by
  go_enter Tryz.func19, Tryz.ntmps19
  go_wp2
  go_ret
  exact ⟨rfl, rfl⟩
set_option maxRecDepth 100000 in
set_option maxHeartbeats 4000000 in
theorem own8_any (k g v b : Int) (ad : Option Addr) (len cap : Nat) (l : List Nat) (w : World) (ha : Part.ok w ⟨ad, len, cap, l⟩) (hlen : len ≤ 140737488351232) :
    Calls Tryz.prog 10 #[askV k g v b ad len cap] w fun x w' => ∃ q : Part, x = .returned (askV k g v b q.ad q.len q.cap) ∧ Hid (q.l = l ∧ q.ok w') ∧ Below w.heap.size w w' := by
  obtain ⟨W0, hW0⟩ : ∃ W0, (w.alloc (.cells #[.int .i64 k, .int .i64 g, .int .i64 v, .int .i64 b, .slice ad len cap] 24)).alloc (.cells #[.int .i64 0, .int .i64 0, .int .i64 0, .int .i64 0, .slice none 0 0] 30) = W0 := ⟨_, rfl⟩
  have sz : W0.heap.size = w.heap.size + 2 := by rw [← hW0]; simp
  have b0 : Below w.heap.size w W0 := by rw [← hW0]; exact ((Below.refl _ w).alloc (Nat.le_refl _) _).alloc (by simp) _
  have X1 : Blk W0 w.heap.size #[.int .i64 k, .int .i64 g, .int .i64 v, .int .i64 b, .slice ad len cap] 24 := by
    rw [← hW0]
    exact blk_below (blk_new _ w _) ((Below.refl (w.heap.size + 1) _).alloc (by simp) _) (by omega)
  have X2 : Blk W0 (w.heap.size + 1) #[.int .i64 0, .int .i64 0, .int .i64 0, .int .i64 0, .slice none 0 0] 30 := by
    rw [← hW0, show w.heap.size + 1 = (w.alloc (.cells #[.int .i64 k, .int .i64 g, .int .i64 v, .int .i64 b, .slice ad len cap] 24)).heap.size by simp]
    exact heap_alloc_last _ _
  have HS : Hid (∀ W : World, Below (w.heap.size + 1) W0 W → W.cell? ⟨w.heap.size, 0, none⟩ = some (.int .i64 k) ∧ W.cell? ⟨w.heap.size, 1, none⟩ = some (.int .i64 g) ∧ W.cell? ⟨w.heap.size, 2, none⟩ = some (.int .i64 v) ∧ W.cell? ⟨w.heap.size, 3, none⟩ = some (.int .i64 b) ∧ W.cell? ⟨w.heap.size, 4, none⟩ = some (.slice ad len cap)) := hid (fun W hW => (blk5 (blk_below X1 hW (by omega))).1)
  have X3 : Hid (Blk (W0.alloc (.cells #[] 5)).drew (w.heap.size + 1) #[.int .i64 0, .int .i64 0, .int .i64 0, .int .i64 0, .slice none 0 0] 30) := hid (blk_below X2 (((Below.refl W0.heap.size _).alloc (Nat.le_refl _) _).drew) (by omega))
  have C0 : Hid (Below (w.heap.size + 1) W0 W0.drew) := hid ((Below.refl _ _).drew)
  have CA : Hid (Below W0.heap.size W0 (W0.alloc (.cells #[] 5)).drew) := hid (((Below.refl _ _).alloc (Nat.le_refl _) _).drew)
  have CB : Hid (Below (w.heap.size + 1) W0 (W0.alloc (.cells #[] 5)).drew) := hid (CA.out.mono (by omega))
  have OE : Hid ((W0.alloc (.cells #[] 5)).drew.ownsRow (w.heap.size + 2) 5 1 (.slice (some ⟨w.heap.size + 2, 0, none⟩) 0 0) 0 (([] : List Nat).map bv)) := hid (own_kept (oe0 (empty_own W0 (w.heap.size + 2) (by omega)) sz) (Below.refl _ _).drew)
  have HA : Hid (Part.ok (W0.alloc (.cells #[] 5)).drew ⟨ad, len, cap, l⟩) := hid ((ha.later b0).later CA.out)
  have SZ : Hid (w.heap.size + 2 ≤ (W0.alloc (.cells #[] 5)).drew.heap.size) := hid (Nat.le_trans (Nat.le_of_eq sz.symm) CA.out.size)
  have HB : Hid (Below w.heap.size w W0) := b0
  clear ha b0 X1 X2
  unfold askV
  go_enter Tryz.func10, Tryz.ntmps10
  go_wp2_with fail
  go_region_held3 (fun W => W.cell? ⟨w.heap.size, 0, none⟩ = some (.int .i64 k) ∧ W.cell? ⟨w.heap.size, 1, none⟩ = some (.int .i64 g) ∧ W.cell? ⟨w.heap.size, 2, none⟩ = some (.int .i64 v) ∧ W.cell? ⟨w.heap.size, 3, none⟩ = some (.int .i64 b) ∧ W.cell? ⟨w.heap.size, 4, none⟩ = some (.slice ad len cap))
    (first | exact HS.out _ C0.out | exact HS.out _ CB.out | exact HS.out _ C4.out | exact HS.out _ (set5_below C4.out (Nat.le_refl _) _ _ _ _ _))
    ((refine step_app_any (by rfl) _ _ (by rfl) (w.heap.size + 2) (.slice (some ⟨w.heap.size + 2, 0, none⟩) 0 0) 0 [] (by rfl) OE.out ad len cap l (by rfl) HA.out.1 HA.out.2.1 HA.out.2.2 (by omega) SZ.out ?_; intro v4 w4 hown4 hg4; obtain ⟨q, rfl, hq, kq⟩ := own_part (L := l) (n := len) (by simpa using hown4) HA.out.2.2.1 HA.out.1; have Q4 : Hid (q.l = l ∧ q.ok w4) := hid ⟨hq, kq⟩; have C4 : Hid (Below (w.heap.size + 1) W0 w4) := hid ((grown_below (CA.out.mono (Nat.le_of_eq sz.symm)) OE.out hg4 SZ.out).mono (Nat.le_succ _)); have N4 : Hid (Blk w4 (w.heap.size + 1) #[.int .i64 0, .int .i64 0, .int .i64 0, .int .i64 0, .slice none 0 0] 30) := hid ((hg4.block _ X3.out.lt (by simp [Value.ownBlock])).trans X3.out); obtain ⟨⟨n0, n1, n2, n3, n4⟩, g0, g1, g2, g3, g4⟩ := blk5 N4.out; clear hown4 hg4 hq kq))
  go_wp2
  refine bodyPost_ret (ret_ask1 Tryz.results10 _ _ (w.heap.size + 1) k g v b q.ad q.len q.cap rfl (blk_set5 N4.out _ _ _ _ _)) rfl ⟨q, rfl, hid ⟨Q4.out.1, part_setF N4.out Q4.out.2⟩, ?_⟩
  exact set5_below (HB.out.trans (C4.out.mono (Nat.le_succ _))) (Nat.le_succ _) _ _ _ _ _
end Go.Proofs.YtmiibakbcogolaaGreat.Ac
