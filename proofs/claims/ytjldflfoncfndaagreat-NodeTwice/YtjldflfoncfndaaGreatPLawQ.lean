/- sameRequest and Request of the statements of layer 5. GetRequest of the document's package of layer 5. Put and Get of requests, the program's and the document's, as functions over plain data (P502). -/
import Derived.Test.YtjldflfoncfndaaGreatPLaw
import Derived.Test.YtjldflfoncfndaaGreatPAsk
import Derived.Test.YtjldflfoncfndaaGreatPAskQ
import Derived.Test.YtjldflfoncfndaaGreatPKnow
import Derived.Test.YtjldflfoncfndaaGreatNMayNo
namespace Go.Proofs.YtjldflfoncfndaaGreat
open Go.RowKit Crcm

set_option maxRecDepth 100000 in
set_option maxHeartbeats 4000000 in
theorem sameRequest_yes (k g p : Int) (ad ad' : Option Addr) (len cap len' cap' : Nat) (l : List Nat) (w : World) (h1 : Part.ok w ⟨ad, len, cap, l⟩) (h2 : Part.ok w ⟨ad', len', cap', l⟩) :
    Calls Tryz.prog 20 #[reqV k g p ad len cap, reqV k g p ad' len' cap'] w fun x w' => x = .returned (.bool true) ∧ Below w.heap.size w w' := by
  have hb : Below w.heap.size w ((w.alloc (.cells #[.int .i64 k, .int .i64 g, .int .i64 p, .slice ad len cap] 27)).alloc (.cells #[.int .i64 k, .int .i64 g, .int .i64 p, .slice ad' len' cap'] 24)) := ((Below.refl _ w).alloc (Nat.le_refl _) _).alloc (by simp) _
  have k1 := conv_any (h1.later hb).2.2 len cap h1.1
  have k2 := conv_any (h2.later hb).2.2 len' cap' h2.1
  simp only at k1 k2
  generalize bstr l = tx at *
  have HB : Hid (Below w.heap.size w ((w.alloc (.cells #[.int .i64 k, .int .i64 g, .int .i64 p, .slice ad len cap] 27)).alloc (.cells #[.int .i64 k, .int .i64 g, .int .i64 p, .slice ad' len' cap'] 24))) := hb
  clear hb h1 h2
  unfold reqV
  go_enter Tryz.func20, Tryz.ntmps20
  go_wp2
  go_ret
  exact ⟨by simp, HB.out⟩
theorem ret_one {fn : Func} {p : Tmp} (h : fn.results = #[.cell p 27]) (tmps : Array Value) (w : World) (g : Nat) (k l q : Int) (ad : Option Addr) (len cap : Nat)
    (hp : tmps.getD p undef = .pointer (some ⟨g, 0, none⟩)) (hg : Box4 27 w g (.int .i64 k) (.int .i64 l) (.int .i64 q) (.slice ad len cap)) :
    (results fn tmps).run Tryz.prog w = .ok (reqV k l q ad len cap) w :=
  results_cell_row h tmps w g 27 _ (0, 0) _ hp hg Tryz.underlying27 rfl (by kernel_rfl)
set_option maxRecDepth 100000 in
set_option maxHeartbeats 4000000 in
theorem copyRequest (k g p : Int) (ad : Option Addr) (len cap : Nat) (l : List Nat) (w : World) (ha : Part.ok w ⟨ad, len, cap, l⟩) (hlen : len ≤ 140737488351232) :
    Calls Tryz.prog 9 #[reqV k g p ad len cap] w fun x w' => ∃ q : Part, x = .returned (reqV k g p q.ad q.len q.cap) ∧ Hid (q.l = l) ∧ Hid (q.ok w') ∧ Below w.heap.size w w' := by
  obtain ⟨W0, hW0⟩ : ∃ W0, (w.alloc (.cells #[.int .i64 k, .int .i64 g, .int .i64 p, .slice ad len cap] 24)).alloc (.cells #[.int .i64 0, .int .i64 0, .int .i64 0, .slice none 0 0] 27) = W0 := ⟨_, rfl⟩
  have sz : W0.heap.size = w.heap.size + 2 := by rw [← hW0]; simp
  have b0 : Below w.heap.size w W0 := by rw [← hW0]; exact ((Below.refl _ w).alloc (Nat.le_refl _) _).alloc (by simp) _
  have X1 : Box4 24 W0 w.heap.size (.int .i64 k) (.int .i64 g) (.int .i64 p) (.slice ad len cap) := by
    rw [← hW0]
    exact (Box4.new _ w _ _ _ _).below ((Below.refl (w.heap.size + 1) _).alloc (by simp) _) (by omega)
  have X2 : Box4 27 W0 (w.heap.size + 1) (.int .i64 0) (.int .i64 0) (.int .i64 0) (.slice none 0 0) := by
    rw [← hW0]
    have h := Box4.new 27 (w.alloc (.cells #[.int .i64 k, .int .i64 g, .int .i64 p, .slice ad len cap] 24)) (.int .i64 0) (.int .i64 0) (.int .i64 0) (.slice none 0 0)
    simpa using h
  have HS : Hid (∀ W : World, Below (w.heap.size + 1) W0 W → W.cell? ⟨w.heap.size, 0, none⟩ = some (.int .i64 k) ∧ W.cell? ⟨w.heap.size, 1, none⟩ = some (.int .i64 g) ∧ W.cell? ⟨w.heap.size, 2, none⟩ = some (.int .i64 p) ∧ W.cell? ⟨w.heap.size, 3, none⟩ = some (.slice ad len cap)) := (show Hid _ from fun W hW => (X1.below hW (by omega)).cs)
  have X3 : Hid (Box4 27 (W0.alloc (.cells #[] 5)).drew (w.heap.size + 1) (.int .i64 0) (.int .i64 0) (.int .i64 0) (.slice none 0 0)) := (show Hid _ from X2.below (((Below.refl W0.heap.size _).alloc (Nat.le_refl _) _).drew) (by omega))
  have C0 : Hid (Below (w.heap.size + 1) W0 W0.drew) := (show Hid _ from (Below.refl _ _).drew)
  have CA : Hid (Below W0.heap.size W0 (W0.alloc (.cells #[] 5)).drew) := (show Hid _ from ((Below.refl _ _).alloc (Nat.le_refl _) _).drew)
  have CB : Hid (Below (w.heap.size + 1) W0 (W0.alloc (.cells #[] 5)).drew) := (show Hid _ from CA.out.mono (by omega))
  have OE : Hid ((W0.alloc (.cells #[] 5)).drew.ownsRow (w.heap.size + 2) 5 1 (.slice (some ⟨w.heap.size + 2, 0, none⟩) 0 0) 0 (([] : List Nat).map bv)) := (show Hid _ from own_kept (oe0 (empty_own W0 (w.heap.size + 2) (by omega)) sz) (Below.refl _ _).drew)
  have HA : Hid (Part.ok (W0.alloc (.cells #[] 5)).drew ⟨ad, len, cap, l⟩) := (show Hid _ from (ha.later b0).later CA.out)
  have SZ : Hid (w.heap.size + 2 ≤ (W0.alloc (.cells #[] 5)).drew.heap.size) := (show Hid _ from Nat.le_trans (Nat.le_of_eq sz.symm) CA.out.size)
  have HB : Hid (Below w.heap.size w W0) := b0
  clear ha b0 X1 X2
  unfold reqV
  go_enter Tryz.func9, Tryz.ntmps9
  go_wp2_with fail
  go_region_held3 (fun W => W.cell? ⟨w.heap.size, 0, none⟩ = some (.int .i64 k) ∧ W.cell? ⟨w.heap.size, 1, none⟩ = some (.int .i64 g) ∧ W.cell? ⟨w.heap.size, 2, none⟩ = some (.int .i64 p) ∧ W.cell? ⟨w.heap.size, 3, none⟩ = some (.slice ad len cap))
    (first | exact HS.out _ C0.out | exact HS.out _ CB.out | exact HS.out _ C4.out | exact HS.out _ (set4_below C4.out (Nat.le_refl _) _ _ _ _))
    ((refine step_app_any (by rfl) _ _ (by rfl) (w.heap.size + 2) (.slice (some ⟨w.heap.size + 2, 0, none⟩) 0 0) 0 [] (by rfl) OE.out ad len cap l (by rfl) HA.out.1 HA.out.2.1 HA.out.2.2 (by omega) SZ.out ?_; intro v4 w4 hown4 hg4; obtain ⟨q, rfl, hq, kq⟩ := own_part (L := l) (n := len) (by simpa using hown4) HA.out.2.2.1 HA.out.1; have Q4 : Hid (q.l = l) := hq; have K4 : Hid (q.ok w4) := kq; have C4 : Hid (Below (w.heap.size + 1) W0 w4) := (show Hid _ from (grown_below (CA.out.mono (Nat.le_of_eq sz.symm)) OE.out hg4 SZ.out).mono (Nat.le_succ _)); have N4 : Hid (Box4 27 w4 (w.heap.size + 1) _ _ _ _) := (show Hid _ from X3.out.grown hg4 (by simp [Value.ownBlock])); obtain ⟨n0, n1, n2, n3⟩ := N4.out.cs; have g0 := N4.out.free 0; have g1 := N4.out.free 1; have g2 := N4.out.free 2; have g3 := N4.out.free 3; clear hown4 hg4 hq kq))
  go_wp2
  refine bodyPost_ret (ret_one Tryz.results9 _ _ (w.heap.size + 1) k g p q.ad q.len q.cap rfl (N4.out.set4 _ _ _ _)) rfl ⟨q, rfl, Q4, (show Hid _ from part_setD K4.out (part_ne K4.out N4.out (fun x hx n => by simp at hx; rcases hx with rfl | rfl <;> simp))), ?_⟩
  exact set4_below (HB.out.trans (C4.out.mono (Nat.le_succ _))) (Nat.le_succ _) _ _ _ _
end Go.Proofs.YtjldflfoncfndaaGreat
namespace Go.Proofs.YtjldflfoncfndaaGreat
open Go.RowKit Crcm

theorem refret_request {fn : Func} {p u : Tmp} (h : fn.results = #[.cell p 24, .tmp u]) (tmps : Array Value) (w : World) (g : Nat) (k l q : Int) (ad : Option Addr) (len cap : Nat)
    (hp : tmps.getD p undef = .pointer (some ⟨g, 0, none⟩)) (hg : Box4 24 w g (.int .i64 k) (.int .i64 l) (.int .i64 q) (.slice ad len cap)) :
    (results fn tmps).run Tryz.prog w = .ok (.tuple #[reqV k l q ad len cap, tmps.getD u undef]) w := by
  rw [results_cell_tmp h, hp]
  have hl := run_loadVar_row (P := Tryz.prog) w g 24 24 _ (0, 0) _ hg Tryz.underlying24 rfl (by kernel_rfl)
  simp only [asAddr, Sem.run_pure, Result.andThen_ok]
  rw [hl]
  rfl
theorem box_noQ (e t s : Int) (ad : Option Addr) (len cap : Nat) : ∀ x ∈ [Value.int .i64 e, .int .i64 t, .int .i64 s, .slice ad len cap], ∀ n, x ≠ Value.int .u8 n := by
  intro x hx n
  simp at hx
  rcases hx with rfl | rfl | rfl | rfl <;> simp
theorem reqK_le {b : List Nat} (h : ∀ x ∈ b, x < 256) : reqK b ≤ 255 := by
  have h1 := valN_lt (b.take 1) (fun x hx => h x (List.mem_of_mem_take hx))
  have h2 : (b.take 1).length ≤ 1 := by simp; omega
  unfold reqK
  have h3 : 2 ^ (8 * (b.take 1).length) ≤ 2 ^ 8 := Nat.pow_le_pow_right (by omega) (by omega)
  omega
set_option maxRecDepth 100000 in
set_option maxHeartbeats 4000000 in
theorem refGetRequest_no1 (ad : Option Addr) (len cap : Nat) (l : List Nat) (w : World) (hp : Part.ok w ⟨ad, len, cap, l⟩) (hlc : len ≤ cap) (hm : len ≤ 1000000000000000) (h : unpackN l 1 9 = false) :
    Calls Tryz.prog 16 #[.slice ad len cap] w fun e w' => e = .returned (.tuple #[reqV 0 0 0 none 0 0, .int .i64 22]) ∧ Below w.heap.size w w' := by
  have HB : Hid (Below w.heap.size w (w.alloc (.cells #[.int .i64 0, .int .i64 0, .int .i64 0, .slice none 0 0] 24))) := (show Hid _ from (Below.refl _ w).alloc (Nat.le_refl _) _)
  have Q := framed_no (z := 1) (c := 9) ad len cap l 1 9 (w.alloc (.cells #[.int .i64 0, .int .i64 0, .int .i64 0, .slice none 0 0] 24)) rfl rfl (hp.later HB.out) hlc hm h
  clear hp h hm hlc
  go_enter Tryz.func16, Tryz.ntmps16
  go_wp2_with (go_at_call 45; refine Q.mono ?_; rintro x W1 ⟨p, rfl, hb1⟩; have X : Hid (Box4 24 W1 w.heap.size _ _ _ _) := (show Hid _ from (Box4.new _ w _ _ _ _).below hb1 (by simp)); obtain ⟨c0, c1, c2, c3⟩ := X.out.cs; have f0 := X.out.free 0; have f1 := X.out.free 1; have f2 := X.out.free 2; have f3 := X.out.free 3; have hb2 : Hid (Below w.heap.size w W1) := (show Hid _ from HB.out.trans (hb1.mono HB.out.size)); clear hb1)
  refine bodyPost_ret (refret_request Tryz.results16 _ _ w.heap.size 0 0 0 none 0 0 rfl (X.out.set4 _ _ _ _)) rfl ⟨rfl, ?_⟩
  exact set4_below hb2.out (Nat.le_refl _) _ _ _ _
set_option maxRecDepth 100000 in
set_option maxHeartbeats 8000000 in
theorem refGetRequest_frame (ad : Option Addr) (len cap : Nat) (l : List Nat) (w : World) (hp : Part.ok w ⟨ad, len, cap, l⟩) (hlc : len ≤ cap) (hm : len ≤ 1000000000000000) (h : unpackN l 1 9 = true) :
    Calls Tryz.prog 16 #[.slice ad len cap] w fun e w' => ((reqIn (bodyAt l 0) = false ∧ e = .returned (.tuple #[reqV 0 0 0 none 0 0, .int .i64 22])) ∨ (reqIn (bodyAt l 0) = true ∧ ∃ q : Part, e = .returned (.tuple #[reqV (reqK (bodyAt l 0) : Nat) (reqL (bodyAt l 0) : Nat) (reqP (bodyAt l 0) : Nat) q.ad q.len q.cap, .int .i64 0]) ∧ q.l = (bodyAt l 0).drop 9 ∧ q.ok w')) ∧ Below w.heap.size w w' := by
  have HB : Hid (Below w.heap.size w (w.alloc (.cells #[.int .i64 0, .int .i64 0, .int .i64 0, .slice none 0 0] 24))) := (show Hid _ from (Below.refl _ w).alloc (Nat.le_refl _) _)
  have Q := framed_at (z := 1) (c := 9) ad len cap l 1 9 (w.alloc (.cells #[.int .i64 0, .int .i64 0, .int .i64 0, .slice none 0 0] 24)) rfl rfl (hp.later HB.out) hlc hm h (by omega)
  clear hp h hm hlc
  obtain ⟨k0, hk0⟩ : ∃ s, s = reqK (bodyAt l 0) := ⟨_, rfl⟩
  obtain ⟨l0, hl0⟩ : ∃ s, s = reqL (bodyAt l 0) := ⟨_, rfl⟩
  obtain ⟨p0, hp0⟩ : ∃ s, s = reqP (bodyAt l 0) := ⟨_, rfl⟩
  have EK : Hid (k0 = reqK (bodyAt l 0)) := hk0
  have EL : Hid (l0 = reqL (bodyAt l 0)) := hl0
  have EP : Hid (p0 = reqP (bodyAt l 0)) := hp0
  have el : valN (((bodyAt l 0).drop 1).take 6) = l0 := by rw [hl0]; unfold reqL; rw [List.drop_one]
  have ep : valN (((bodyAt l 0).drop 7).take 2) = p0 := by rw [hp0]; rfl
  have ELP : Hid (valN (((bodyAt l 0).drop 1).take 6) = l0 ∧ valN (((bodyAt l 0).drop 7).take 2) = p0) := (show Hid _ from ⟨el, ep⟩)
  have HASK : Hid (∀ (ad : Option Addr) (n cap : Nat) (W : World) {b : Bool}, n = (bodyAt l 0).length - 9 → reqIn (bodyAt l 0) = b → Calls Tryz.prog 38 #[.agg #[.int .i64 (k0 : Int), .int .i64 (l0 : Int), .int .i64 (p0 : Int), .slice ad n cap]] W fun x w' => x = .returned (.bool b) ∧ Below W.heap.size W w') := (show Hid _ from fun ad n cap W b hn hb => by
    have q := asks_any (k0 : Int) (l0 : Int) (p0 : Int) ad n cap W
    rw [hn, hk0, hl0, hp0] at q
    unfold reqIn at hb
    rw [hb] at q
    rw [hn, hk0, hl0, hp0]
    exact q)
  clear hk0 hl0 hp0 el ep
  go_enter Tryz.func16, Tryz.ntmps16
  go_upto_region 4 with (go_at_call 45; refine Q.mono ?_; rintro x V ⟨g, n, c, rfl, hn, hn4, hn6, hnc, hcm, hg, k1, hb1⟩; have HC : Hid (c ≤ maxLen ∧ w.heap.size < g ∧ n = (bodyAt l 0).length ∧ g < V.heap.size) := (show Hid _ from ⟨hcm, Nat.lt_of_lt_of_le (by simp) hg, hn, body_lt k1 (by omega)⟩); have H8 : Hid (∀ x ∈ bodyAt l 0, x < 256) := (show Hid _ from k1.2.2.1); have X0 : Hid (Box4 24 V w.heap.size _ _ _ _) := (show Hid _ from (Box4.new _ w _ _ _ _).below hb1 (by simp)); have K0 : Hid (Part.ok V ⟨some ⟨g, 0, none⟩, n, c, bodyAt l 0⟩) := k1; have B0 : Hid (Below w.heap.size w V) := (show Hid _ from HB.out.trans (hb1.mono HB.out.size)); have Z0 : Hid (w.heap.size < V.heap.size) := (show Hid _ from Nat.lt_of_lt_of_le (by simp) hb1.size); have x0 := body_cell k1 0 (by omega); rw [← val_at _ 0 (by omega)] at x0; rw [show valN (((bodyAt l 0).drop 0).take 1) = k0 from EK.out.symm] at x0; clear hb1 k1 Q hcm hg hn)
  have hk8 : k0 ≤ 255 := by rw [EK.out]; exact reqK_le H8.out
  have B1 : Hid (Below V.heap.size V (V.alloc (.cells #[.int .i64 (k0 : Int), .int .i64 0, .int .i64 0, .slice none 0 0] 24))) := (show Hid _ from (Below.refl _ _).alloc (Nat.le_refl _) _)
  have B2 : Hid (Below V.heap.size V (V.alloc (.cells #[.int .i64 (k0 : Int), .int .i64 (l0 : Int), .int .i64 0, .slice none 0 0] 24))) := (show Hid _ from (Below.refl _ _).alloc (Nat.le_refl _) _)
  have B3 : Hid (Below V.heap.size V (V.alloc (.cells #[.int .i64 (k0 : Int), .int .i64 (l0 : Int), .int .i64 (p0 : Int), .slice none 0 0] 24))) := (show Hid _ from (Below.refl _ _).alloc (Nat.le_refl _) _)
  have N3 : Hid (Box4 24 (V.alloc (.cells #[.int .i64 (k0 : Int), .int .i64 (l0 : Int), .int .i64 (p0 : Int), .slice none 0 0] 24)) V.heap.size (.int .i64 (k0 : Int)) (.int .i64 (l0 : Int)) (.int .i64 (p0 : Int)) (.slice none 0 0)) := (show Hid _ from Box4.new _ _ _ _ _ _)
  have s3 : (V.alloc (.cells #[.int .i64 (k0 : Int), .int .i64 (l0 : Int), .int .i64 (p0 : Int), .slice none 0 0] 24)).heap.size = V.heap.size + 1 := by simp
  have N3e : Hid (Box4 24 ((V.alloc (.cells #[.int .i64 (k0 : Int), .int .i64 (l0 : Int), .int .i64 (p0 : Int), .slice none 0 0] 24)).alloc (.cells #[] 5)) V.heap.size (.int .i64 (k0 : Int)) (.int .i64 (l0 : Int)) (.int .i64 (p0 : Int)) (.slice none 0 0)) := (show Hid _ from N3.out.below ((Below.refl (V.alloc (.cells #[.int .i64 (k0 : Int), .int .i64 (l0 : Int), .int .i64 (p0 : Int), .slice none 0 0] 24)).heap.size _).alloc (Nat.le_refl _) _) (by omega))
  have BW : Hid (Below V.heap.size V ((V.alloc (.cells #[.int .i64 (k0 : Int), .int .i64 (l0 : Int), .int .i64 (p0 : Int), .slice none 0 0] 24)).alloc (.cells #[] 5))) := (show Hid _ from B3.out.alloc B3.out.size _)
  have SZ : Hid (V.heap.size ≤ ((V.alloc (.cells #[.int .i64 (k0 : Int), .int .i64 (l0 : Int), .int .i64 (p0 : Int), .slice none 0 0] 24)).alloc (.cells #[] 5)).heap.size) := (show Hid _ from BW.out.size)
  have OE : Hid (((V.alloc (.cells #[.int .i64 (k0 : Int), .int .i64 (l0 : Int), .int .i64 (p0 : Int), .slice none 0 0] 24)).alloc (.cells #[] 5)).ownsRow V.heap.size 5 1 (.slice (some ⟨V.heap.size + 1, 0, none⟩) 0 0) 0 (([] : List Nat).map bv)) := (show Hid _ from oe0 (empty_own (V.alloc (.cells #[.int .i64 (k0 : Int), .int .i64 (l0 : Int), .int .i64 (p0 : Int), .slice none 0 0] 24)) V.heap.size (by omega)) s3)
  have LT : Hid (∀ x ∈ (bodyAt l 0).drop 9, x < 256) := (show Hid _ from fun x hx => H8.out x (List.mem_of_mem_drop hx))
  have HG1 := refGet_ok (some ⟨g, 0, none⟩) n c (bodyAt l 0) 1 6 (V.alloc (.cells #[.int .i64 (k0 : Int), .int .i64 0, .int .i64 0, .slice none 0 0] 24)) (K0.out.later B1.out) (by omega) (by omega) (by omega) (by omega)
  have HG2 := refGet_ok (some ⟨g, 0, none⟩) n c (bodyAt l 0) 7 2 (V.alloc (.cells #[.int .i64 (k0 : Int), .int .i64 (l0 : Int), .int .i64 0, .slice none 0 0] 24)) (K0.out.later B2.out) (by omega) (by omega) (by omega) (by omega)
  rw [ELP.out.1] at HG1
  rw [ELP.out.2] at HG2
  have i1 : (9 : Int) ≤ (n : Int) := by omega
  have i2 : (0 : Int) < (n : Int) := by omega
  have i5 : 0 < n := by omega
  have i4 : (n : Int) ≤ (c : Int) := by omega
  by_cases hc4 : c = 9
  · have en4 : n = 9 := by omega
    subst hc4 en4
    have LL : Hid (((bodyAt l 0).drop 9).length = 0) := (show Hid _ from (by show _ = _; rw [List.length_drop, ← HC.out.2.2.1]))
    have RR : Hid (Row ((V.alloc (.cells #[.int .i64 (k0 : Int), .int .i64 (l0 : Int), .int .i64 (p0 : Int), .slice none 0 0] 24)).alloc (.cells #[] 5)) (some ⟨g, 0, none⟩) ((bodyAt l 0).drop 9)) := (show Hid _ from ⟨LT.out, Or.inl (List.eq_nil_of_length_eq_zero LL.out)⟩)
    cases hin : reqIn (bodyAt l 0) with
    | false =>
      have HIN : Hid (reqIn (bodyAt l 0) = false) := hin
      clear hin
      go_wp2_with (first
        | (go_at_call 46; (with_reducible_and_instances (refine HG1.mono ?_)); rintro x w' ⟨rfl, hw'⟩; obtain rfl := hw'.symm)
        | (go_at_call 46; (with_reducible_and_instances (refine HG2.mono ?_)); rintro x w' ⟨rfl, hw'⟩; obtain rfl := hw'.symm)
        | (at_builtin; refine app_any rfl _ _ rfl V.heap.size (.slice (some ⟨V.heap.size + 1, 0, none⟩) 0 0) 0 [] rfl OE.out (some ⟨g, 0, none⟩) 0 _ ((bodyAt l 0).drop 9) rfl LL.out (fun e => by cases e) RR.out (by omega) SZ.out ?_; intro v4 w4 hown4 hg4; obtain ⟨q, rfl, hq, kq⟩ := own_part (L := (bodyAt l 0).drop 9) (by simpa using hown4) LT.out LL.out; have B4 : Hid (Below V.heap.size V w4) := (show Hid _ from grown_below BW.out OE.out hg4 SZ.out); have N4 : Hid (Box4 24 w4 V.heap.size (.int .i64 (k0 : Int)) (.int .i64 (l0 : Int)) (.int .i64 (p0 : Int)) (.slice none 0 0)) := (show Hid _ from N3e.out.grown hg4 (by simp [Value.ownBlock])); obtain ⟨V5, hV5⟩ : ∃ V5, w4.setCell ⟨V.heap.size, 3, none⟩ (.slice q.ad q.len q.cap) = V5 := ⟨_, rfl⟩; have N5 : Hid (Box4 24 V5 V.heap.size (.int .i64 (k0 : Int)) (.int .i64 (l0 : Int)) (.int .i64 (p0 : Int)) (.slice q.ad q.len q.cap)) := (show Hid _ from (by rw [← hV5]; exact block_set4 N4.out _)); have B5 : Hid (Below V.heap.size V V5) := (show Hid _ from (by rw [← hV5]; exact B4.out.setCell (p := ⟨V.heap.size, 3, none⟩) (Nat.le_refl _) _)); have P5 : Hid (q.ok V5) := (show Hid _ from (by rw [← hV5]; exact part_setC kq (part_ne kq N4.out (box_noQ _ _ _ _ _ _)))); have QI : Hid (q.l = (bodyAt l 0).drop 9) := hq; have QL : Hid (q.len = (bodyAt l 0).length - 9) := (show Hid _ from (by show _ = _; rw [← kq.1, hq, List.length_drop])); have n43 := N4.out.cs.2.2.2; have g43 := N4.out.free 3; obtain ⟨m0, m1, m2, m3⟩ := N5.out.cs; have HM := HASK.out q.ad q.len q.cap V5 QL.out HIN.out; clear hown4 hg4 kq hq HG1 HG2)
        | (go_at_call 38; (with_reducible_and_instances (refine HM.mono ?_)); rintro x W6 ⟨rfl, b6⟩; have A6 : Hid (Box4 24 W6 w.heap.size _ _ _ _) := (show Hid _ from (X0.out.below B5.out Z0.out).below b6 (Nat.lt_of_lt_of_le Z0.out B5.out.size)); obtain ⟨c0, c1, c2, c3⟩ := A6.out.cs; have f0 := A6.out.free 0; have f1 := A6.out.free 1; have f2 := A6.out.free 2; have f3 := A6.out.free 3; have D6 : Hid (Below w.heap.size w W6) := (show Hid _ from (B0.out.trans (B5.out.mono B0.out.size)).trans (b6.mono (B0.out.trans (B5.out.mono B0.out.size)).size)); have E6 : Hid (Box4 24 W6 V.heap.size _ _ _ _) := (show Hid _ from N5.out.below b6 N5.out.lt); obtain ⟨r0, r1, r2, r3⟩ := E6.out.cs; have P6 : Hid (q.ok W6) := (show Hid _ from P5.out.later b6); clear b6 HM))
      refine bodyPost_ret (refret_request Tryz.results16 _ _ w.heap.size 0 0 0 none 0 0 rfl (A6.out.set4 _ _ _ _)) rfl ⟨Or.inl ⟨HIN.out, rfl⟩, ?_⟩
      exact set4_below D6.out (Nat.le_refl _) _ _ _ _
    | true =>
      have HIN : Hid (reqIn (bodyAt l 0) = true) := hin
      clear hin
      go_wp2_with (first
        | (go_at_call 46; (with_reducible_and_instances (refine HG1.mono ?_)); rintro x w' ⟨rfl, hw'⟩; obtain rfl := hw'.symm)
        | (go_at_call 46; (with_reducible_and_instances (refine HG2.mono ?_)); rintro x w' ⟨rfl, hw'⟩; obtain rfl := hw'.symm)
        | (at_builtin; refine app_any rfl _ _ rfl V.heap.size (.slice (some ⟨V.heap.size + 1, 0, none⟩) 0 0) 0 [] rfl OE.out (some ⟨g, 0, none⟩) 0 _ ((bodyAt l 0).drop 9) rfl LL.out (fun e => by cases e) RR.out (by omega) SZ.out ?_; intro v4 w4 hown4 hg4; obtain ⟨q, rfl, hq, kq⟩ := own_part (L := (bodyAt l 0).drop 9) (by simpa using hown4) LT.out LL.out; have B4 : Hid (Below V.heap.size V w4) := (show Hid _ from grown_below BW.out OE.out hg4 SZ.out); have N4 : Hid (Box4 24 w4 V.heap.size (.int .i64 (k0 : Int)) (.int .i64 (l0 : Int)) (.int .i64 (p0 : Int)) (.slice none 0 0)) := (show Hid _ from N3e.out.grown hg4 (by simp [Value.ownBlock])); obtain ⟨V5, hV5⟩ : ∃ V5, w4.setCell ⟨V.heap.size, 3, none⟩ (.slice q.ad q.len q.cap) = V5 := ⟨_, rfl⟩; have N5 : Hid (Box4 24 V5 V.heap.size (.int .i64 (k0 : Int)) (.int .i64 (l0 : Int)) (.int .i64 (p0 : Int)) (.slice q.ad q.len q.cap)) := (show Hid _ from (by rw [← hV5]; exact block_set4 N4.out _)); have B5 : Hid (Below V.heap.size V V5) := (show Hid _ from (by rw [← hV5]; exact B4.out.setCell (p := ⟨V.heap.size, 3, none⟩) (Nat.le_refl _) _)); have P5 : Hid (q.ok V5) := (show Hid _ from (by rw [← hV5]; exact part_setC kq (part_ne kq N4.out (box_noQ _ _ _ _ _ _)))); have QI : Hid (q.l = (bodyAt l 0).drop 9) := hq; have QL : Hid (q.len = (bodyAt l 0).length - 9) := (show Hid _ from (by show _ = _; rw [← kq.1, hq, List.length_drop])); have n43 := N4.out.cs.2.2.2; have g43 := N4.out.free 3; obtain ⟨m0, m1, m2, m3⟩ := N5.out.cs; have HM := HASK.out q.ad q.len q.cap V5 QL.out HIN.out; clear hown4 hg4 kq hq HG1 HG2)
        | (go_at_call 38; (with_reducible_and_instances (refine HM.mono ?_)); rintro x W6 ⟨rfl, b6⟩; have A6 : Hid (Box4 24 W6 w.heap.size _ _ _ _) := (show Hid _ from (X0.out.below B5.out Z0.out).below b6 (Nat.lt_of_lt_of_le Z0.out B5.out.size)); obtain ⟨c0, c1, c2, c3⟩ := A6.out.cs; have f0 := A6.out.free 0; have f1 := A6.out.free 1; have f2 := A6.out.free 2; have f3 := A6.out.free 3; have D6 : Hid (Below w.heap.size w W6) := (show Hid _ from (B0.out.trans (B5.out.mono B0.out.size)).trans (b6.mono (B0.out.trans (B5.out.mono B0.out.size)).size)); have E6 : Hid (Box4 24 W6 V.heap.size _ _ _ _) := (show Hid _ from N5.out.below b6 N5.out.lt); obtain ⟨r0, r1, r2, r3⟩ := E6.out.cs; have P6 : Hid (q.ok W6) := (show Hid _ from P5.out.later b6); clear b6 HM))
      refine bodyPost_ret (refret_request Tryz.results16 _ _ w.heap.size _ _ _ _ _ _ rfl (A6.out.set4 _ _ _ _)) rfl ⟨Or.inr ⟨HIN.out, q, by rw [← EK.out, ← EL.out, ← EP.out]; rfl, QI.out, part_setD P6.out (part_ne P6.out A6.out (box_noQ _ _ _ _ _ _))⟩, ?_⟩
      exact set4_below D6.out (Nat.le_refl _) _ _ _ _
  · have LL : Hid (((bodyAt l 0).drop 9).length = n - 9) := (show Hid _ from (by show _ = _; rw [List.length_drop, ← HC.out.2.2.1]))
    have RR : Hid (Row ((V.alloc (.cells #[.int .i64 (k0 : Int), .int .i64 (l0 : Int), .int .i64 (p0 : Int), .slice none 0 0] 24)).alloc (.cells #[] 5)) (some ⟨g, 9, none⟩) ((bodyAt l 0).drop 9)) := (show Hid _ from (part_rest 9 (K0.out.later BW.out) hn4 9 (fun _ => rfl)).2.2)
    cases hin : reqIn (bodyAt l 0) with
    | false =>
      have HIN : Hid (reqIn (bodyAt l 0) = false) := hin
      clear hin
      go_wp2_with (first
        | (go_at_call 46; (with_reducible_and_instances (refine HG1.mono ?_)); rintro x w' ⟨rfl, hw'⟩; obtain rfl := hw'.symm)
        | (go_at_call 46; (with_reducible_and_instances (refine HG2.mono ?_)); rintro x w' ⟨rfl, hw'⟩; obtain rfl := hw'.symm)
        | (at_builtin; refine app_any rfl _ _ rfl V.heap.size (.slice (some ⟨V.heap.size + 1, 0, none⟩) 0 0) 0 [] rfl OE.out (some ⟨g, 9, none⟩) (n - 9) _ ((bodyAt l 0).drop 9) rfl LL.out (fun e => by cases e) RR.out (by omega) SZ.out ?_; intro v4 w4 hown4 hg4; obtain ⟨q, rfl, hq, kq⟩ := own_part (L := (bodyAt l 0).drop 9) (by simpa using hown4) LT.out LL.out; have B4 : Hid (Below V.heap.size V w4) := (show Hid _ from grown_below BW.out OE.out hg4 SZ.out); have N4 : Hid (Box4 24 w4 V.heap.size (.int .i64 (k0 : Int)) (.int .i64 (l0 : Int)) (.int .i64 (p0 : Int)) (.slice none 0 0)) := (show Hid _ from N3e.out.grown hg4 (by simp [Value.ownBlock])); obtain ⟨V5, hV5⟩ : ∃ V5, w4.setCell ⟨V.heap.size, 3, none⟩ (.slice q.ad q.len q.cap) = V5 := ⟨_, rfl⟩; have N5 : Hid (Box4 24 V5 V.heap.size (.int .i64 (k0 : Int)) (.int .i64 (l0 : Int)) (.int .i64 (p0 : Int)) (.slice q.ad q.len q.cap)) := (show Hid _ from (by rw [← hV5]; exact block_set4 N4.out _)); have B5 : Hid (Below V.heap.size V V5) := (show Hid _ from (by rw [← hV5]; exact B4.out.setCell (p := ⟨V.heap.size, 3, none⟩) (Nat.le_refl _) _)); have P5 : Hid (q.ok V5) := (show Hid _ from (by rw [← hV5]; exact part_setC kq (part_ne kq N4.out (box_noQ _ _ _ _ _ _)))); have QI : Hid (q.l = (bodyAt l 0).drop 9) := hq; have QL : Hid (q.len = (bodyAt l 0).length - 9) := (show Hid _ from (by show _ = _; rw [← kq.1, hq, List.length_drop])); have n43 := N4.out.cs.2.2.2; have g43 := N4.out.free 3; obtain ⟨m0, m1, m2, m3⟩ := N5.out.cs; have HM := HASK.out q.ad q.len q.cap V5 QL.out HIN.out; clear hown4 hg4 kq hq HG1 HG2)
        | (go_at_call 38; (with_reducible_and_instances (refine HM.mono ?_)); rintro x W6 ⟨rfl, b6⟩; have A6 : Hid (Box4 24 W6 w.heap.size _ _ _ _) := (show Hid _ from (X0.out.below B5.out Z0.out).below b6 (Nat.lt_of_lt_of_le Z0.out B5.out.size)); obtain ⟨c0, c1, c2, c3⟩ := A6.out.cs; have f0 := A6.out.free 0; have f1 := A6.out.free 1; have f2 := A6.out.free 2; have f3 := A6.out.free 3; have D6 : Hid (Below w.heap.size w W6) := (show Hid _ from (B0.out.trans (B5.out.mono B0.out.size)).trans (b6.mono (B0.out.trans (B5.out.mono B0.out.size)).size)); have E6 : Hid (Box4 24 W6 V.heap.size _ _ _ _) := (show Hid _ from N5.out.below b6 N5.out.lt); obtain ⟨r0, r1, r2, r3⟩ := E6.out.cs; have P6 : Hid (q.ok W6) := (show Hid _ from P5.out.later b6); clear b6 HM))
      refine bodyPost_ret (refret_request Tryz.results16 _ _ w.heap.size 0 0 0 none 0 0 rfl (A6.out.set4 _ _ _ _)) rfl ⟨Or.inl ⟨HIN.out, rfl⟩, ?_⟩
      exact set4_below D6.out (Nat.le_refl _) _ _ _ _
    | true =>
      have HIN : Hid (reqIn (bodyAt l 0) = true) := hin
      clear hin
      go_wp2_with (first
        | (go_at_call 46; (with_reducible_and_instances (refine HG1.mono ?_)); rintro x w' ⟨rfl, hw'⟩; obtain rfl := hw'.symm)
        | (go_at_call 46; (with_reducible_and_instances (refine HG2.mono ?_)); rintro x w' ⟨rfl, hw'⟩; obtain rfl := hw'.symm)
        | (at_builtin; refine app_any rfl _ _ rfl V.heap.size (.slice (some ⟨V.heap.size + 1, 0, none⟩) 0 0) 0 [] rfl OE.out (some ⟨g, 9, none⟩) (n - 9) _ ((bodyAt l 0).drop 9) rfl LL.out (fun e => by cases e) RR.out (by omega) SZ.out ?_; intro v4 w4 hown4 hg4; obtain ⟨q, rfl, hq, kq⟩ := own_part (L := (bodyAt l 0).drop 9) (by simpa using hown4) LT.out LL.out; have B4 : Hid (Below V.heap.size V w4) := (show Hid _ from grown_below BW.out OE.out hg4 SZ.out); have N4 : Hid (Box4 24 w4 V.heap.size (.int .i64 (k0 : Int)) (.int .i64 (l0 : Int)) (.int .i64 (p0 : Int)) (.slice none 0 0)) := (show Hid _ from N3e.out.grown hg4 (by simp [Value.ownBlock])); obtain ⟨V5, hV5⟩ : ∃ V5, w4.setCell ⟨V.heap.size, 3, none⟩ (.slice q.ad q.len q.cap) = V5 := ⟨_, rfl⟩; have N5 : Hid (Box4 24 V5 V.heap.size (.int .i64 (k0 : Int)) (.int .i64 (l0 : Int)) (.int .i64 (p0 : Int)) (.slice q.ad q.len q.cap)) := (show Hid _ from (by rw [← hV5]; exact block_set4 N4.out _)); have B5 : Hid (Below V.heap.size V V5) := (show Hid _ from (by rw [← hV5]; exact B4.out.setCell (p := ⟨V.heap.size, 3, none⟩) (Nat.le_refl _) _)); have P5 : Hid (q.ok V5) := (show Hid _ from (by rw [← hV5]; exact part_setC kq (part_ne kq N4.out (box_noQ _ _ _ _ _ _)))); have QI : Hid (q.l = (bodyAt l 0).drop 9) := hq; have QL : Hid (q.len = (bodyAt l 0).length - 9) := (show Hid _ from (by show _ = _; rw [← kq.1, hq, List.length_drop])); have n43 := N4.out.cs.2.2.2; have g43 := N4.out.free 3; obtain ⟨m0, m1, m2, m3⟩ := N5.out.cs; have HM := HASK.out q.ad q.len q.cap V5 QL.out HIN.out; clear hown4 hg4 kq hq HG1 HG2)
        | (go_at_call 38; (with_reducible_and_instances (refine HM.mono ?_)); rintro x W6 ⟨rfl, b6⟩; have A6 : Hid (Box4 24 W6 w.heap.size _ _ _ _) := (show Hid _ from (X0.out.below B5.out Z0.out).below b6 (Nat.lt_of_lt_of_le Z0.out B5.out.size)); obtain ⟨c0, c1, c2, c3⟩ := A6.out.cs; have f0 := A6.out.free 0; have f1 := A6.out.free 1; have f2 := A6.out.free 2; have f3 := A6.out.free 3; have D6 : Hid (Below w.heap.size w W6) := (show Hid _ from (B0.out.trans (B5.out.mono B0.out.size)).trans (b6.mono (B0.out.trans (B5.out.mono B0.out.size)).size)); have E6 : Hid (Box4 24 W6 V.heap.size _ _ _ _) := (show Hid _ from N5.out.below b6 N5.out.lt); obtain ⟨r0, r1, r2, r3⟩ := E6.out.cs; have P6 : Hid (q.ok W6) := (show Hid _ from P5.out.later b6); clear b6 HM))
      refine bodyPost_ret (refret_request Tryz.results16 _ _ w.heap.size _ _ _ _ _ _ rfl (A6.out.set4 _ _ _ _)) rfl ⟨Or.inr ⟨HIN.out, q, by rw [← EK.out, ← EL.out, ← EP.out]; rfl, QI.out, part_setD P6.out (part_ne P6.out A6.out (box_noQ _ _ _ _ _ _))⟩, ?_⟩
      exact set4_below D6.out (Nat.le_refl _) _ _ _ _
end Go.Proofs.YtjldflfoncfndaaGreat
namespace Go.Proofs.YtjldflfoncfndaaGreat
open Go.RowKit Crcm

/-- P502. -/
def putReqN (k g p : Int) (l : List Nat) : Int × List Nat := if reqMay k g p l.length = true then (0, frameBs 1 (requestN k.toNat g.toNat p.toNat l)) else (1, [])
structure ReqN where
  e : Int
  k : Int
  g : Int
  p : Int
  d : List Nat
def getReqN (l : List Nat) : ReqN := if unpackN l 1 9 = true ∧ reqIn (bodyAt l 0) = true then ⟨0, (reqK (bodyAt l 0) : Nat), (reqL (bodyAt l 0) : Nat), (reqP (bodyAt l 0) : Nat), (bodyAt l 0).drop 9⟩ else ⟨22, 0, 0, 0, []⟩
theorem reqMay_nat {k g p : Int} {n : Nat} (h : reqMay k g p n = true) : ∃ a b c : Nat, k = a ∧ g = b ∧ p = c := by
  simp only [reqMay, Bool.and_eq_true, decide_eq_true_eq] at h
  exact ⟨k.toNat, g.toNat, p.toNat, by omega, by omega, by omega⟩
set_option maxRecDepth 100000 in
set_option maxHeartbeats 4000000 in
theorem putRequest_no (k g p : Int) (ad : Option Addr) (len cap : Nat) (w : World) (hmay : reqMay k g p len = false) :
    Calls Tryz.prog 10 #[reqV k g p ad len cap] w fun x w' => x = .returned (.tuple #[.slice none 0 0, .int .i64 1]) ∧ Below w.heap.size w w' := by
  have HM := qmay_any k g p ad len cap (w.alloc (.cells #[.int .i64 k, .int .i64 g, .int .i64 p, .slice ad len cap] 27))
  rw [hmay] at HM
  have HB : Hid (Below w.heap.size w (w.alloc (.cells #[.int .i64 k, .int .i64 g, .int .i64 p, .slice ad len cap] 27))) := (show Hid _ from (Below.refl _ w).alloc (Nat.le_refl _) _)
  clear hmay
  unfold reqV at HM ⊢
  go_enter Tryz.func10, Tryz.ntmps10
  go_wp2_with (go_at_call 34; refine HM.mono ?_; rintro x W1 ⟨rfl, hb1⟩)
  go_ret2
  exact ⟨rfl, HB.out.trans (hb1.mono HB.out.size)⟩
theorem putRequest_any (k g p : Int) (ad : Option Addr) (len cap : Nat) (l : List Nat) (w : World) (ha : Part.ok w ⟨ad, len, cap, l⟩) : Calls Tryz.prog 10 #[reqV k g p ad len cap] w (PPost (putReqN k g p l) w) := by
  have hl : l.length = len := ha.1
  unfold putReqN
  cases hm : reqMay k g p l.length with
  | true =>
    rw [if_pos rfl]
    rw [hl] at hm
    obtain ⟨a, b, c, rfl, rfl, rfl⟩ := reqMay_nat hm
    refine (putRequest_ok a b c ad len cap l w hm ha).mono ?_
    rintro x w' ⟨q, rfl, e1, k1, o1, b1⟩
    exact ⟨q, rfl, (show Hid _ from ⟨e1.out, k1.out, own_lc o1.out⟩), b1⟩
  | false =>
    rw [if_neg (by simp)]
    rw [hl] at hm
    refine (putRequest_no k g p ad len cap w hm).mono ?_
    rintro x w' ⟨rfl, b1⟩
    exact ⟨⟨none, 0, 0, []⟩, rfl, (show Hid _ from ⟨rfl, nil_ok _, Nat.le_refl _⟩), b1⟩
theorem refPutRequest_any (k g p : Int) (ad : Option Addr) (len cap : Nat) (l : List Nat) (w : World) (ha : Part.ok w ⟨ad, len, cap, l⟩) : Calls Tryz.prog 11 #[reqV k g p ad len cap] w (QPost (putReqN k g p l) w) := by
  have hl : l.length = len := ha.1
  unfold putReqN
  cases hm : reqMay k g p l.length with
  | true =>
    rw [if_pos rfl]
    rw [hl] at hm
    obtain ⟨a, b, c, rfl, rfl, rfl⟩ := reqMay_nat hm
    refine (refPutRequest_ok a b c ad len cap l w hm ha).mono ?_
    rintro x w' ⟨q, rfl, e1, k1, b1⟩
    exact ⟨q, rfl, (show Hid _ from ⟨e1.out, k1.out⟩), b1⟩
  | false =>
    rw [if_neg (by simp)]
    rw [hl] at hm
    refine (refPutRequest_no k g p ad len cap w hm).mono ?_
    rintro x w' ⟨rfl, b1⟩
    exact ⟨⟨none, 0, 0, []⟩, rfl, (show Hid _ from ⟨rfl, nil_ok _⟩), b1⟩
/-- What a Get answers. -/
def GQPost (r : ReqN) (w : World) (x : Ending) (w' : World) : Prop := ∃ q : Part, x = .returned (.tuple #[.agg #[.int .i64 r.k, .int .i64 r.g, .int .i64 r.p, .slice q.ad q.len q.cap], .int .i64 r.e]) ∧ Hid (q.l = r.d ∧ q.ok w') ∧ Below w.heap.size w w'
theorem getRequest_any (ad : Option Addr) (len cap : Nat) (l : List Nat) (w : World) (hp : Part.ok w ⟨ad, len, cap, l⟩) (hlc : len ≤ cap) (hm : len ≤ 1000000000000000) : Calls Tryz.prog 15 #[.slice ad len cap] w (GQPost (getReqN l) w) := by
  unfold getReqN
  cases hu : unpackN l 1 9 with
  | false =>
    rw [if_neg (by simp)]
    refine (getRequest_no1 ad len cap l w hp hlc hm hu).mono ?_
    rintro x w' ⟨rfl, b1⟩
    exact ⟨⟨none, 0, 0, []⟩, rfl, (show Hid _ from ⟨rfl, nil_ok _⟩), b1⟩
  | true =>
    refine (getRequest_frame ad len cap l w (reqIn (bodyAt l 0)) hp hlc hm hu (fun ad c W => qmay_any _ _ _ ad _ c W)).mono ?_
    rintro x w' ⟨⟨h1, rfl⟩ | ⟨h1, g, o, n, c, rfl, h3, h4, h5⟩, hb⟩
    · rw [h1, if_neg (by simp)]
      exact ⟨⟨none, 0, 0, []⟩, rfl, (show Hid _ from ⟨rfl, nil_ok _⟩), hb⟩
    · rw [h1, if_pos ⟨rfl, rfl⟩]
      exact ⟨⟨some ⟨g, o, none⟩, n, c, _⟩, rfl, (show Hid _ from ⟨rfl, h3⟩), hb⟩
theorem refGetRequest_any (ad : Option Addr) (len cap : Nat) (l : List Nat) (w : World) (hp : Part.ok w ⟨ad, len, cap, l⟩) (hlc : len ≤ cap) (hm : len ≤ 1000000000000000) : Calls Tryz.prog 16 #[.slice ad len cap] w (GQPost (getReqN l) w) := by
  unfold getReqN
  cases hu : unpackN l 1 9 with
  | false =>
    rw [if_neg (by simp)]
    refine (refGetRequest_no1 ad len cap l w hp hlc hm hu).mono ?_
    rintro x w' ⟨rfl, b1⟩
    exact ⟨⟨none, 0, 0, []⟩, rfl, (show Hid _ from ⟨rfl, nil_ok _⟩), b1⟩
  | true =>
    refine (refGetRequest_frame ad len cap l w hp hlc hm hu).mono ?_
    rintro x w' ⟨⟨h1, rfl⟩ | ⟨h1, q, rfl, h3, h4⟩, hb⟩
    · rw [h1, if_neg (by simp)]
      exact ⟨⟨none, 0, 0, []⟩, rfl, (show Hid _ from ⟨rfl, nil_ok _⟩), hb⟩
    · rw [h1, if_pos ⟨rfl, rfl⟩]
      exact ⟨q, rfl, (show Hid _ from ⟨h3, h4⟩), hb⟩
end Go.Proofs.YtjldflfoncfndaaGreat
