/- tellPart of package store. -/
import Derived.Test.YtikomnbhmmjfnaaGreatSText
import Derived.Test.YtikomnbhmmjfnaaGreatSum
import Derived.Test.YtikomnbhmmjfnaaGreatFull0
namespace Go.Proofs.YtikomnbhmmjfnaaGreat
open Go.RowKit Crcm

/-- What a walk that makes one part behind the other holds. -/
def Cur (w W : World) (ps : List Part) : Prop := Below w.heap.size w W ∧ ∀ p ∈ ps, p.ok W
theorem Cur.step {w W W' : World} {ps : List Part} {p : Part} (h : Cur w W ps) (b : Below W.heap.size W W') (k : p.ok W') : Cur w W' (p :: ps) :=
  ⟨h.1.trans (b.mono h.1.size), fun q hq => by
    rcases List.mem_cons.1 hq with rfl | hq
    · exact k
    · exact (h.2 q hq).later b⟩
theorem Cur.make {w W : World} {ps : List Part} {ZB : Obj} {z : Nat} (h : Cur w W ps) (hz : ∀ W : World, Part.ok (W.alloc ZB) ⟨some ⟨W.heap.size, 0, none⟩, z, z, List.replicate z 0⟩) : Cur w (W.alloc ZB) (⟨some ⟨W.heap.size, 0, none⟩, z, z, List.replicate z 0⟩ :: ps) :=
  h.step ((Below.refl _ W).alloc (Nat.le_refl _) _) (hz W)
theorem all7 {p1 p2 p3 p4 p5 : Part} {number k count : Nat} {a z : Option Addr} {len cap zl zc : Nat} {l : List Nat} (e1 : p1.l = spellN 165 1) (e2 : p2.l = spellN number 6) (e3 : p3.l = spellN k 2) (e4 : p4.l = spellN count 2) (e5 : p5.l = spellN len 1) (hl : l.length = len) : allN [p1, p2, p3, p4, p5, ⟨a, len, cap, l⟩, ⟨z, zl, zc, List.replicate (240 - len) 0⟩] 7 = partBs number k count l := by
  simp [allN, e1, e2, e3, e4, e5, partBs, hl]
theorem ok2 {w : World} {p1 p2 : Part} (h1 : p1.ok w) (h2 : p2.ok w) : ∀ p ∈ [p1, p2], p.ok w := by
  intro p hp
  simp at hp
  rcases hp with rfl | rfl <;> assumption
theorem all2 {p1 p2 : Part} {number k count : Nat} {l : List Nat} (e1 : p1.l = partBs number k count l) (e2 : p2.l = spellN (crc p1.l) 4) : allN [p1, p2] 2 = partN number k count l := by
  rw [e1] at e2
  simp [allN, e1, e2, partN]
theorem hide {p : Prop} (h : p) : Hid p := h
theorem all7z {p1 p2 p3 p4 p5 : Part} {number k count : Nat} {a z : Option Addr} {len cap zl : Nat} {l : List Nat} (e1 : p1.l = spellN 165 1) (e2 : p2.l = spellN number 6) (e3 : p3.l = spellN k 2) (e4 : p4.l = spellN count 2) (e5 : p5.l = spellN len 1) (hl : l.length = len) (hz : 240 - len = zl) : allN [p1, p2, p3, p4, p5, ⟨a, len, cap, l⟩, ⟨z, zl, zl, List.replicate zl 0⟩] 7 = partBs number k count l := by
  subst hz
  exact all7 e1 e2 e3 e4 e5 hl
theorem concat_at2 (ps : List Part) (w0 : World) (cs : Array Value) (g m c : Nat) (hg : g = w0.heap.size) (hcs : cs = (ps.map fun p => Value.slice p.ad p.len p.cap).toArray) (hm : ps.length = m) (hok : ∀ p ∈ ps, p.ok w0) (htot : (allN ps m).length ≤ 1000000) (hmm : m ≤ 1000) :
    Calls Tryz.prog 112 #[.slice (some ⟨g, 0, none⟩) m c] (w0.alloc (.cells cs 28)) fun e w' => ∃ p : Part, e = .returned (.slice p.ad p.len p.cap) ∧ Hid (p.l = allN ps m) ∧ Hid (Own w' w0.heap.size (.slice p.ad p.len p.cap) (allN ps m)) ∧ Hid (p.ok w') ∧ Below w0.heap.size w0 w' := by
  subst hg
  exact concat_at ps w0 cs hcs m c hm hok htot hmm
theorem len7 {p1 p2 p3 p4 p5 : Part} {number k count : Nat} {a z : Option Addr} {len cap zl : Nat} {l : List Nat} (e1 : p1.l = spellN 165 1) (e2 : p2.l = spellN number 6) (e3 : p3.l = spellN k 2) (e4 : p4.l = spellN count 2) (e5 : p5.l = spellN len 1) (hl : l.length = len) (hz : 240 - len = zl) (hlen : len ≤ 240) : (allN [p1, p2, p3, p4, p5, ⟨a, len, cap, l⟩, ⟨z, zl, zl, List.replicate zl 0⟩] 7).length ≤ 1000000 := by
  subst hz
  rw [all7 e1 e2 e3 e4 e5 hl, partBs_length _ _ _ _ (by omega)]
  omega
theorem mem7 {w W : World} {p1 p2 p3 p4 p5 p6 p7 : Part} {ps : List Part} (h : Cur w W ps) (h1 : p1 ∈ ps := by simp) (h2 : p2 ∈ ps := by simp) (h3 : p3 ∈ ps := by simp) (h4 : p4 ∈ ps := by simp) (h5 : p5 ∈ ps := by simp) (h6 : p6 ∈ ps := by simp) (h7 : p7 ∈ ps := by simp) : ∀ p ∈ [p1, p2, p3, p4, p5, p6, p7], p.ok W := by
  intro p hp
  simp at hp
  rcases hp with rfl | rfl | rfl | rfl | rfl | rfl | rfl <;> (apply h.2; assumption)
set_option maxRecDepth 100000 in
set_option maxHeartbeats 8000000 in
theorem tell_any (number k count : Nat) (ad : Option Addr) (len cap : Nat) (l : List Nat) (w : World) (hn : number < 281474976710656) (hk : k < 65536) (hc : count < 65536) (ha : Part.ok w ⟨ad, len, cap, l⟩) (hlen : len ≤ 240) :
    Calls Tryz.prog 111 #[.int .i64 (number : Int), .int .i64 (k : Int), .int .i64 (count : Int), .slice ad len cap] w fun e w' => ∃ p : Part, e = .returned (.slice p.ad p.len p.cap) ∧ Hid (p.l = partN number k count l) ∧ Hid (p.ok w') ∧ Hid (Own w' w.heap.size (.slice p.ad p.len p.cap) (partN number k count l)) ∧ Below w.heap.size w w' := by
  have HL : Hid (l.length = len) := ha.1
  obtain ⟨z, hz⟩ : ∃ z, 240 - len = z := ⟨_, rfl⟩
  have hz2 : (240 : Int) - (len : Int) = (z : Int) := by omega
  have hz3 : IntKind.i64.wrap (z : Int) = (z : Int) := by rw [IntKind.wrap_i64]; omega
  have hz4 : IntKind.i64.wrap (240 - (len : Int)) = (z : Int) := by rw [IntKind.wrap_i64]; omega
  obtain ⟨ZB, hZB⟩ : ∃ ZB : Obj, ZB = .cells (madeCells #[Value.int .u8 0] z) 5 := ⟨_, rfl⟩
  have hmk : ∀ W : World, (Instr.makeSlice 28 (.int .i64 (z : Int)) (.int .i64 (z : Int))).run Tryz.prog W = .ok (.slice (some ⟨W.heap.size, 0, none⟩) z z) (W.alloc ZB) := fun W => by
    rw [hZB]
    exact run_make_row' 28 5 (.int .u8 0) 1 Tryz.underlying28 Tryz.info5 rfl .i64 .i64 z (by omega) (by omega) W
  have HZ : Hid (∀ W : World, Part.ok (W.alloc ZB) ⟨some ⟨W.heap.size, 0, none⟩, z, z, List.replicate z 0⟩) := (show Hid _ from fun W => by rw [hZB]; exact made_ok W z (by omega))
  have HC : Hid (Cur w w.drew [⟨ad, len, cap, l⟩]) := (show Hid _ from ⟨(Below.refl _ w).drew, fun p hp => by simp at hp; rw [hp]; exact ha.later ((Below.refl _ w).drew)⟩)
  clear ha hZB
  go_enter Tryz.func111, Tryz.ntmps111
  go_wp2_with fail
  go_region_held3 (fun _ => True) (exact trivial)
    (first
      | (go_at_call 113; (with_reducible_and_instances (refine (sspell_at 165 1 _ rfl rfl (by omega) (by omega) (by omega)).mono ?_)); rintro e w1 ⟨p1, rfl, e1, k1, b1⟩; have E1 : Hid (p1.l = spellN 165 1) := e1; (first | (have HC1 := hide (HC.out.step b1 k1.out)) | (have HC1 := hide ((HC.out.make HZ.out).step b1 k1.out))); clear b1 k1 e1)
      | (go_at_call 113; (with_reducible_and_instances (refine (sspell_at number 6 _ rfl rfl (by omega) (by omega) (by omega)).mono ?_)); rintro e w2 ⟨p2, rfl, e2, k2, b2⟩; have E2 : Hid (p2.l = spellN number 6) := e2; (first | (have HC2 := hide (HC1.out.step b2 k2.out)) | (have HC2 := hide ((HC1.out.make HZ.out).step b2 k2.out))); clear b2 k2 e2)
      | (go_at_call 113; (with_reducible_and_instances (refine (sspell_at k 2 _ rfl rfl (by omega) (by omega) (by omega)).mono ?_)); rintro e w3 ⟨p3, rfl, e3, k3, b3⟩; have E3 : Hid (p3.l = spellN k 2) := e3; (first | (have HC3 := hide (HC2.out.step b3 k3.out)) | (have HC3 := hide ((HC2.out.make HZ.out).step b3 k3.out))); clear b3 k3 e3)
      | (go_at_call 113; (with_reducible_and_instances (refine (sspell_at count 2 _ rfl rfl (by omega) (by omega) (by omega)).mono ?_)); rintro e w4 ⟨p4, rfl, e4, k4, b4⟩; have E4 : Hid (p4.l = spellN count 2) := e4; (first | (have HC4 := hide (HC3.out.step b4 k4.out)) | (have HC4 := hide ((HC3.out.make HZ.out).step b4 k4.out))); clear b4 k4 e4)
      | (go_at_call 113; (with_reducible_and_instances (refine (sspell_at len 1 _ rfl rfl (by omega) (by omega) (by omega)).mono ?_)); rintro e w5 ⟨p5, rfl, e5, k5, b5⟩; have E5 : Hid (p5.l = spellN len 1) := e5; (first | (have HC5 := hide (HC4.out.step b5 k5.out)) | (have HC5 := hide ((HC4.out.make HZ.out).step b5 k5.out))); clear b5 k5 e5)
      | (go_at_call 112; (with_reducible_and_instances (refine (concat_at2 [p1, p2, p3, p4, p5, ⟨ad, len, cap, l⟩, ⟨some ⟨w.drew.heap.size, 0, none⟩, z, z, List.replicate z 0⟩] w5 _ w5.heap.size 7 7 ?hg ?hcs ?hm ?hok ?hlen ?hmm).mono ?_)); (case hg => rfl); (case hcs => rfl); (case hm => rfl); (case hok => exact mem7 HC5.out); (case hlen => exact len7 E1.out E2.out E3.out E4.out E5.out HL.out hz hlen); (case hmm => omega); rintro e w6 ⟨p6, rfl, e6, o6, k6, b6⟩; have E6 : Hid (p6.l = partBs number k count l) := hide (e6.out.trans (all7z E1.out E2.out E3.out E4.out E5.out HL.out hz)); have K6 : Hid (p6.ok w6) := k6; have B6 : Hid (Below w.heap.size w w6) := hide (HC5.out.1.trans (b6.mono HC5.out.1.size)); clear e6 o6 k6 b6)
      | (go_at_call 112; (with_reducible_and_instances (refine (concat_at2 [p1, p2, p3, p4, p5, ⟨ad, len, cap, l⟩, ⟨some ⟨w1.heap.size, 0, none⟩, z, z, List.replicate z 0⟩] w5 _ w5.heap.size 7 7 ?hg ?hcs ?hm ?hok ?hlen ?hmm).mono ?_)); (case hg => rfl); (case hcs => rfl); (case hm => rfl); (case hok => exact mem7 HC5.out); (case hlen => exact len7 E1.out E2.out E3.out E4.out E5.out HL.out hz hlen); (case hmm => omega); rintro e w6 ⟨p6, rfl, e6, o6, k6, b6⟩; have E6 : Hid (p6.l = partBs number k count l) := hide (e6.out.trans (all7z E1.out E2.out E3.out E4.out E5.out HL.out hz)); have K6 : Hid (p6.ok w6) := k6; have B6 : Hid (Below w.heap.size w w6) := hide (HC5.out.1.trans (b6.mono HC5.out.1.size)); clear e6 o6 k6 b6)
      | (go_at_call 112; (with_reducible_and_instances (refine (concat_at2 [p1, p2, p3, p4, p5, ⟨ad, len, cap, l⟩, ⟨some ⟨w2.heap.size, 0, none⟩, z, z, List.replicate z 0⟩] w5 _ w5.heap.size 7 7 ?hg ?hcs ?hm ?hok ?hlen ?hmm).mono ?_)); (case hg => rfl); (case hcs => rfl); (case hm => rfl); (case hok => exact mem7 HC5.out); (case hlen => exact len7 E1.out E2.out E3.out E4.out E5.out HL.out hz hlen); (case hmm => omega); rintro e w6 ⟨p6, rfl, e6, o6, k6, b6⟩; have E6 : Hid (p6.l = partBs number k count l) := hide (e6.out.trans (all7z E1.out E2.out E3.out E4.out E5.out HL.out hz)); have K6 : Hid (p6.ok w6) := k6; have B6 : Hid (Below w.heap.size w w6) := hide (HC5.out.1.trans (b6.mono HC5.out.1.size)); clear e6 o6 k6 b6)
      | (go_at_call 112; (with_reducible_and_instances (refine (concat_at2 [p1, p2, p3, p4, p5, ⟨ad, len, cap, l⟩, ⟨some ⟨w3.heap.size, 0, none⟩, z, z, List.replicate z 0⟩] w5 _ w5.heap.size 7 7 ?hg ?hcs ?hm ?hok ?hlen ?hmm).mono ?_)); (case hg => rfl); (case hcs => rfl); (case hm => rfl); (case hok => exact mem7 HC5.out); (case hlen => exact len7 E1.out E2.out E3.out E4.out E5.out HL.out hz hlen); (case hmm => omega); rintro e w6 ⟨p6, rfl, e6, o6, k6, b6⟩; have E6 : Hid (p6.l = partBs number k count l) := hide (e6.out.trans (all7z E1.out E2.out E3.out E4.out E5.out HL.out hz)); have K6 : Hid (p6.ok w6) := k6; have B6 : Hid (Below w.heap.size w w6) := hide (HC5.out.1.trans (b6.mono HC5.out.1.size)); clear e6 o6 k6 b6)
      | (go_at_call 112; (with_reducible_and_instances (refine (concat_at2 [p1, p2, p3, p4, p5, ⟨ad, len, cap, l⟩, ⟨some ⟨w4.heap.size, 0, none⟩, z, z, List.replicate z 0⟩] w5 _ w5.heap.size 7 7 ?hg ?hcs ?hm ?hok ?hlen ?hmm).mono ?_)); (case hg => rfl); (case hcs => rfl); (case hm => rfl); (case hok => exact mem7 HC5.out); (case hlen => exact len7 E1.out E2.out E3.out E4.out E5.out HL.out hz hlen); (case hmm => omega); rintro e w6 ⟨p6, rfl, e6, o6, k6, b6⟩; have E6 : Hid (p6.l = partBs number k count l) := hide (e6.out.trans (all7z E1.out E2.out E3.out E4.out E5.out HL.out hz)); have K6 : Hid (p6.ok w6) := k6; have B6 : Hid (Below w.heap.size w w6) := hide (HC5.out.1.trans (b6.mono HC5.out.1.size)); clear e6 o6 k6 b6)
      | (go_at_call 112; (with_reducible_and_instances (refine (concat_at2 [p1, p2, p3, p4, p5, ⟨ad, len, cap, l⟩, ⟨some ⟨w5.heap.size, 0, none⟩, z, z, List.replicate z 0⟩] (w5.alloc ZB) _ (w5.heap.size + 1) 7 7 ?hg ?hcs ?hm ?hok ?hlen ?hmm).mono ?_)); (case hg => simp); (case hcs => rfl); (case hm => rfl); (case hok => exact mem7 (HC5.out.make HZ.out)); (case hlen => exact len7 E1.out E2.out E3.out E4.out E5.out HL.out hz hlen); (case hmm => omega); rintro e w6 ⟨p6, rfl, e6, o6, k6, b6⟩; have E6 : Hid (p6.l = partBs number k count l) := hide (e6.out.trans (all7z E1.out E2.out E3.out E4.out E5.out HL.out hz)); have K6 : Hid (p6.ok w6) := k6; have B6 : Hid (Below w.heap.size w w6) := hide ((HC5.out.make HZ.out).1.trans (b6.mono (HC5.out.make HZ.out).1.size)); clear e6 o6 k6 b6))
  all_goals
    have hc6 := crc_lt p6.l
    have h6l : p6.len ≤ 252 := by rw [← K6.out.1, E6.out, partBs_length _ _ _ _ (by have := HL.out; omega)]; omega
    clear HC HZ E1 E2 E3 E4 E5 hmk
    go_wp2_with fail
    refine (crc_any p6.ad p6.len p6.cap p6.l _ K6.out.1 (by unfold maxLen; omega) K6.out.2.2).mono ?_
    rintro e w7 ⟨rfl, b7⟩
    go_wp2_with fail
    refine (sspell_at (crc p6.l) 4 _ rfl rfl (by omega) (by omega) (by omega)).mono ?_
    rintro e w8 ⟨p8, rfl, e8, k8, b8⟩
    have b78 : Below w6.heap.size w6 w8 := b7.trans (b8.mono b7.size)
    have B8 : Hid (Below w.heap.size w w8) := hide (B6.out.trans (b78.mono B6.out.size))
    have OK8 : Hid (∀ p ∈ [p6, p8], p.ok w8) := hide (ok2 (K6.out.later b78) k8.out)
    have E8 : Hid (allN [p6, p8] 2 = partN number k count l) := hide (all2 E6.out e8.out)
    clear b7 b8 b78 e8 k8 K6 B6 hc6 h6l
    go_wp2_with fail
    refine (concat_at [p6, p8] w8 _ rfl 2 2 rfl OK8.out (by rw [E8.out, partN_length _ _ _ _ (by have := HL.out; omega)]; omega) (by omega)).mono ?_
    rintro e w9 ⟨p9, rfl, e9, o9, k9, b9⟩
    go_wp2_with fail
    go_ret
    exact ⟨p9, rfl, hide (e9.out.trans E8.out), k9, hide (own4 o9.out E8.out B8.out.size), B8.out.trans (b9.mono B8.out.size)⟩
end Go.Proofs.YtikomnbhmmjfnaaGreat
