/- framed of the document's package of layer 8: the body of a frame that the whole of some bytes is. -/
import Derived.Test.YtoihddlbdimmlaaGreatAcUnpack
import Derived.Test.YtoihddlbdimmlaaGreatPRef
namespace Go.Proofs.YtoihddlbdimmlaaGreat.Ac
open Go.RowKit Crcm

set_option maxRecDepth 100000 in
set_option maxHeartbeats 4000000 in
theorem framed_ok {z c : Int} (ad : Option Addr) (len cap : Nat) (l : List Nat) (kind least : Nat) (w : World) (hz : z = kind) (hc : c = least) (hp : Part.ok w ⟨ad, len, cap, l⟩) (hlc : len ≤ cap) (hm : len ≤ 1000000000000000) (h : unpackN l kind least = true) :
    Calls Tryz.prog 47 #[.slice ad len cap, .int .i64 z, .int .i64 c] w fun e w' => ∃ p : Part, e = .returned (.tuple #[.slice p.ad p.len p.cap, .bool true]) ∧ Hid (p.l = bodyAt l 0) ∧ Hid (p.ok w') ∧ Hid (Own w' w.heap.size (.slice p.ad p.len p.cap) (bodyAt l 0)) ∧ Below w.heap.size w w' := by
  subst hz hc
  unfold unpackN at h
  obtain ⟨h1, h2, h3, h4⟩ := of_decide_eq_true h
  have q := refUnframe_any ad len cap l 0 w hp hlc hm (by omega)
  have e0 := unframeN_ok l 0 h1
  rw [show ((0 : Nat) : Int) = 0 from rfl] at e0
  rw [e0] at q
  have hl : l.length = len := hp.1
  have e1 : ((kindAt l 0 : Nat) : Int) = kind := by omega
  have e2 : ((0 + 9 + sizeAt l 0 : Nat) : Int) = (len : Int) := by omega
  have hbl := bodyAt_length h1
  simp only at q
  rw [e1, e2] at q
  clear hp e0 e1 e2 h h1 h2
  go_enter Tryz.func47, Tryz.ntmps47
  go_wp2_with (go_at_call 78; refine q.mono ?_; rintro e w' ⟨v, rfl, hown, hb⟩; obtain ⟨p, rfl, h5, h6⟩ := Part.of_own hown; have hpl : p.len = sizeAt l 0 := (by rw [← h6.1, h5, hbl]); have hpk : least ≤ p.len := (by omega); have O6 : Hid (Own w' w.heap.size (.slice p.ad p.len p.cap) (bodyAt l 0)) := hown; have K6 : Hid (p.ok w') := h6; have E6 : Hid (p.l = bodyAt l 0) := h5; clear hown h5 h6 hpl)
  go_ret2
  exact ⟨p, rfl, E6, K6, O6, hb⟩
set_option maxRecDepth 100000 in
set_option maxHeartbeats 4000000 in
theorem framed_no {z c : Int} (ad : Option Addr) (len cap : Nat) (l : List Nat) (kind least : Nat) (w : World) (hz : z = kind) (hc : c = least) (hp : Part.ok w ⟨ad, len, cap, l⟩) (hlc : len ≤ cap) (hm : len ≤ 1000000000000000) (h : unpackN l kind least = false) :
    Calls Tryz.prog 47 #[.slice ad len cap, .int .i64 z, .int .i64 c] w fun e w' => ∃ p : Part, e = .returned (.tuple #[.slice p.ad p.len p.cap, .bool false]) ∧ Below w.heap.size w w' := by
  subst hz hc
  have q := refUnframe_any ad len cap l 0 w hp hlc hm (by omega)
  have hl : l.length = len := hp.1
  clear hp
  unfold unpackN at h
  by_cases h1 : unframeE l 0 = 0
  · have e0 := unframeN_ok l 0 h1
    rw [show ((0 : Nat) : Int) = 0 from rfl] at e0
    rw [e0] at q
    have hbl := bodyAt_length h1
    simp only at q
    clear e0
    by_cases h2 : kindAt l 0 = kind
    · by_cases h3 : 9 + sizeAt l 0 = len
      · have h4 : sizeAt l 0 < least := by simp [h1, h2, hl, h3] at h; omega
        have e1 : ((kindAt l 0 : Nat) : Int) = kind := by omega
        have e2 : ((0 + 9 + sizeAt l 0 : Nat) : Int) = (len : Int) := by omega
        rw [e1, e2] at q
        clear e1 e2 h h1 h2
        go_enter Tryz.func47, Tryz.ntmps47
        go_wp2_with (go_at_call 78; refine q.mono ?_; rintro e w' ⟨v, rfl, hown, hb⟩; obtain ⟨p, rfl, h5, h6⟩ := Part.of_own hown; have hpl : p.len = sizeAt l 0 := (by rw [← h6.1, h5, hbl]); have hpk : p.len < least := (by omega); clear hown h5 h6 hpl)
        have hd : decide (least ≤ p.len) = false := by simp; omega
        rw [hd]
        go_ret2
        exact ⟨p, rfl, hb⟩
      · have e1 : ((kindAt l 0 : Nat) : Int) = kind := by omega
        rw [e1] at q
        have e3 : (((0 + 9 + sizeAt l 0 : Nat) : Int) == (len : Int)) = false := by simp; omega
        generalize ((0 + 9 + sizeAt l 0 : Nat) : Int) = to at *
        clear e1 h h1 h2 h3 hbl
        go_enter Tryz.func47, Tryz.ntmps47
        go_wp2_with (go_at_call 78; refine q.mono ?_; rintro e w' ⟨v, rfl, hown, hb⟩; obtain ⟨p, rfl, h5, h6⟩ := Part.of_own hown; clear hown h5 h6)
        go_ret2
        exact ⟨p, rfl, hb⟩
    · have e3 : (((kindAt l 0 : Nat) : Int) == (kind : Int)) = false := by simp; omega
      generalize ((0 + 9 + sizeAt l 0 : Nat) : Int) = to at *
      generalize ((kindAt l 0 : Nat) : Int) = kd at *
      clear h h1 h2 hbl
      go_enter Tryz.func47, Tryz.ntmps47
      go_wp2_with (go_at_call 78; refine q.mono ?_; rintro e w' ⟨v, rfl, hown, hb⟩; obtain ⟨p, rfl, h5, h6⟩ := Part.of_own hown; clear hown h5 h6)
      go_ret2
      exact ⟨p, rfl, hb⟩
  · have e0 := unframeN_err l 0 h1
    rw [show ((0 : Nat) : Int) = 0 from rfl] at e0
    rw [e0] at q
    simp only at q
    have e3 : (unframeE l 0 == 0) = false := by simpa using h1
    generalize unframeE l 0 = ee at *
    clear e0 h h1
    go_enter Tryz.func47, Tryz.ntmps47
    go_wp2_with (go_at_call 78; refine q.mono ?_; rintro e w' ⟨v, rfl, hown, hb⟩; obtain ⟨p, rfl, h5, h6⟩ := Part.of_own hown; clear hown h5 h6)
    go_ret2
    exact ⟨p, rfl, hb⟩
/-- framed of a frame with a body: where the body lies. -/
theorem framed_at {z c : Int} (ad : Option Addr) (len cap : Nat) (l : List Nat) (kind least : Nat) (w : World) (hz : z = kind) (hc : c = least) (hp : Part.ok w ⟨ad, len, cap, l⟩) (hlc : len ≤ cap) (hm : len ≤ 1000000000000000) (h : unpackN l kind least = true) (h1 : 1 ≤ least) :
    Calls Tryz.prog 47 #[.slice ad len cap, .int .i64 z, .int .i64 c] w fun e w' => ∃ g n c : Nat, e = .returned (.tuple #[.slice (some ⟨g, 0, none⟩) n c, .bool true]) ∧ n = (bodyAt l 0).length ∧ least ≤ n ∧ n ≤ 65536 ∧ n ≤ c ∧ c ≤ maxLen ∧ w.heap.size ≤ g ∧ Part.ok w' ⟨some ⟨g, 0, none⟩, n, c, bodyAt l 0⟩ ∧ Below w.heap.size w w' := by
  have hl : least ≤ (bodyAt l 0).length ∧ (bodyAt l 0).length ≤ 65536 := by
    rw [unpackN_eq] at h
    simp at h
    rw [bodyAt_length h.1.1.1]
    exact ⟨h.2, (unframeE_zero h.1.1.1).1⟩
  refine (framed_ok ad len cap l kind least w hz hc hp hlc hm h).mono ?_
  rintro e w' ⟨p, rfl, e1, k1, o1, b1⟩
  have hk : p.l.length = p.len := k1.out.1
  rw [e1.out] at hk
  rcases o1.out.2.2 with ⟨hv, h0⟩ | ⟨g, cap, cur, hv, hb, hg, hn, hm, hs, ht⟩
  · omega
  · injection hv with q1 q2 q3
    obtain ⟨pa, pn, pc, pl⟩ := p
    simp only at q1 q2 q3 hk
    have k2 := k1.out
    have e2 := e1.out
    simp only at e2
    subst q1 q2 q3 e2
    exact ⟨g, _, _, rfl, rfl, hl.1, hl.2, hn, hm, hb, k2, b1⟩
end Go.Proofs.YtoihddlbdimmlaaGreat.Ac
