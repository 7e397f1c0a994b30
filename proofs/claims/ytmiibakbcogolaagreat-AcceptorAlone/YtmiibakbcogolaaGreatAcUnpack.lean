/- unpack of package acceptor. -/
import Derived.Test.YtmiibakbcogolaaGreatAcSmall
namespace Go.Proofs.YtmiibakbcogolaaGreat.Ac
open Go.RowKit Crcm

/-- What unpack answers besides the body. -/
theorem unpackN_eq (l : List Nat) (kind least : Nat) : unpackN l kind least = (decide (unframeE l 0 = 0) && decide (kindAt l 0 = kind) && decide (9 + sizeAt l 0 = l.length) && decide (least ≤ sizeAt l 0)) := by
  unfold unpackN
  by_cases h1 : unframeE l 0 = 0 <;> by_cases h2 : kindAt l 0 = kind <;> by_cases h3 : 9 + sizeAt l 0 = l.length <;> simp [h1, h2, h3]
theorem bodyAt_length {l : List Nat} (h : unframeE l 0 = 0) : (bodyAt l 0).length = sizeAt l 0 := by
  have := unframeE_zero h
  unfold bodyAt
  rw [List.length_take, List.length_drop]
  omega
set_option maxRecDepth 100000 in
set_option maxHeartbeats 4000000 in
theorem unpack_ok {z c : Int} (ad : Option Addr) (len cap : Nat) (l : List Nat) (kind least : Nat) (w : World) (hz : z = kind) (hc : c = least) (hp : Part.ok w ⟨ad, len, cap, l⟩) (hlc : len ≤ cap) (hm : len ≤ 1000000000000000) (h : unpackN l kind least = true) :
    Calls Tryz.prog 45 #[.slice ad len cap, .int .i64 z, .int .i64 c] w fun e w' => ∃ p : Part, e = .returned (.tuple #[.slice p.ad p.len p.cap, .bool true]) ∧ Hid (p.l = bodyAt l 0) ∧ Hid (p.ok w') ∧ Hid (Own w' w.heap.size (.slice p.ad p.len p.cap) (bodyAt l 0)) ∧ Below w.heap.size w w' := by
  subst hz hc
  unfold unpackN at h
  obtain ⟨h1, h2, h3, h4⟩ := of_decide_eq_true h
  have q := unframe_any ad len cap l 0 w hp hlc hm (by omega)
  have e0 := unframeN_ok l 0 h1
  rw [show ((0 : Nat) : Int) = 0 from rfl] at e0
  rw [e0] at q
  have hl : l.length = len := hp.1
  have e1 : ((kindAt l 0 : Nat) : Int) = kind := by omega
  have e2 : ((0 + 9 + sizeAt l 0 : Nat) : Int) = (len : Int) := by omega
  have hbl := bodyAt_length h1
  simp only at q
  rw [e1, e2] at q
  clear hp e0 e1 e2 h h1 h2
  go_enter Tryz.func45, Tryz.ntmps45
  go_wp2_with (go_at_call 76; refine q.mono ?_; rintro e w' ⟨v, rfl, hown, hb⟩; obtain ⟨p, rfl, h5, h6⟩ := Part.of_own hown; have hpl : p.len = sizeAt l 0 := (by rw [← h6.1, h5, hbl]); have hpk : least ≤ p.len := (by omega); have O6 : Hid (Own w' w.heap.size (.slice p.ad p.len p.cap) (bodyAt l 0)) := hown; have K6 : Hid (p.ok w') := h6; have E6 : Hid (p.l = bodyAt l 0) := h5; clear hown h5 h6 hpl)
  go_ret2
  exact ⟨p, rfl, E6, K6, O6, hb⟩
set_option maxRecDepth 100000 in
set_option maxHeartbeats 4000000 in
theorem unpack_no {z c : Int} (ad : Option Addr) (len cap : Nat) (l : List Nat) (kind least : Nat) (w : World) (hz : z = kind) (hc : c = least) (hp : Part.ok w ⟨ad, len, cap, l⟩) (hlc : len ≤ cap) (hm : len ≤ 1000000000000000) (h : unpackN l kind least = false) :
    Calls Tryz.prog 45 #[.slice ad len cap, .int .i64 z, .int .i64 c] w fun e w' => ∃ p : Part, e = .returned (.tuple #[.slice p.ad p.len p.cap, .bool false]) ∧ Below w.heap.size w w' := by
  subst hz hc
  have q := unframe_any ad len cap l 0 w hp hlc hm (by omega)
  have hl : l.length = len := hp.1
  clear hp
  unfold unpackN at h
  by_cases h1 : unframeE l 0 = 0
  · have e0 := unframeN_ok l 0 h1
    rw [show ((0 : Nat) : Int) = 0 from rfl] at e0
    rw [e0] at q
    have hbl := bodyAt_length h1
    simp only at q
    clear e0
    by_cases h2 : kindAt l 0 = kind
    · by_cases h3 : 9 + sizeAt l 0 = len
      · have h4 : sizeAt l 0 < least := by simp [h1, h2, hl, h3] at h; omega
        have e1 : ((kindAt l 0 : Nat) : Int) = kind := by omega
        have e2 : ((0 + 9 + sizeAt l 0 : Nat) : Int) = (len : Int) := by omega
        rw [e1, e2] at q
        clear e1 e2 h h1 h2
        go_enter Tryz.func45, Tryz.ntmps45
        go_wp2_with (go_at_call 76; refine q.mono ?_; rintro e w' ⟨v, rfl, hown, hb⟩; obtain ⟨p, rfl, h5, h6⟩ := Part.of_own hown; have hpl : p.len = sizeAt l 0 := (by rw [← h6.1, h5, hbl]); have hpk : p.len < least := (by omega); clear hown h5 h6 hpl)
        have hd : decide (least ≤ p.len) = false := by simp; omega
        rw [hd]
        go_ret2
        exact ⟨p, rfl, hb⟩
      · have e1 : ((kindAt l 0 : Nat) : Int) = kind := by omega
        rw [e1] at q
        have e3 : (((0 + 9 + sizeAt l 0 : Nat) : Int) == (len : Int)) = false := by simp; omega
        generalize ((0 + 9 + sizeAt l 0 : Nat) : Int) = to at *
        clear e1 h h1 h2 h3 hbl
        go_enter Tryz.func45, Tryz.ntmps45
        go_wp2_with (go_at_call 76; refine q.mono ?_; rintro e w' ⟨v, rfl, hown, hb⟩; obtain ⟨p, rfl, h5, h6⟩ := Part.of_own hown; clear hown h5 h6)
        go_ret2
        exact ⟨p, rfl, hb⟩
    · have e3 : (((kindAt l 0 : Nat) : Int) == (kind : Int)) = false := by simp; omega
      generalize ((0 + 9 + sizeAt l 0 : Nat) : Int) = to at *
      generalize ((kindAt l 0 : Nat) : Int) = kd at *
      clear h h1 h2 hbl
      go_enter Tryz.func45, Tryz.ntmps45
      go_wp2_with (go_at_call 76; refine q.mono ?_; rintro e w' ⟨v, rfl, hown, hb⟩; obtain ⟨p, rfl, h5, h6⟩ := Part.of_own hown; clear hown h5 h6)
      go_ret2
      exact ⟨p, rfl, hb⟩
  · have e0 := unframeN_err l 0 h1
    rw [show ((0 : Nat) : Int) = 0 from rfl] at e0
    rw [e0] at q
    simp only at q
    have e3 : (unframeE l 0 == 0) = false := by simpa using h1
    generalize unframeE l 0 = ee at *
    clear e0 h h1
    go_enter Tryz.func45, Tryz.ntmps45
    go_wp2_with (go_at_call 76; refine q.mono ?_; rintro e w' ⟨v, rfl, hown, hb⟩; obtain ⟨p, rfl, h5, h6⟩ := Part.of_own hown; clear hown h5 h6)
    go_ret2
    exact ⟨p, rfl, hb⟩
/-- unpack of a frame with a body: where the body lies. -/
theorem unpack_at {z c : Int} (ad : Option Addr) (len cap : Nat) (l : List Nat) (kind least : Nat) (w : World) (hz : z = kind) (hc : c = least) (hp : Part.ok w ⟨ad, len, cap, l⟩) (hlc : len ≤ cap) (hm : len ≤ 1000000000000000) (h : unpackN l kind least = true) (h1 : 1 ≤ least) :
    Calls Tryz.prog 45 #[.slice ad len cap, .int .i64 z, .int .i64 c] w fun e w' => ∃ g n c : Nat, e = .returned (.tuple #[.slice (some ⟨g, 0, none⟩) n c, .bool true]) ∧ n = (bodyAt l 0).length ∧ least ≤ n ∧ n ≤ 65536 ∧ n ≤ c ∧ c ≤ maxLen ∧ w.heap.size ≤ g ∧ Part.ok w' ⟨some ⟨g, 0, none⟩, n, c, bodyAt l 0⟩ ∧ Below w.heap.size w w' := by
  have hl : least ≤ (bodyAt l 0).length ∧ (bodyAt l 0).length ≤ 65536 := by
    rw [unpackN_eq] at h
    simp at h
    rw [bodyAt_length h.1.1.1]
    exact ⟨h.2, (unframeE_zero h.1.1.1).1⟩
  refine (unpack_ok ad len cap l kind least w hz hc hp hlc hm h).mono ?_
  rintro e w' ⟨p, rfl, e1, k1, o1, b1⟩
  have hk : p.l.length = p.len := k1.out.1
  rw [e1.out] at hk
  rcases o1.out.2.2 with ⟨hv, h0⟩ | ⟨g, cap, cur, hv, hb, hg, hn, hm, hs, ht⟩
  · omega
  · injection hv with q1 q2 q3
    obtain ⟨pa, pn, pc, pl⟩ := p
    simp only at q1 q2 q3 hk
    have k2 := k1.out
    have e2 := e1.out
    simp only at e2
    subst q1 q2 q3 e2
    exact ⟨g, _, _, rfl, rfl, hl.1, hl.2, hn, hm, hb, k2, b1⟩
/-- The rest of a slice of bytes. -/
theorem part_rest {w : World} {g n c : Nat} {b : List Nat} (k : Nat) (h : Part.ok w ⟨some ⟨g, 0, none⟩, n, c, b⟩) (hk : k ≤ n) (o : Nat) (ho : k < n → o = k) : Part.ok w ⟨some ⟨g, o, none⟩, n - k, c - k, b.drop k⟩ := by
  have hl : b.length = n := h.1
  refine ⟨by simp [hl], (fun e => by cases e), fun x hx => h.2.2.1 x (List.mem_of_mem_drop hx), ?_⟩
  by_cases hkn : k < n
  · rw [ho hkn]
    rcases h.2.2.2 with h0 | ⟨b', off, e, hs, hc⟩
    · simp only at h0; rw [h0] at hl; simp at hl; omega
    · cases e
      refine Or.inr ⟨g, k, rfl, hs, fun i hi => ?_⟩
      simp only [List.length_drop] at hi hc
      have := hc (k + i) (by omega)
      rw [Nat.zero_add] at this
      rw [this]
      simp
  · exact Or.inl (List.drop_eq_nil_of_le (by omega))
theorem part_set {w : World} {g o n c B i : Nat} {b : List Nat} {v : Value} (h : Part.ok w ⟨some ⟨g, o, none⟩, n, c, b⟩) (hne : B < g) : Part.ok (w.setCell ⟨B, i, none⟩ v) ⟨some ⟨g, o, none⟩, n, c, b⟩ := by
  refine ⟨h.1, h.2.1, h.2.2.1, ?_⟩
  rcases h.2.2.2 with h0 | ⟨b', off, e, hs, hc⟩
  · exact Or.inl h0
  · cases e
    refine Or.inr ⟨g, o, rfl, Nat.lt_of_lt_of_le hs ((Below.refl 0 w).setCell (p := ⟨B, i, none⟩) (Nat.zero_le _) v).size, fun j hj => ?_⟩
    exact (World.cell?_setCell_other w ⟨B, i, none⟩ ⟨g, o + j, none⟩ v (by intro hh; injection hh with h1; omega)).trans (hc j hj)
end Go.Proofs.YtmiibakbcogolaaGreat.Ac
