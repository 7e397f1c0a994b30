/- What the Go function wire.Frame answers: the document's words on it as a function. -/
import Derived.Test.YthfildanpcmfaaaPut
namespace Go.Proofs.Ythfildanpcmfaaa
open Go.RowKit Crcm

/-- What is summed of a frame. -/
def toldN (kind : Nat) (l : List Nat) : List Nat := spellN kind 1 ++ spellN l.length 4 ++ l
/-- A frame's bytes. -/
def frameBs (kind : Nat) (l : List Nat) : List Nat := toldN kind l ++ spellN (crc (toldN kind l)) 4
/-- P105, Frame: the error's number and the bytes. -/
def frameN (kind : Int) (l : List Nat) : Int × List Nat :=
  if 0 ≤ kind ∧ kind ≤ 255 then (if l.length ≤ 65536 then (0, frameBs kind.toNat l) else (6, [])) else (1, [])

theorem toldN_length (kind : Nat) (l : List Nat) : (toldN kind l).length = 5 + l.length := by simp [toldN, spellN_length]; omega
theorem frameBs_length (kind : Nat) (l : List Nat) : (frameBs kind l).length = 9 + l.length := by simp [frameBs, toldN_length, spellN_length]; omega

theorem Part.of_own {w : World} {base : Nat} {v : Value} {l : List Nat} (h : Own w base v l) : ∃ p : Part, v = .slice p.ad p.len p.cap ∧ p.l = l ∧ p.ok w := by
  obtain ⟨ad, cap, hv, hn, _, _, hr⟩ := h.form
  exact ⟨⟨ad, l.length, cap, l⟩, hv, rfl, rfl, hn, hr⟩

theorem spell_at {z s : Int} (n size : Nat) (w : World) (hz : z = n) (hs : s = size) (h6 : size ≤ 6) :
    Calls Try.prog 28 #[.int .i64 z, .int .i64 s] w fun e w' => ∃ p : Part, e = .returned (.slice p.ad p.len p.cap) ∧ Hid (p.l = spellN n size) ∧ Hid (p.ok w') ∧ Below w.heap.size w w' := by
  subst hz hs
  refine (spell_any n size w h6).mono ?_
  rintro e w' ⟨v, rfl, hown, hb⟩
  obtain ⟨p, rfl, h1, h2⟩ := Part.of_own hown
  exact ⟨p, rfl, h1, h2, hb⟩

/-- A join of parts that lie in one new block. -/
theorem join_at (ps : List Part) (w0 : World) (cs : Array Value) (hcs : cs = (ps.map fun p => Value.slice p.ad p.len p.cap).toArray) (m c : Nat) (hm : ps.length = m) (hok : ∀ p ∈ ps, p.ok w0) (htot : (allN ps m).length ≤ 1000000) (hmm : m ≤ 1000) :
    Calls Try.prog 32 #[.slice (some ⟨w0.heap.size, 0, none⟩) m c] (w0.alloc (.cells cs 22)) fun e w' => ∃ p : Part, e = .returned (.slice p.ad p.len p.cap) ∧ Hid (p.l = allN ps m) ∧ Hid (Own w' w0.heap.size (.slice p.ad p.len p.cap) (allN ps m)) ∧ Hid (p.ok w') ∧ Below w0.heap.size w0 w' := by
  have hb0 : Below w0.heap.size w0 (w0.alloc (.cells cs 22)) := (Below.refl _ _).alloc (Nat.le_refl _) _
  refine (join_any w0.heap.size m c ps _ hm (by simp) ?_ ?_ htot hmm).mono ?_
  · intro i p hp
    subst hcs
    have hi : i < ps.length := (List.getElem?_eq_some_iff.1 hp).1
    simp [hp]
  · intro i p hp
    exact (hok p (List.mem_of_getElem? hp)).later hb0
  · rintro e w' ⟨v, rfl, hown, hb⟩
    obtain ⟨p, rfl, h1, h2⟩ := Part.of_own hown
    exact ⟨p, rfl, h1, hown.down (by simp), h2, hb0.trans (hb.mono (by simp))⟩

set_option maxHeartbeats 1000000 in
theorem frame_ok (kind : Nat) (ad : Option Addr) (len cap : Nat) (l : List Nat) (w : World) (hk : kind ≤ 255) (hl : len ≤ 65536) (hp : Part.ok w ⟨ad, len, cap, l⟩) :
    Calls Try.prog 23 #[.int .i64 kind, .slice ad len cap] w fun e w' => ∃ v, e = .returned (.tuple #[v, .int .i64 0]) ∧ Own w' w.heap.size v (frameBs kind l) ∧ Below w.heap.size w w' := by
  have HP : Hid (Part.ok w ⟨ad, len, cap, l⟩) := hp
  clear hp
  go_enter Try.func23, Try.ntmps23
  go_wp2_with fail
  refine (spell_at kind 1 _ rfl rfl (by omega)).mono ?_
  rintro e w1 ⟨p1, rfl, e1, ok1, b1⟩
  go_wp2_with fail
  refine (spell_at len 4 _ rfl rfl (by omega)).mono ?_
  rintro e w2 ⟨p2, rfl, e2, ok2, b2⟩
  go_wp2_with fail
  have b12 : Below w.heap.size w w2 := b1.trans (b2.mono b1.size)
  have E3 : Hid (allN [p1, p2, ⟨ad, len, cap, l⟩] 3 = toldN kind l) := by
    show _ = _
    simp [allN, e1.out, e2.out, toldN, HP.out.1]
  have hkl : Hid (l.length = len) := HP.out.1
  refine (join_at [p1, p2, ⟨ad, len, cap, l⟩] w2 _ rfl 3 3 rfl (by
    intro p hp
    simp at hp
    rcases hp with rfl | rfl | rfl
    · exact ok1.out.later b2
    · exact ok2.out
    · exact HP.out.later b12) (by rw [E3.out, toldN_length, hkl.out]; omega) (by omega)).mono ?_
  rintro e w3 ⟨p3, rfl, e3, -, ok3, b3⟩
  have e3' : Hid (p3.l = toldN kind l) := by show _ = _; rw [e3.out, E3.out]
  have b13 : Below w.heap.size w w3 := b12.trans (b3.mono b12.size)
  have h3l : p3.len ≤ 65541 := by rw [← ok3.out.1, e3'.out, toldN_length, hkl.out]; omega
  clear e1 e2 e3 ok1 ok2 b1 b2 b12 b3 HP E3
  go_wp2_with fail
  refine (crc_any p3.ad p3.len p3.cap p3.l _ ok3.out.1 (by unfold maxLen; omega) ok3.out.2.2).mono ?_
  rintro e w4 ⟨rfl, b4⟩
  have hc := crc_lt p3.l
  go_wp2_with fail
  refine (spell_at (crc p3.l) 4 _ rfl rfl (by omega)).mono ?_
  rintro e w5 ⟨p5, rfl, e5, ok5, b5⟩
  go_wp2_with fail
  have E6 : Hid (allN [p3, p5] 2 = frameBs kind l) := by
    show _ = _
    simp [allN, e3'.out, e5.out, frameBs]
  refine (join_at [p3, p5] w5 _ rfl 2 2 rfl (by
    intro p hp
    simp at hp
    rcases hp with rfl | rfl
    · exact ok3.out.later (b4.trans (b5.mono b4.size))
    · exact ok5.out) (by rw [E6.out, frameBs_length, hkl.out]; omega) (by omega)).mono ?_
  rintro e w6 ⟨p6, rfl, -, own6, -, b6⟩
  have b15 : Below w.heap.size w w5 := (b13.trans (b4.mono b13.size)).trans (b5.mono (Nat.le_trans b13.size b4.size))
  have own7 : Hid (Own w6 w.heap.size (.slice p6.ad p6.len p6.cap) (frameBs kind l)) := by
    have h := own6.out
    rw [E6.out] at h
    exact h.down b15.size
  have b16 : Below w.heap.size w w6 := b15.trans (b6.mono b15.size)
  clear own6 E6 ok3 ok5 e5 e3' b13 b4 b5 b6 b15
  go_wp2
  go_ret2
  exact ⟨_, rfl, own7, b16⟩

theorem frameN_ok (kind : Nat) (l : List Nat) (hk : kind ≤ 255) (hl : l.length ≤ 65536) : frameN kind l = (0, frameBs kind l) := by
  unfold frameN; rw [if_pos (by omega), if_pos hl, Int.toNat_natCast]
theorem frameN_kind (kind : Int) (l : List Nat) (hk : ¬ (0 ≤ kind ∧ kind ≤ 255)) : frameN kind l = (1, []) := by unfold frameN; rw [if_neg hk]
theorem frameN_size (kind : Int) (l : List Nat) (hk : 0 ≤ kind ∧ kind ≤ 255) (hl : ¬ l.length ≤ 65536) : frameN kind l = (6, []) := by unfold frameN; rw [if_pos hk, if_neg hl]

theorem frame_any (kind : Int) (ad : Option Addr) (len cap : Nat) (l : List Nat) (w : World) (hp : Part.ok w ⟨ad, len, cap, l⟩) (hm : len ≤ maxLen) :
    Calls Try.prog 23 #[.int .i64 kind, .slice ad len cap] w fun e w' => ∃ v, e = .returned (.tuple #[v, .int .i64 (frameN kind l).1]) ∧ Own w' w.heap.size v (frameN kind l).2 ∧ Below w.heap.size w w' := by
  have hlen : l.length = len := hp.1
  unfold maxLen at hm
  by_cases hk : 0 ≤ kind ∧ kind ≤ 255
  · by_cases hl : len ≤ 65536
    · obtain ⟨k, rfl⟩ := Int.eq_ofNat_of_zero_le hk.1
      rw [frameN_ok k l (by omega) (by omega)]
      exact frame_ok k ad len cap l w (by omega) hl hp
    · rw [frameN_size kind l hk (by omega)]
      clear hp hlen
      go_enter Try.func23, Try.ntmps23
      go_wp2
      go_ret2
      exact ⟨_, rfl, Own.nil _ _, Below.refl _ _⟩
  · rw [frameN_kind kind l hk]
    clear hp hlen
    by_cases h0 : kind < 0
    · go_enter Try.func23, Try.ntmps23
      go_wp2
      go_ret2
      exact ⟨_, rfl, Own.nil _ _, Below.refl _ _⟩
    · have h1 : 255 < kind := by omega
      go_enter Try.func23, Try.ntmps23
      go_wp2
      go_ret2
      exact ⟨_, rfl, Own.nil _ _, Below.refl _ _⟩
end Go.Proofs.Ythfildanpcmfaaa
