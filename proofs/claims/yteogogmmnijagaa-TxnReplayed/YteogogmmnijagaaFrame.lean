/- What the Go function wire.Frame answers. -/
import Derived.Test.YteogogmmnijagaaPYMath
import Derived.Test.YteogogmmnijagaaPYJoin
import Derived.Test.YteogogmmnijagaaPYSum
namespace Go.Proofs.Yteogogmmnijagaa
open Go.RowKit Crcm

set_option maxHeartbeats 1000000 in
theorem frame_ok (kind : Nat) (ad : Option Addr) (len cap : Nat) (l : List Nat) (w : World) (hk : kind ≤ 255) (hl : len ≤ 65536) (hp : Part.ok w ⟨ad, len, cap, l⟩) :
    Calls Try.prog 40 #[.int .i64 kind, .slice ad len cap] w fun e w' => ∃ v, e = .returned (.tuple #[v, .int .i64 0]) ∧ Own w' w.heap.size v (frameBs kind l) ∧ Below w.heap.size w w' := by
  have HP : Hid (Part.ok w ⟨ad, len, cap, l⟩) := hp
  clear hp
  go_enter Try.func40, Try.ntmps40
  go_wp2_with fail
  refine (spell_at kind 1 _ rfl rfl (by omega)).mono ?_
  rintro e w1 ⟨p1, rfl, e1, ok1, b1⟩
  go_wp2_with fail
  refine (spell_at len 4 _ rfl rfl (by omega)).mono ?_
  rintro e w2 ⟨p2, rfl, e2, ok2, b2⟩
  go_wp2_with fail
  have b12 : Below w.heap.size w w2 := b1.trans (b2.mono b1.size)
  have E3 : Hid (allN [p1, p2, ⟨ad, len, cap, l⟩] 3 = toldN kind l) := by
    show _ = _
    simp [allN, e1.out, e2.out, toldN, HP.out.1]
  have hkl : Hid (l.length = len) := HP.out.1
  refine (join_at [p1, p2, ⟨ad, len, cap, l⟩] w2 _ rfl 3 3 rfl (by
    intro p hp
    simp at hp
    rcases hp with rfl | rfl | rfl
    · exact ok1.out.later b2
    · exact ok2.out
    · exact HP.out.later b12) (by rw [E3.out, toldN_length, hkl.out]; omega) (by omega)).mono ?_
  rintro e w3 ⟨p3, rfl, e3, -, ok3, b3⟩
  have e3' : Hid (p3.l = toldN kind l) := by show _ = _; rw [e3.out, E3.out]
  have b13 : Below w.heap.size w w3 := b12.trans (b3.mono b12.size)
  have h3l : p3.len ≤ 65541 := by rw [← ok3.out.1, e3'.out, toldN_length, hkl.out]; omega
  clear e1 e2 e3 ok1 ok2 b1 b2 b12 b3 HP E3
  go_wp2_with fail
  refine (crc_any p3.ad p3.len p3.cap p3.l _ ok3.out.1 (by unfold maxLen; omega) ok3.out.2.2).mono ?_
  rintro e w4 ⟨rfl, b4⟩
  have hc := crc_lt p3.l
  go_wp2_with fail
  refine (spell_at (crc p3.l) 4 _ rfl rfl (by omega)).mono ?_
  rintro e w5 ⟨p5, rfl, e5, ok5, b5⟩
  go_wp2_with fail
  have E6 : Hid (allN [p3, p5] 2 = frameBs kind l) := by
    show _ = _
    simp [allN, e3'.out, e5.out, frameBs]
  refine (join_at [p3, p5] w5 _ rfl 2 2 rfl (by
    intro p hp
    simp at hp
    rcases hp with rfl | rfl
    · exact ok3.out.later (b4.trans (b5.mono b4.size))
    · exact ok5.out) (by rw [E6.out, frameBs_length, hkl.out]; omega) (by omega)).mono ?_
  rintro e w6 ⟨p6, rfl, -, own6, -, b6⟩
  have b15 : Below w.heap.size w w5 := (b13.trans (b4.mono b13.size)).trans (b5.mono (Nat.le_trans b13.size b4.size))
  have own7 : Hid (Own w6 w.heap.size (.slice p6.ad p6.len p6.cap) (frameBs kind l)) := by
    have h := own6.out
    rw [E6.out] at h
    exact h.down b15.size
  have b16 : Below w.heap.size w w6 := b15.trans (b6.mono b15.size)
  clear own6 E6 ok3 ok5 e5 e3' b13 b4 b5 b6 b15
  go_wp2
  go_ret2
  exact ⟨_, rfl, own7, b16⟩
theorem frame_any (kind : Int) (ad : Option Addr) (len cap : Nat) (l : List Nat) (w : World) (hp : Part.ok w ⟨ad, len, cap, l⟩) (hm : len ≤ maxLen) :
    Calls Try.prog 40 #[.int .i64 kind, .slice ad len cap] w fun e w' => ∃ v, e = .returned (.tuple #[v, .int .i64 (frameN kind l).1]) ∧ Own w' w.heap.size v (frameN kind l).2 ∧ Below w.heap.size w w' := by
  have hlen : l.length = len := hp.1
  unfold maxLen at hm
  by_cases hk : 0 ≤ kind ∧ kind ≤ 255
  · by_cases hl : len ≤ 65536
    · obtain ⟨k, rfl⟩ := Int.eq_ofNat_of_zero_le hk.1
      rw [frameN_ok k l (by omega) (by omega)]
      exact frame_ok k ad len cap l w (by omega) hl hp
    · rw [frameN_size kind l hk (by omega)]
      clear hp hlen
      go_enter Try.func40, Try.ntmps40
      go_wp2
      go_ret2
      exact ⟨_, rfl, Own.nil _ _, Below.refl _ _⟩
  · rw [frameN_kind kind l hk]
    clear hp hlen
    by_cases h0 : kind < 0
    · go_enter Try.func40, Try.ntmps40
      go_wp2
      go_ret2
      exact ⟨_, rfl, Own.nil _ _, Below.refl _ _⟩
    · have h1 : 255 < kind := by omega
      go_enter Try.func40, Try.ntmps40
      go_wp2
      go_ret2
      exact ⟨_, rfl, Own.nil _ _, Below.refl _ _⟩
end Go.Proofs.Yteogogmmnijagaa
