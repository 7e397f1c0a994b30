/- What the document's own Frame (package ref) answers: the same as wire.Frame. -/
import Derived.Test.YtiiepmljcjbflaaGreatFrameN
import Derived.Test.YtiiepmljcjbflaaGreatRefBytes
import Derived.Test.YtiiepmljcjbflaaGreatRefSum
namespace Go.Proofs.YtiiepmljcjbflaaGreat
open Go.RowKit Crcm

set_option maxHeartbeats 2000000 in
theorem refFrame_ok (kind : Nat) (ad : Option Addr) (len cap : Nat) (l : List Nat) (w : World) (hk : kind ≤ 255) (hl : len ≤ 65536) (hp : Part.ok w ⟨ad, len, cap, l⟩) :
    Calls Tryz.prog 61 #[.int .i64 kind, .slice ad len cap] w fun e w' => ∃ v, e = .returned (.tuple #[v, .int .i64 0]) ∧ Own w' w.heap.size v (frameBs kind l) ∧ Below w.heap.size w w' := by
  have HP : Hid (Part.ok w ⟨ad, len, cap, l⟩) := hp
  have HL : Hid (l.length = len) := hp.1
  clear hp
  have b1 : Below w.heap.size w (w.alloc (.cells #[.int .u8 (kind : Int)] 5)) := (Below.refl _ _).alloc (Nat.le_refl _) _
  have o1 : Hid ((w.alloc (.cells #[.int .u8 (kind : Int)] 5)).ownsRow w.heap.size 5 1 (.slice (some ⟨w.heap.size, 0, none⟩) 1 1) 1 ([kind].map bv)) := World.ownsRow_lit w _ 1 (Nat.le_refl _) (by unfold maxLen; omega) rfl
  go_enter Tryz.func61, Tryz.ntmps61
  go_wp2_with fail
  refine (bytes_any len 4 _ (by omega)).mono ?_
  rintro e w2 ⟨v2, rfl, own2, b2⟩
  obtain ⟨a2, c2, rfl, ok2, -⟩ := own2.slice 4 (spellN_length _ _)
  have O2 : Hid (Part.ok w2 ⟨a2, 4, c2, spellN len 4⟩) := ok2
  have b02 : Below w.heap.size w w2 := b1.trans (b2.mono b1.size)
  have o2 : Hid (w2.ownsRow w.heap.size 5 1 (.slice (some ⟨w.heap.size, 0, none⟩) 1 1) 1 ([kind].map bv)) := own_kept o1.out b2
  clear own2 ok2 o1 b2 b1
  have s2 := b02.size
  go_wp2_with (first | (at_builtin; refine app_any rfl (.tmp 18) (.tmp 21) rfl w.heap.size (.slice (some ⟨w.heap.size, 0, none⟩) 1 1) 1 [kind] rfl o2.out a2 4 c2 (spellN len 4) rfl (spellN_length _ _) O2.out.2.1 O2.out.2.2 (by omega) s2 ?_; intro v3 w3 hown3 hg3; have b03 := b02.grown hg3 s2 (by intro k hk; simp [Value.ownBlock] at hk; omega); clear hg3) | (at_builtin; refine app_any rfl (.tmp 22) (.tmp 23) rfl w.heap.size v3 5 ([kind] ++ spellN len 4) rfl hown3 ad len cap l rfl HL.out HP.out.2.1 (HP.out.later b03).2.2 (by omega) b03.size ?_; intro v4 w4 hown4 hg4; have b04 := b03.grown hg4 b03.size (fun k hk => (hown3.lt k hk).1); clear hg4 hown3))
  have E : Hid ([kind] ++ spellN len 4 ++ l = toldN kind l) := by
    show _ = _
    rw [toldN, spell_one kind hk, HL.out]
  have ht : Hid ((toldN kind l).length = 5 + len) := by show _ = _; rw [toldN_length, HL.out]
  have own4 : Own w4 w.heap.size v4 (toldN kind l) := by
    rw [← E.out]
    refine ⟨?_, ?_⟩
    · intro x hx
      simp only [List.mem_append, List.mem_singleton] at hx
      rcases hx with (h | h) | h
      · omega
      · exact spellN_lt _ _ x h
      · exact HP.out.2.2.1 x h
    · rw [E.out, ht.out, ← E.out]; exact hown4
  obtain ⟨a4, c4, rfl, ok4, -⟩ := own4.slice (5 + len) ht.out
  have O4 : Hid (Part.ok w4 ⟨a4, 5 + len, c4, toldN kind l⟩) := ok4
  have W4 : Hid (Own w4 w.heap.size (.slice a4 (5 + len) c4) (toldN kind l)) := own4
  clear hown4 own4 ok4 b02 b03 s2 O2 o2
  refine (refCrc_any a4 (5 + len) c4 (toldN kind l) _ ht.out (by unfold maxLen; omega) O4.out.2.2).mono ?_
  rintro e w5 ⟨rfl, hw5⟩
  obtain rfl := hw5.symm
  have hc := crc_lt (toldN kind l)
  go_wp2_with fail
  refine (bytes_any (crc (toldN kind l)) 4 _ (by omega)).mono ?_
  rintro e w6 ⟨v6, rfl, own6, b6⟩
  obtain ⟨a6, c6, rfl, ok6, -⟩ := own6.slice 4 (spellN_length _ _)
  have O6 : Hid (Part.ok w6 ⟨a6, 4, c6, spellN (crc (toldN kind l)) 4⟩) := ok6
  have W6 : Hid (Own w6 w.heap.size (.slice a4 (5 + len) c4) (toldN kind l)) := W4.out.later b6
  have b06 : Below w.heap.size w w6 := b04.trans (b6.mono b04.size)
  have h6 : w6.ownsRow w.heap.size 5 1 (.slice a4 (5 + len) c4) (5 + len) ((toldN kind l).map bv) := by
    have h := W6.out.2; rw [ht.out] at h; exact h
  clear own6 ok6 O4 W4 b6 b04
  have s6 := b06.size
  go_wp2_with (at_builtin; refine app_any rfl _ _ rfl w.heap.size (.slice a4 (5 + len) c4) (5 + len) (toldN kind l) rfl h6 a6 4 c6 (spellN (crc (toldN kind l)) 4) rfl (spellN_length _ _) O6.out.2.1 O6.out.2.2 (by omega) s6 ?_; intro v7 w7 hown7 hg7; have b07 := b06.grown hg7 s6 (fun k hk => (h6.lt k hk).1); clear hg7 h6)
  go_ret2
  refine ⟨_, rfl, ⟨?_, ?_⟩, b07⟩
  · intro x hx
    rcases List.mem_append.1 hx with h | h
    · exact W6.out.1 x h
    · exact spellN_lt _ _ x h
  · rw [frameBs_length, HL.out]
    rw [show 5 + len + 4 = 9 + len by omega] at hown7
    exact hown7
theorem refFrame_any (kind : Int) (ad : Option Addr) (len cap : Nat) (l : List Nat) (w : World) (hp : Part.ok w ⟨ad, len, cap, l⟩) (hm : len ≤ maxLen) :
    Calls Tryz.prog 61 #[.int .i64 kind, .slice ad len cap] w fun e w' => ∃ v, e = .returned (.tuple #[v, .int .i64 (frameN kind l).1]) ∧ Own w' w.heap.size v (frameN kind l).2 ∧ Below w.heap.size w w' := by
  have hlen : l.length = len := hp.1
  unfold maxLen at hm
  by_cases hk : 0 ≤ kind ∧ kind ≤ 255
  · by_cases hl : len ≤ 65536
    · obtain ⟨k, rfl⟩ := Int.eq_ofNat_of_zero_le hk.1
      rw [frameN_ok k l (by omega) (by omega)]
      exact refFrame_ok k ad len cap l w (by omega) hl hp
    · rw [frameN_size kind l hk (by omega)]
      clear hp hlen
      go_enter Tryz.func61, Tryz.ntmps61
      go_wp2
      go_ret2
      exact ⟨_, rfl, Own.nil _ _, Below.refl _ _⟩
  · rw [frameN_kind kind l hk]
    clear hp hlen
    by_cases h0 : kind < 0
    · go_enter Tryz.func61, Tryz.ntmps61
      go_wp2
      go_ret2
      exact ⟨_, rfl, Own.nil _ _, Below.refl _ _⟩
    · have h1 : 255 < kind := by omega
      go_enter Tryz.func61, Tryz.ntmps61
      go_wp2
      go_ret2
      exact ⟨_, rfl, Own.nil _ _, Below.refl _ _⟩
end Go.Proofs.YtiiepmljcjbflaaGreat
