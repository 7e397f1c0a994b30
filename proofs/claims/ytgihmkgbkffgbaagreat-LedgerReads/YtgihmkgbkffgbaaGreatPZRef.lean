/- What the document's own Bytes (package ref) answers: a number's bytes, the lowest first, in new memory. What the document's own Text (package ref) answers: the same as wire.Text. What the document's own Crc (package ref) answers: the sum of the bytes that it is handed, bit by bit; it changes nothing. What the document's own Frame (package ref) answers: the same as wire.Frame. -/
import Derived.Test.YtgihmkgbkffgbaaGreatPZMath
import Derived.Test.YtgihmkgbkffgbaaGreatPZSum
namespace Go.Proofs.YtgihmkgbkffgbaaGreat
open Go.RowKit

set_option maxHeartbeats 400000 in
theorem bytes_any (n size : Nat) (w : World) (h6 : size ≤ 6) :
    Calls Tryz.prog 44 #[.int .i64 n, .int .i64 size] w fun e w' => ∃ v, e = .returned v ∧ Own w' w.heap.size v (spellN n size) ∧ Below w.heap.size w w' := by
  obtain ⟨i0, hi, hz0, hz1, hz2⟩ := info_parts Tryz.info5
  go_enter Tryz.func44, Tryz.ntmps44
  go_wp2
  go_loopw [5, 6] (fun v i wr => ∃ k : Nat, k ≤ size ∧ i = .int .i64 k ∧ wr.ownsRow w.heap.size 5 1 v k ((spellN n k).map bv) ∧ Below w.heap.size w wr) (fun _ i _ => size - (intOf i).toNat)
  case atStart => exact ⟨0, Nat.zero_le _, rfl, World.ownsRow_nil _ _ _ _, Below.refl _ _⟩
  case round =>
    obtain ⟨k, hk, rfl, hownk, hbk⟩ := hrel
    by_cases hlt : k < size
    · have hsz := hbk.size
      go_wp2_with (at_builtin; refine wpList_append_own _ rfl _ _ 22 rfl w.heap.size 5 i0 (.int .u8 0) 1 1 Tryz.underlying22 hi hz0 hz1 hz2 rfl (by decide) _ _ _ rfl (hownk.alloc _) ⟨wr.heap.size, 0, none⟩ 1 1 [bv (n / 2 ^ (8 * k) % 256)] rfl rfl ?c1 ?c2 ?c3 ?c4 ?c5 ?_)
      case c1 => exact cell_one_new _ _ _
      case c2 => intro u hu; simp at hu; subst hu; rfl
      case c3 => unfold maxLen; omega
      case c4 => omega
      case c5 => simp; omega
      intro v' w1 hown' hgrow _
      have hb1 := (hbk.alloc hsz (.cells #[Value.int IntKind.u8 ((n : Int) / 2 ^ (8 * k) % 256)] 5)).grown hgrow (by simp; omega) (fun j hj => (hownk.lt j hj).1)
      clear hgrow hownk
      go_wp2
      go_roundw
      case rel => exact ⟨k + 1, by omega, by go_num, by simpa [spellN] using hown', hb1⟩
      case measure => simp [intOf]; omega
    · obtain rfl : k = size := by omega
      go_wp2
      go_ret
      exact ⟨_, rfl, ⟨spellN_lt n k, by rw [spellN_length]; exact hownk⟩, hbk⟩
end Go.Proofs.YtgihmkgbkffgbaaGreat
namespace Go.Proofs.YtgihmkgbkffgbaaGreat
open Go.RowKit

set_option maxHeartbeats 1000000 in
theorem refText_any (s : ByteArray) (w : World) (hs : s.size ≤ maxLen) :
    Calls Tryz.prog 79 #[.string s] w fun e w' => ∃ v, e = .returned (.tuple #[v, .int .i64 (textN s).1]) ∧ Own w' w.heap.size v (textN s).2 ∧ Below w.heap.size w w' := by
  unfold maxLen at hs
  by_cases h : s.size ≤ 65535
  · rw [textN_ok s h]
    go_enter Tryz.func79, Tryz.ntmps79
    go_wp2_with fail
    refine (bytes_any s.size 2 _ (by omega)).mono ?_
    rintro e w1 ⟨v1, rfl, own1, b1⟩
    have O1 : Hid (Own w1 w.heap.size v1 (spellN s.size 2)) := own1
    clear own1
    have h2 : w1.ownsRow w.heap.size 5 1 v1 2 ((spellN s.size 2).map bv) := by
      have h := O1.out.2; rw [spellN_length] at h; exact h
    have hsz := b1.size
    go_wp2_with (at_builtin; refine app_str rfl _ _ rfl w.heap.size v1 2 (spellN s.size 2) rfl h2 (by omega) s rfl (by omega) hsz ?_; intro v2 w2 hown2 hg2; have b2 := b1.grown hg2 hsz (fun k hk => (h2.lt k hk).1); clear hg2 h2)
    go_ret2
    exact ⟨_, rfl, ⟨by
      intro x hx
      rcases List.mem_append.1 hx with h | h
      · exact spellN_lt _ _ x h
      · exact sbytes_lt s x h, by rw [List.length_append, spellN_length, sbytes_length]; exact hown2⟩, b2⟩
  · rw [textN_no s h]
    go_enter Tryz.func79, Tryz.ntmps79
    go_wp2
    go_ret2
    exact ⟨_, rfl, Own.nil _ _, Below.refl _ _⟩
end Go.Proofs.YtgihmkgbkffgbaaGreat
namespace Go.Proofs.YtgihmkgbkffgbaaGreat
open Go.RowKit Crcm

/-- What one bit does to the two registers. -/
theorem bit_eq (r x : Nat) (hr : r < 4294967296) (hx : x < 256) :
    ∃ s p r2 x2 r3 : Nat, bits .xor .u32 (r : Int) (x : Int) = (s : Int) ∧ bits .and .u32 (s : Int) 1 = (p : Int) ∧ (r : Int) / 2 = (r2 : Int) ∧ (x : Int) / 2 = (x2 : Int) ∧ bits .xor .u32 (r2 : Int) 2197175160 = (r3 : Int) ∧
      (p = 1 ∨ p = 0) ∧ x2 < 256 ∧ r2 < 4294967296 ∧ r3 < 4294967296 ∧ (p = 1 → r3 ^^^ x2 = stp (r ^^^ x)) ∧ (p = 0 → r2 ^^^ x2 = stp (r ^^^ x)) := by
  have hs : r ^^^ x < 4294967296 := Nat.xor_lt_two_pow (n := 32) hr (by omega)
  have e3 : (r : Int) / 2 = ((r / 2 : Nat) : Int) := by omega
  refine ⟨r ^^^ x, (r ^^^ x) % 2, r / 2, x / 2, (r / 2) ^^^ poly, u32_xor_nat r x hr (by omega), and1 _ hs, e3, by omega, ?_, by omega, by omega, by omega, Nat.xor_lt_two_pow (n := 32) (by omega) poly_lt, ?_, ?_⟩
  · rw [← e3]; exact xorp r hr
  · intro h; rw [← bit_step, if_pos h]
  · intro h; rw [← bit_step, if_neg (by omega)]
set_option maxHeartbeats 400000 in
theorem refCrc_any (ad : Option Addr) (len cap : Nat) (l : List Nat) (w : World) (hlen : l.length = len) (hl : len ≤ maxLen) (hrow : Row w ad l) :
    Calls Tryz.prog 40 #[.slice ad len cap] w fun e w' => e = .returned (.int .u32 (crc l : Nat)) ∧ w' = w := by
  unfold maxLen at hl
  go_enter Tryz.func40, Tryz.ntmps40
  go_wp2
  go_loop [3, 4] (fun s i => ∃ k : Nat, k ≤ len ∧ i = .int .i64 k ∧ s = .int .u32 (reg 4294967295 (l.take k) : Nat)) (fun _ i => len - (intOf i).toNat)
  case atStart => exact ⟨0, Nat.zero_le _, rfl, rfl⟩
  case round =>
    obtain ⟨k, hk, rfl, rfl⟩ := hrel
    have hr : reg 4294967295 (l.take k) < 4294967296 := reg_lt _ _ (by omega) (take_mem hrow.1 k)
    by_cases hlt : k < len
    · obtain ⟨b, off, rfl, _, hc⟩ := hrow.2.resolve_left (by intro h; subst h; simp at hlen; omega)
      have hx := getD_lt hrow.1 k
      have hck := hc k (by omega)
      have HS : Hid (reg 4294967295 (l.take (k + 1)) = stps 8 (reg 4294967295 (l.take k) ^^^ l.getD k 0)) := by
        show _ = _
        rw [take_snoc l k (by omega), reg_snoc]
      clear hc hrow
      generalize l.getD k 0 = x at *
      generalize reg 4294967295 (l.take k) = r at *
      go_wp2
      go_loop [3, 5, 6] (fun s y i => ∃ j rr xx : Nat, j ≤ 8 ∧ i = .int .i64 j ∧ s = .int .u32 rr ∧ y = .int .u32 xx ∧ rr < 4294967296 ∧ xx < 256 ∧ Hid (rr ^^^ xx = stps j (r ^^^ x)) ∧ Hid (xx = x / 2 ^ j)) (fun _ _ i => 8 - (intOf i).toNat)
      case atStart => exact ⟨0, r, x, by omega, rfl, rfl, rfl, hr, hx, rfl, by show _ = _; simp⟩
      case round =>
        obtain ⟨j, rr, xx, hj, rfl, rfl, rfl, hrr, hxx, Hs, Hx⟩ := hrel
        by_cases hjl : j < 8
        · obtain ⟨s, p, r2, x2, r3, e1, e2, e3, e4, e5, hp, h2, h3, h4, h5, h6⟩ := bit_eq rr xx hrr hxx
          have H5 : Hid (p = 1 → r3 ^^^ x2 = stps (j + 1) (r ^^^ x)) := by intro h; rw [stps_succ', ← Hs.out]; exact h5 h
          have H6 : Hid (p = 0 → r2 ^^^ x2 = stps (j + 1) (r ^^^ x)) := by intro h; rw [stps_succ', ← Hs.out]; exact h6 h
          have HX : Hid (x2 = x / 2 ^ (j + 1)) := by
            show _ = _
            have : x2 = xx / 2 := by omega
            rw [this, Hx.out, Nat.div_div_eq_div_mul, Nat.pow_succ]
          clear h5 h6 Hs Hx
          rcases hp with rfl | rfl
          · go_wp2
            go_round
            case rel => exact ⟨j + 1, r3, x2, by omega, by go_num, rfl, rfl, h4, h2, H5.out rfl, HX⟩
            case measure => simp [intOf]; omega
          · go_wp2
            go_round
            case rel => exact ⟨j + 1, r2, x2, by omega, by go_num, rfl, rfl, h3, h2, H6.out rfl, HX⟩
            case measure => simp [intOf]; omega
        · have hx0 : xx = 0 := by
            rw [Hx.out, show j = 8 by omega]; omega
          have E : Hid (reg 4294967295 (l.take (k + 1)) = rr) := by
            show _ = _
            have e := Hs.out
            rw [hx0, Nat.xor_zero, show j = 8 by omega] at e
            rw [HS.out]
            exact e.symm
          clear hx0 HS Hs Hx
          go_wp2
          go_round
          case rel => exact ⟨k + 1, by omega, by go_num, by rw [E.out]⟩
          case measure => simp [intOf]; omega
    · have hcr : Hid (crc l = 4294967295 - reg 4294967295 (l.take k)) := by
        show _ = _
        rw [List.take_of_length_le (by omega)]; rfl
      generalize reg 4294967295 (l.take k) = r at *
      go_wp2
      go_ret
      exact ⟨ret_int (by rw [hcr.out]; exact not_eq r hr), rfl⟩
end Go.Proofs.YtgihmkgbkffgbaaGreat
namespace Go.Proofs.YtgihmkgbkffgbaaGreat
open Go.RowKit Crcm

set_option maxHeartbeats 2000000 in
theorem refFrame_ok (kind : Nat) (ad : Option Addr) (len cap : Nat) (l : List Nat) (w : World) (hk : kind ≤ 255) (hl : len ≤ 65536) (hp : Part.ok w ⟨ad, len, cap, l⟩) :
    Calls Tryz.prog 35 #[.int .i64 kind, .slice ad len cap] w fun e w' => ∃ v, e = .returned (.tuple #[v, .int .i64 0]) ∧ Own w' w.heap.size v (frameBs kind l) ∧ Below w.heap.size w w' := by
  have HP : Hid (Part.ok w ⟨ad, len, cap, l⟩) := hp
  have HL : Hid (l.length = len) := hp.1
  clear hp
  have b1 : Below w.heap.size w (w.alloc (.cells #[.int .u8 (kind : Int)] 5)) := (Below.refl _ _).alloc (Nat.le_refl _) _
  have o1 : Hid ((w.alloc (.cells #[.int .u8 (kind : Int)] 5)).ownsRow w.heap.size 5 1 (.slice (some ⟨w.heap.size, 0, none⟩) 1 1) 1 ([kind].map bv)) := World.ownsRow_lit w _ 1 (Nat.le_refl _) (by unfold maxLen; omega) rfl
  go_enter Tryz.func35, Tryz.ntmps35
  go_wp2_with fail
  refine (bytes_any len 4 _ (by omega)).mono ?_
  rintro e w2 ⟨v2, rfl, own2, b2⟩
  obtain ⟨a2, c2, rfl, ok2, -⟩ := own2.slice 4 (spellN_length _ _)
  have O2 : Hid (Part.ok w2 ⟨a2, 4, c2, spellN len 4⟩) := ok2
  have b02 : Below w.heap.size w w2 := b1.trans (b2.mono b1.size)
  have o2 : Hid (w2.ownsRow w.heap.size 5 1 (.slice (some ⟨w.heap.size, 0, none⟩) 1 1) 1 ([kind].map bv)) := own_kept o1.out b2
  clear own2 ok2 o1 b2 b1
  have s2 := b02.size
  go_wp2_with (first | (at_builtin; refine app_any rfl (.tmp 18) (.tmp 21) rfl w.heap.size (.slice (some ⟨w.heap.size, 0, none⟩) 1 1) 1 [kind] rfl o2.out a2 4 c2 (spellN len 4) rfl (spellN_length _ _) O2.out.2.1 O2.out.2.2 (by omega) s2 ?_; intro v3 w3 hown3 hg3; have b03 := b02.grown hg3 s2 (by intro k hk; simp [Value.ownBlock] at hk; omega); clear hg3) | (at_builtin; refine app_any rfl (.tmp 22) (.tmp 23) rfl w.heap.size v3 5 ([kind] ++ spellN len 4) rfl hown3 ad len cap l rfl HL.out HP.out.2.1 (HP.out.later b03).2.2 (by omega) b03.size ?_; intro v4 w4 hown4 hg4; have b04 := b03.grown hg4 b03.size (fun k hk => (hown3.lt k hk).1); clear hg4 hown3))
  have E : Hid ([kind] ++ spellN len 4 ++ l = toldN kind l) := by
    show _ = _
    rw [toldN, spell_one kind hk, HL.out]
  have ht : Hid ((toldN kind l).length = 5 + len) := by show _ = _; rw [toldN_length, HL.out]
  have own4 : Own w4 w.heap.size v4 (toldN kind l) := by
    rw [← E.out]
    refine ⟨?_, ?_⟩
    · intro x hx
      simp only [List.mem_append, List.mem_singleton] at hx
      rcases hx with (h | h) | h
      · omega
      · exact spellN_lt _ _ x h
      · exact HP.out.2.2.1 x h
    · rw [E.out, ht.out, ← E.out]; exact hown4
  obtain ⟨a4, c4, rfl, ok4, -⟩ := own4.slice (5 + len) ht.out
  have O4 : Hid (Part.ok w4 ⟨a4, 5 + len, c4, toldN kind l⟩) := ok4
  have W4 : Hid (Own w4 w.heap.size (.slice a4 (5 + len) c4) (toldN kind l)) := own4
  clear hown4 own4 ok4 b02 b03 s2 O2 o2
  refine (refCrc_any a4 (5 + len) c4 (toldN kind l) _ ht.out (by unfold maxLen; omega) O4.out.2.2).mono ?_
  rintro e w5 ⟨rfl, hw5⟩
  obtain rfl := hw5.symm
  have hc := crc_lt (toldN kind l)
  go_wp2_with fail
  refine (bytes_any (crc (toldN kind l)) 4 _ (by omega)).mono ?_
  rintro e w6 ⟨v6, rfl, own6, b6⟩
  obtain ⟨a6, c6, rfl, ok6, -⟩ := own6.slice 4 (spellN_length _ _)
  have O6 : Hid (Part.ok w6 ⟨a6, 4, c6, spellN (crc (toldN kind l)) 4⟩) := ok6
  have W6 : Hid (Own w6 w.heap.size (.slice a4 (5 + len) c4) (toldN kind l)) := W4.out.later b6
  have b06 : Below w.heap.size w w6 := b04.trans (b6.mono b04.size)
  have h6 : w6.ownsRow w.heap.size 5 1 (.slice a4 (5 + len) c4) (5 + len) ((toldN kind l).map bv) := by
    have h := W6.out.2; rw [ht.out] at h; exact h
  clear own6 ok6 O4 W4 b6 b04
  have s6 := b06.size
  go_wp2_with (at_builtin; refine app_any rfl _ _ rfl w.heap.size (.slice a4 (5 + len) c4) (5 + len) (toldN kind l) rfl h6 a6 4 c6 (spellN (crc (toldN kind l)) 4) rfl (spellN_length _ _) O6.out.2.1 O6.out.2.2 (by omega) s6 ?_; intro v7 w7 hown7 hg7; have b07 := b06.grown hg7 s6 (fun k hk => (h6.lt k hk).1); clear hg7 h6)
  go_ret2
  refine ⟨_, rfl, ⟨?_, ?_⟩, b07⟩
  · intro x hx
    rcases List.mem_append.1 hx with h | h
    · exact W6.out.1 x h
    · exact spellN_lt _ _ x h
  · rw [frameBs_length, HL.out]
    rw [show 5 + len + 4 = 9 + len by omega] at hown7
    exact hown7
theorem refFrame_any (kind : Int) (ad : Option Addr) (len cap : Nat) (l : List Nat) (w : World) (hp : Part.ok w ⟨ad, len, cap, l⟩) (hm : len ≤ maxLen) :
    Calls Tryz.prog 35 #[.int .i64 kind, .slice ad len cap] w fun e w' => ∃ v, e = .returned (.tuple #[v, .int .i64 (frameN kind l).1]) ∧ Own w' w.heap.size v (frameN kind l).2 ∧ Below w.heap.size w w' := by
  have hlen : l.length = len := hp.1
  unfold maxLen at hm
  by_cases hk : 0 ≤ kind ∧ kind ≤ 255
  · by_cases hl : len ≤ 65536
    · obtain ⟨k, rfl⟩ := Int.eq_ofNat_of_zero_le hk.1
      rw [frameN_ok k l (by omega) (by omega)]
      exact refFrame_ok k ad len cap l w (by omega) hl hp
    · rw [frameN_size kind l hk (by omega)]
      clear hp hlen
      go_enter Tryz.func35, Tryz.ntmps35
      go_wp2
      go_ret2
      exact ⟨_, rfl, Own.nil _ _, Below.refl _ _⟩
  · rw [frameN_kind kind l hk]
    clear hp hlen
    by_cases h0 : kind < 0
    · go_enter Tryz.func35, Tryz.ntmps35
      go_wp2
      go_ret2
      exact ⟨_, rfl, Own.nil _ _, Below.refl _ _⟩
    · have h1 : 255 < kind := by omega
      go_enter Tryz.func35, Tryz.ntmps35
      go_wp2
      go_ret2
      exact ⟨_, rfl, Own.nil _ _, Below.refl _ _⟩
end Go.Proofs.YtgihmkgbkffgbaaGreat
