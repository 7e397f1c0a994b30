/- What the document's own Bytes (package ref) answers: a number's bytes, the lowest first, in new memory. What the document's own Get (package ref) answers. What the document's own Frame (package ref) answers: the same as wire.Frame. What the document's own Unframe (package ref) answers: the same as wire.Unframe. -/
import Derived.Test.YtmiibakbcogolaaGreatPMath
import Derived.Test.YtmiibakbcogolaaGreatPSum
namespace Go.Proofs.YtmiibakbcogolaaGreat
open Go.RowKit

set_option maxHeartbeats 400000 in
theorem bytes_any (n size : Nat) (w : World) (h6 : size ≤ 6) :
    Calls Tryz.prog 74 #[.int .i64 n, .int .i64 size] w fun e w' => ∃ v, e = .returned v ∧ Own w' w.heap.size v (spellN n size) ∧ Below w.heap.size w w' := by
  obtain ⟨i0, hi, hz0, hz1, hz2⟩ := info_parts Tryz.info5
  go_enter Tryz.func74, Tryz.ntmps74
  go_wp2
  go_loopw [5, 6] (fun v i wr => ∃ k : Nat, k ≤ size ∧ i = .int .i64 k ∧ wr.ownsRow w.heap.size 5 1 v k ((spellN n k).map bv) ∧ Below w.heap.size w wr) (fun _ i _ => size - (intOf i).toNat)
  case atStart => exact ⟨0, Nat.zero_le _, rfl, World.ownsRow_nil _ _ _ _, Below.refl _ _⟩
  case round =>
    obtain ⟨k, hk, rfl, hownk, hbk⟩ := hrel
    by_cases hlt : k < size
    · have hsz := hbk.size
      go_wp2_with (at_builtin; refine wpList_append_own _ rfl _ _ 22 rfl w.heap.size 5 i0 (.int .u8 0) 1 1 Tryz.underlying22 hi hz0 hz1 hz2 rfl (by decide) _ _ _ rfl (hownk.alloc _) ⟨wr.heap.size, 0, none⟩ 1 1 [bv (n / 2 ^ (8 * k) % 256)] rfl rfl ?c1 ?c2 ?c3 ?c4 ?c5 ?_)
      case c1 => exact cell_one_new _ _ _
      case c2 => intro u hu; simp at hu; subst hu; rfl
      case c3 => unfold maxLen; omega
      case c4 => omega
      case c5 => simp; omega
      intro v' w1 hown' hgrow _
      have hb1 := (hbk.alloc hsz (.cells #[Value.int IntKind.u8 ((n : Int) / 2 ^ (8 * k) % 256)] 5)).grown hgrow (by simp; omega) (fun j hj => (hownk.lt j hj).1)
      clear hgrow hownk
      go_wp2
      go_roundw
      case rel => exact ⟨k + 1, by omega, by go_num, by simpa [spellN] using hown', hb1⟩
      case measure => simp [intOf]; omega
    · obtain rfl : k = size := by omega
      go_wp2
      go_ret
      exact ⟨_, rfl, ⟨spellN_lt n k, by rw [spellN_length]; exact hownk⟩, hbk⟩
end Go.Proofs.YtmiibakbcogolaaGreat
namespace Go.Proofs.YtmiibakbcogolaaGreat
open Go.RowKit

set_option maxHeartbeats 400000 in
theorem refGet_ok (ad : Option Addr) (len cap : Nat) (l : List Nat) (p s : Nat) (w : World) (hp : Part.ok w ⟨ad, len, cap, l⟩) (hl : len ≤ 1000000000000000) (h1 : 1 ≤ s) (h6 : s ≤ 6) (hps : p + s ≤ len) :
    Calls Tryz.prog 79 #[.slice ad len cap, .int .i64 p, .int .i64 s] w fun e w' => e = .returned (.tuple #[.int .i64 (valN ((l.drop p).take s) : Nat), .int .i64 ((p + s : Nat) : Int), .int .i64 0]) ∧ w' = w := by
  obtain ⟨b, off, rfl, hb, hc⟩ := hp.cells (by omega)
  have HC : Hid (∀ i, i < len → w.cell? ⟨b, off + i, none⟩ = some (.int .u8 (l.getD i 0 : Nat))) := hc
  have HB : Hid (∀ x ∈ l, x < 256) := hp.2.2.1
  have HL : Hid (l.length = len) := hp.1
  clear hp hc
  go_enter Tryz.func79, Tryz.ntmps79
  go_wp2
  go_loop [9, 10] (fun n i => ∃ k : Nat, k ≤ s ∧ i = .int .i64 k ∧ n = .int .i64 (valN ((l.drop p).take k) : Nat)) (fun _ i => s - (intOf i).toNat)
  case atStart => exact ⟨0, Nat.zero_le _, rfl, rfl⟩
  case round =>
    obtain ⟨k, hk, rfl, rfl⟩ := hrel
    by_cases hlt : k < s
    · have hck := HC.out (p + k) (by omega)
      have hx := getD_lt HB.out (p + k)
      have HS : Hid (wrap64 (((valN ((l.drop p).take k) : Nat) : Int) + wrap64 ((l.getD (p + k) 0 : Int) * 2 ^ (8 * k))) = ((valN ((l.drop p).take (k + 1)) : Nat) : Int)) := by
        show _ = _
        rw [drop_take_snoc l p k (by rw [HL.out]; omega)]
        exact add_step _ _ k (drop_take_lt HB.out p k) hx (drop_take_length l p k (by rw [HL.out]; omega)) (by omega)
      generalize l.getD (p + k) 0 = x at *
      go_wp2
      go_round
      case rel => exact ⟨k + 1, by omega, by go_num, val_int (HS.out)⟩
      case measure => simp [intOf]; omega
    · obtain rfl : k = s := by omega
      go_wp2
      go_ret3
      exact ⟨rfl, rfl⟩
set_option maxHeartbeats 400000 in
theorem refGet_any (ad : Option Addr) (len cap : Nat) (l : List Nat) (p s : Int) (w : World) (hp : Part.ok w ⟨ad, len, cap, l⟩) (hl : len ≤ 1000000000000000) (hp2 : p ≤ 9223372036854775807) :
    Calls Tryz.prog 79 #[.slice ad len cap, .int .i64 p, .int .i64 s] w fun e w' => e = .returned (.tuple #[.int .i64 (getN l p s).1, .int .i64 (getN l p s).2.1, .int .i64 (getN l p s).2.2]) ∧ w' = w := by
  have hlen : l.length = len := hp.1
  by_cases h : 1 ≤ s ∧ s ≤ 6 ∧ 0 ≤ p
  · by_cases h2 : p + s ≤ len
    · obtain ⟨k, rfl⟩ := Int.eq_ofNat_of_zero_le (show 0 ≤ s by omega)
      obtain ⟨q, rfl⟩ := Int.eq_ofNat_of_zero_le h.2.2
      rw [getN_ok l q k (by omega) (by omega)]
      exact refGet_ok ad len cap l q k w hp hl (by omega) (by omega) (by omega)
    · rw [getN_end l p s h (by omega)]
      clear hp hlen
      by_cases h3 : (len : Int) < p
      · go_enter Tryz.func79, Tryz.ntmps79
        go_wp2
        go_ret3
        exact ⟨rfl, rfl⟩
      · obtain ⟨h4, h5, h6⟩ := h
        go_enter Tryz.func79, Tryz.ntmps79
        go_wp2
        go_ret3
        exact ⟨rfl, rfl⟩
  · rw [getN_arg l p s h]
    clear hp hlen
    by_cases h1 : s < 1
    · go_enter Tryz.func79, Tryz.ntmps79
      go_wp2
      go_ret3
      exact ⟨rfl, rfl⟩
    · by_cases h6 : 6 < s
      · clear h
        go_enter Tryz.func79, Tryz.ntmps79
        go_wp2
        go_ret3
        exact ⟨rfl, rfl⟩
      · have h7 : p < 0 := by omega
        clear h
        go_enter Tryz.func79, Tryz.ntmps79
        go_wp2
        go_ret3
        exact ⟨rfl, rfl⟩
end Go.Proofs.YtmiibakbcogolaaGreat
namespace Go.Proofs.YtmiibakbcogolaaGreat
open Go.RowKit Crcm

set_option maxHeartbeats 2000000 in
theorem refFrame_ok (kind : Nat) (ad : Option Addr) (len cap : Nat) (l : List Nat) (w : World) (hk : kind ≤ 255) (hl : len ≤ 65536) (hp : Part.ok w ⟨ad, len, cap, l⟩) :
    Calls Tryz.prog 40 #[.int .i64 kind, .slice ad len cap] w fun e w' => ∃ v, e = .returned (.tuple #[v, .int .i64 0]) ∧ Own w' w.heap.size v (frameBs kind l) ∧ Below w.heap.size w w' := by
  have HP : Hid (Part.ok w ⟨ad, len, cap, l⟩) := hp
  have HL : Hid (l.length = len) := hp.1
  clear hp
  have b1 : Below w.heap.size w (w.alloc (.cells #[.int .u8 (kind : Int)] 5)) := (Below.refl _ _).alloc (Nat.le_refl _) _
  have o1 : Hid ((w.alloc (.cells #[.int .u8 (kind : Int)] 5)).ownsRow w.heap.size 5 1 (.slice (some ⟨w.heap.size, 0, none⟩) 1 1) 1 ([kind].map bv)) := World.ownsRow_lit w _ 1 (Nat.le_refl _) (by unfold maxLen; omega) rfl
  go_enter Tryz.func40, Tryz.ntmps40
  go_wp2_with fail
  refine (bytes_any len 4 _ (by omega)).mono ?_
  rintro e w2 ⟨v2, rfl, own2, b2⟩
  obtain ⟨a2, c2, rfl, ok2, -⟩ := own2.slice 4 (spellN_length _ _)
  have O2 : Hid (Part.ok w2 ⟨a2, 4, c2, spellN len 4⟩) := ok2
  have b02 : Below w.heap.size w w2 := b1.trans (b2.mono b1.size)
  have o2 : Hid (w2.ownsRow w.heap.size 5 1 (.slice (some ⟨w.heap.size, 0, none⟩) 1 1) 1 ([kind].map bv)) := own_kept o1.out b2
  clear own2 ok2 o1 b2 b1
  have s2 := b02.size
  go_wp2_with (first | (at_builtin; refine app_any rfl (.tmp 18) (.tmp 21) rfl w.heap.size (.slice (some ⟨w.heap.size, 0, none⟩) 1 1) 1 [kind] rfl o2.out a2 4 c2 (spellN len 4) rfl (spellN_length _ _) O2.out.2.1 O2.out.2.2 (by omega) s2 ?_; intro v3 w3 hown3 hg3; have b03 := b02.grown hg3 s2 (by intro k hk; simp [Value.ownBlock] at hk; omega); clear hg3) | (at_builtin; refine app_any rfl (.tmp 22) (.tmp 23) rfl w.heap.size v3 5 ([kind] ++ spellN len 4) rfl hown3 ad len cap l rfl HL.out HP.out.2.1 (HP.out.later b03).2.2 (by omega) b03.size ?_; intro v4 w4 hown4 hg4; have b04 := b03.grown hg4 b03.size (fun k hk => (hown3.lt k hk).1); clear hg4 hown3))
  have E : Hid ([kind] ++ spellN len 4 ++ l = toldN kind l) := by
    show _ = _
    rw [toldN, spell_one kind hk, HL.out]
  have ht : Hid ((toldN kind l).length = 5 + len) := by show _ = _; rw [toldN_length, HL.out]
  have own4 : Own w4 w.heap.size v4 (toldN kind l) := by
    rw [← E.out]
    refine ⟨?_, ?_⟩
    · intro x hx
      simp only [List.mem_append, List.mem_singleton] at hx
      rcases hx with (h | h) | h
      · omega
      · exact spellN_lt _ _ x h
      · exact HP.out.2.2.1 x h
    · rw [E.out, ht.out, ← E.out]; exact hown4
  obtain ⟨a4, c4, rfl, ok4, -⟩ := own4.slice (5 + len) ht.out
  have O4 : Hid (Part.ok w4 ⟨a4, 5 + len, c4, toldN kind l⟩) := ok4
  have W4 : Hid (Own w4 w.heap.size (.slice a4 (5 + len) c4) (toldN kind l)) := own4
  clear hown4 own4 ok4 b02 b03 s2 O2 o2
  refine (refCrc_any a4 (5 + len) c4 (toldN kind l) _ ht.out (by unfold maxLen; omega) O4.out.2.2).mono ?_
  rintro e w5 ⟨rfl, hw5⟩
  obtain rfl := hw5.symm
  have hc := crc_lt (toldN kind l)
  go_wp2_with fail
  refine (bytes_any (crc (toldN kind l)) 4 _ (by omega)).mono ?_
  rintro e w6 ⟨v6, rfl, own6, b6⟩
  obtain ⟨a6, c6, rfl, ok6, -⟩ := own6.slice 4 (spellN_length _ _)
  have O6 : Hid (Part.ok w6 ⟨a6, 4, c6, spellN (crc (toldN kind l)) 4⟩) := ok6
  have W6 : Hid (Own w6 w.heap.size (.slice a4 (5 + len) c4) (toldN kind l)) := W4.out.later b6
  have b06 : Below w.heap.size w w6 := b04.trans (b6.mono b04.size)
  have h6 : w6.ownsRow w.heap.size 5 1 (.slice a4 (5 + len) c4) (5 + len) ((toldN kind l).map bv) := by
    have h := W6.out.2; rw [ht.out] at h; exact h
  clear own6 ok6 O4 W4 b6 b04
  have s6 := b06.size
  go_wp2_with (at_builtin; refine app_any rfl _ _ rfl w.heap.size (.slice a4 (5 + len) c4) (5 + len) (toldN kind l) rfl h6 a6 4 c6 (spellN (crc (toldN kind l)) 4) rfl (spellN_length _ _) O6.out.2.1 O6.out.2.2 (by omega) s6 ?_; intro v7 w7 hown7 hg7; have b07 := b06.grown hg7 s6 (fun k hk => (h6.lt k hk).1); clear hg7 h6)
  go_ret2
  refine ⟨_, rfl, ⟨?_, ?_⟩, b07⟩
  · intro x hx
    rcases List.mem_append.1 hx with h | h
    · exact W6.out.1 x h
    · exact spellN_lt _ _ x h
  · rw [frameBs_length, HL.out]
    rw [show 5 + len + 4 = 9 + len by omega] at hown7
    exact hown7
theorem refFrame_any (kind : Int) (ad : Option Addr) (len cap : Nat) (l : List Nat) (w : World) (hp : Part.ok w ⟨ad, len, cap, l⟩) (hm : len ≤ maxLen) :
    Calls Tryz.prog 40 #[.int .i64 kind, .slice ad len cap] w fun e w' => ∃ v, e = .returned (.tuple #[v, .int .i64 (frameN kind l).1]) ∧ Own w' w.heap.size v (frameN kind l).2 ∧ Below w.heap.size w w' := by
  have hlen : l.length = len := hp.1
  unfold maxLen at hm
  by_cases hk : 0 ≤ kind ∧ kind ≤ 255
  · by_cases hl : len ≤ 65536
    · obtain ⟨k, rfl⟩ := Int.eq_ofNat_of_zero_le hk.1
      rw [frameN_ok k l (by omega) (by omega)]
      exact refFrame_ok k ad len cap l w (by omega) hl hp
    · rw [frameN_size kind l hk (by omega)]
      clear hp hlen
      go_enter Tryz.func40, Tryz.ntmps40
      go_wp2
      go_ret2
      exact ⟨_, rfl, Own.nil _ _, Below.refl _ _⟩
  · rw [frameN_kind kind l hk]
    clear hp hlen
    by_cases h0 : kind < 0
    · go_enter Tryz.func40, Tryz.ntmps40
      go_wp2
      go_ret2
      exact ⟨_, rfl, Own.nil _ _, Below.refl _ _⟩
    · have h1 : 255 < kind := by omega
      go_enter Tryz.func40, Tryz.ntmps40
      go_wp2
      go_ret2
      exact ⟨_, rfl, Own.nil _ _, Below.refl _ _⟩
end Go.Proofs.YtmiibakbcogolaaGreat
namespace Go.Proofs.YtmiibakbcogolaaGreat
open Go.RowKit Crcm

set_option maxHeartbeats 2000000 in
theorem refUnframe_full (ad : Option Addr) (len cap : Nat) (l : List Nat) (p : Nat) (w : World) (hp : Part.ok w ⟨ad, len, cap, l⟩) (hlc : len ≤ cap) (hm : len ≤ 1000000000000000) (hn : sizeAt l p ≤ 65536) (h : p + 9 + sizeAt l p ≤ len) :
    Calls Tryz.prog 78 #[.slice ad len cap, .int .i64 p] w fun e w' => Below w.heap.size w w' ∧
      (sumAt l p = crc (toldAt l p) → ∃ v, e = .returned (.tuple #[.int .i64 (kindAt l p : Nat), v, .int .i64 ((p + 9 + sizeAt l p : Nat) : Int), .int .i64 0]) ∧ Own w' w.heap.size v (bodyAt l p)) ∧
      (sumAt l p ≠ crc (toldAt l p) → e = .returned (.tuple #[.int .i64 0, .slice none 0 0, .int .i64 0, .int .i64 21])) := by
  have HL : Hid (l.length = len) := hp.1
  have HP : Hid (Part.ok w ⟨ad, len, cap, l⟩) := hp
  clear hp
  have e1 : getN l ((p + 1 : Nat) : Int) 4 = (((sizeAt l p : Nat) : Int), ((p + 5 : Nat) : Int), 0) := getN_ok l (p + 1) 4 (by omega) (by rw [HL.out]; omega)
  have e2 : getN l ((p + 5 + sizeAt l p : Nat) : Int) 4 = (((sumAt l p : Nat) : Int), ((p + 9 + sizeAt l p : Nat) : Int), 0) := by
    have e := getN_ok l (p + 5 + sizeAt l p) 4 (by omega) (by rw [HL.out]; omega)
    rw [show p + 5 + sizeAt l p + 4 = p + 9 + sizeAt l p by omega] at e
    exact e
  have E1 : Hid (getN l ((p + 1 : Nat) : Int) 4 = (((sizeAt l p : Nat) : Int), ((p + 5 : Nat) : Int), 0)) := e1
  have E2 : Hid (getN l ((p + 5 + sizeAt l p : Nat) : Int) 4 = (((sumAt l p : Nat) : Int), ((p + 9 + sizeAt l p : Nat) : Int), 0)) := e2
  clear e1 e2
  have hne : ¬ cap = p := by omega
  go_enter Tryz.func78, Tryz.ntmps78
  go_wp2_with fail
  rw [show ((p : Int) + 1) = ((p + 1 : Nat) : Int) by omega]
  refine (refGet_any ad len cap l _ 4 _ HP.out hm (by omega)).mono ?_
  rintro e w1 ⟨rfl, hw1⟩
  obtain rfl := hw1.symm
  rw [E1.out]
  simp only
  go_wp2_with fail
  rw [show ((p : Int) + 5 + (sizeAt l p : Int)) = ((p + 5 + sizeAt l p : Nat) : Int) by omega]
  refine (refGet_any ad len cap l _ 4 _ HP.out hm (by omega)).mono ?_
  rintro e w2 ⟨rfl, hw2⟩
  obtain rfl := hw2.symm
  rw [E2.out]
  simp only
  have ht : Hid ((toldAt l p).length = p + 5 + sizeAt l p - p) := by
    show _ = _
    rw [toldAt, drop_take_length _ _ _ (by rw [HL.out]; omega)]; omega
  have kr : Hid (Row w (ad.map (fun x => x.add p)) (toldAt l p)) := by
    have hk := (cutP_ok HP.out p (5 + sizeAt l p) (by show _ ≤ len; omega) hlc).2.2
    rw [cutP_l] at hk
    unfold cutP at hk
    rw [if_neg hne] at hk
    exact hk
  go_wp2_with fail
  refine (refCrc_any _ _ (cap - p) (toldAt l p) _ ht.out (by unfold maxLen; omega) kr.out).mono ?_
  rintro e w3 ⟨rfl, hw3⟩
  obtain rfl := hw3.symm
  have hc3 := crc_lt (toldAt l p)
  by_cases hs : sumAt l p = crc (toldAt l p)
  · have hq : (((crc (toldAt l p) : Nat) : Int) != ((sumAt l p : Nat) : Int)) = false := by rw [hs]; simp
    have HS : Hid (sumAt l p = crc (toldAt l p)) := hs
    clear hs
    obtain ⟨b, off, rfl, hb, hcell⟩ := HP.out.cells (by omega)
    have hk0 := hcell p (by omega)
    rw [← kindAt_eq l p (by rw [HL.out]; omega)] at hk0
    have b1 : Below w.heap.size w (w.alloc (.cells #[] 5)).drew := ((Below.refl _ _).alloc (Nat.le_refl _) _).drew
    have hk1 : (w.alloc (.cells #[] 5)).drew.cell? ⟨b, off + p, none⟩ = some (.int .u8 ((kindAt l p : Nat) : Int)) := by rw [b1.cell (p := ⟨b, off + p, none⟩) hb]; exact hk0
    have HC : Hid (∀ i, i < len → w.cell? ⟨b, off + i, none⟩ = some (.int .u8 (l.getD i 0 : Nat))) := hcell
    clear hcell kr
    have kb : (kindAt l p : Nat) < 256 := by rw [kindAt_eq l p (by rw [HL.out]; omega)]; exact getD_lt HP.out.2.2.1 p
    have hne5 : ¬ cap = p + 5 := by omega
    have i0 : (0 : Int) ≤ (p : Int) := by omega
    have i1 : (p : Int) < (len : Int) := by omega
    have i2 : (0 : Int) ≤ (p : Int) + 5 := by omega
    have i3 : (p : Int) + 5 ≤ (p : Int) + 5 + ((sizeAt l p : Nat) : Int) := by omega
    have i4 : (p : Int) + 5 + ((sizeAt l p : Nat) : Int) ≤ (cap : Int) := by omega
    have i5 : IntKind.i64.wrap ((p : Int) + 5 + ((sizeAt l p : Nat) : Int)) = (p : Int) + 5 + ((sizeAt l p : Nat) : Int) := by
      simp [IntKind.wrap, IntKind.bits, IntKind.signed]; omega
    have i6 : IntKind.i64.wrap ((kindAt l p : Nat) : Int) = ((kindAt l p : Nat) : Int) := by
      simp [IntKind.wrap, IntKind.bits, IntKind.signed]; omega
    have t1 : ((p : Int) + 5).toNat = p + 5 := by omega
    have t2 : ((p : Int) + 5 + ((sizeAt l p : Nat) : Int)).toNat = p + 5 + sizeAt l p := by omega
    have t3 : p + 5 + sizeAt l p - (p + 5) = sizeAt l p := by omega
    have kr : Hid (Row (w.alloc (.cells #[] 5)).drew (some ⟨b, off + (p + 5), none⟩) (bodyAt l p)) := by
      have hk := (cutP_ok (HP.out.later b1) (p + 5) (sizeAt l p) (by show _ ≤ len; omega) hlc).2.2
      rw [cutP_l] at hk
      unfold cutP at hk
      rw [if_neg hne5] at hk
      simp only [Option.map_some, addr_add] at hk
      exact hk
    have hbl : Hid ((bodyAt l p).length = sizeAt l p) := by
      show _ = _
      exact drop_take_length _ _ _ (by rw [HL.out]; omega)
    go_wp2_with fail
    go_region_held3 (fun w' => w'.cell? ⟨b, off + p, none⟩ = some (.int .u8 ((kindAt l p : Nat) : Int))) (first | exact hk0 | exact hk1 | exact hk2)
      ((refine step_app_any (by rfl) _ _ (by rfl) w.heap.size (.slice (some ⟨w.heap.size, 0, none⟩) 0 0) 0 [] (by rfl) (empty_own w w.heap.size (Nat.le_refl _)) (some ⟨b, off + (p + 5), none⟩) (sizeAt l p) _ (bodyAt l p) (by rfl) hbl.out (by intro e; cases e) kr.out (by omega) (by simp) ?_; intro v4 w4 hown4 hg4; have hk2 : w4.cell? ⟨b, off + p, none⟩ = some (.int .u8 ((kindAt l p : Nat) : Int)) := (by rw [hg4.cell_far ⟨b, off + p, none⟩ (by simp; omega) (by simp [Value.ownBlock]; omega)]; exact hk1)))
    have b4 := b1.grown hg4 b1.size (by intro k hk; simp [Value.ownBlock] at hk; omega)
    simp only [Nat.zero_add, List.nil_append] at hown4
    have O4 : Hid (Own w4 w.heap.size v4 (bodyAt l p)) := ⟨drop_take_lt HP.out.2.2.1 _ _, by rw [hbl.out]; exact hown4⟩
    clear hown4 hg4 hk0 hk1 hk2 kr b1
    go_wp2
    ((try simp only [Exit.inBlock, Exit.then]); refine bodyPost_ret (results_tmp4 rfl _ _ _) rfl ?_)
    exact ⟨b4, fun _ => ⟨_, rfl, O4⟩, fun h => absurd HS.out h⟩
  · have hq : (((crc (toldAt l p) : Nat) : Int) != ((sumAt l p : Nat) : Int)) = true := by rw [bne_iff_ne]; omega
    have HS : Hid (¬ sumAt l p = crc (toldAt l p)) := hs
    clear hs
    go_wp2
    ((try simp only [Exit.inBlock, Exit.then]); refine bodyPost_ret (results_tmp4 rfl _ _ _) rfl ?_)
    exact ⟨Below.refl _ _, fun h => absurd h HS.out, fun _ => rfl⟩
set_option maxHeartbeats 2000000 in
theorem refUnframe_err (ad : Option Addr) (len cap : Nat) (l : List Nat) (p : Nat) (w : World) (hp : Part.ok w ⟨ad, len, cap, l⟩) (hlc : len ≤ cap) (hm : len ≤ 1000000000000000) (hp2 : p ≤ 9223372036854775807) (he : unframeE l p ≠ 0) :
    Calls Tryz.prog 78 #[.slice ad len cap, .int .i64 p] w fun e w' => e = .returned (.tuple #[.int .i64 0, .slice none 0 0, .int .i64 0, .int .i64 (unframeE l p)]) ∧ Below w.heap.size w w' := by
  have hl := hp.1
  simp only at hl
  unfold unframeE at he ⊢
  by_cases h1 : l.length < p + 5
  · rw [if_pos h1]
    rw [hl] at h1
    clear hp hl he
    by_cases h2 : len < p
    · go_enter Tryz.func78, Tryz.ntmps78
      go_wp2
      ((try simp only [Exit.inBlock, Exit.then]); refine bodyPost_ret (results_tmp4 rfl _ _ _) rfl ?_)
      exact ⟨rfl, Below.refl _ _⟩
    · go_enter Tryz.func78, Tryz.ntmps78
      go_wp2
      ((try simp only [Exit.inBlock, Exit.then]); refine bodyPost_ret (results_tmp4 rfl _ _ _) rfl ?_)
      exact ⟨rfl, Below.refl _ _⟩
  · rw [if_neg h1] at he ⊢
    have HP : Hid (Part.ok w ⟨ad, len, cap, l⟩) := hp
    have HL : Hid (l.length = len) := hl
    have E1 : Hid (getN l ((p + 1 : Nat) : Int) 4 = (((sizeAt l p : Nat) : Int), ((p + 5 : Nat) : Int), 0)) := getN_ok l (p + 1) 4 (by omega) (by omega)
    have hs := sizeAt_lt l p hp.2.2.1
    rw [hl] at h1 he ⊢
    clear hp hl
    by_cases h2 : 65536 < sizeAt l p
    · rw [if_pos h2]
      clear he
      go_enter Tryz.func78, Tryz.ntmps78
      go_wp2_with fail
      rw [show ((p : Int) + 1) = ((p + 1 : Nat) : Int) by omega]
      refine (refGet_any ad len cap l _ 4 _ HP.out hm (by omega)).mono ?_
      rintro e w1 ⟨rfl, hw1⟩
      obtain rfl := hw1.symm
      rw [E1.out]
      simp only
      go_wp2
      ((try simp only [Exit.inBlock, Exit.then]); refine bodyPost_ret (results_tmp4 rfl _ _ _) rfl ?_)
      exact ⟨rfl, Below.refl _ _⟩
    · rw [if_neg h2] at he ⊢
      by_cases h3 : len < p + 9 + sizeAt l p
      · rw [if_pos h3]
        clear he
        go_enter Tryz.func78, Tryz.ntmps78
        go_wp2_with fail
        rw [show ((p : Int) + 1) = ((p + 1 : Nat) : Int) by omega]
        refine (refGet_any ad len cap l _ 4 _ HP.out hm (by omega)).mono ?_
        rintro e w1 ⟨rfl, hw1⟩
        obtain rfl := hw1.symm
        rw [E1.out]
        simp only
        go_wp2
        ((try simp only [Exit.inBlock, Exit.then]); refine bodyPost_ret (results_tmp4 rfl _ _ _) rfl ?_)
        exact ⟨rfl, Below.refl _ _⟩
      · rw [if_neg h3] at he ⊢
        by_cases h4 : sumAt l p = crc (toldAt l p)
        · rw [if_pos h4] at he; omega
        · rw [if_neg h4]
          refine (refUnframe_full ad len cap l p w HP.out hlc hm (by omega) (by omega)).mono ?_
          rintro e w' ⟨b, -, h⟩
          exact ⟨h h4, b⟩
theorem refUnframe_any (ad : Option Addr) (len cap : Nat) (l : List Nat) (p : Int) (w : World) (hp : Part.ok w ⟨ad, len, cap, l⟩) (hlc : len ≤ cap) (hm : len ≤ 1000000000000000) (hp2 : p ≤ 9223372036854775807) :
    Calls Tryz.prog 78 #[.slice ad len cap, .int .i64 p] w fun e w' => ∃ v, e = .returned (.tuple #[.int .i64 (unframeN l p).1, v, .int .i64 (unframeN l p).2.2.1, .int .i64 (unframeN l p).2.2.2]) ∧ Own w' w.heap.size v (unframeN l p).2.1 ∧ Below w.heap.size w w' := by
  by_cases h0 : 0 ≤ p
  · obtain ⟨q, rfl⟩ := Int.eq_ofNat_of_zero_le h0
    by_cases he : unframeE l q = 0
    · rw [unframeN_ok l q he]
      obtain ⟨z1, z2, z3⟩ := unframeE_zero he
      refine (refUnframe_full ad len cap l q w hp hlc hm z1 (by have := hp.1; simp only at this; omega)).mono ?_
      rintro e w' ⟨b, h, -⟩
      obtain ⟨v, rfl, hv⟩ := h z3
      exact ⟨v, rfl, hv, b⟩
    · rw [unframeN_err l q he]
      refine (refUnframe_err ad len cap l q w hp hlc hm (by omega) he).mono ?_
      rintro e w' ⟨rfl, b⟩
      exact ⟨_, rfl, Own.nil _ _, b⟩
  · rw [unframeN_arg l p h0]
    clear hp
    have h1 : p < 0 := by omega
    go_enter Tryz.func78, Tryz.ntmps78
    go_wp2
    ((try simp only [Exit.inBlock, Exit.then]); refine bodyPost_ret (results_tmp4 rfl _ _ _) rfl ?_)
    exact ⟨_, rfl, Own.nil _ _, Below.refl _ _⟩
end Go.Proofs.YtmiibakbcogolaaGreat
