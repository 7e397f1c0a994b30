/- The walk of the statement WireRow: it returns true at every input, and writes nothing that was there. -/
import Derived.Test.YthfildanpcmfaabRowMath
import Derived.Test.YthfildanpcmfaabKnows
import Derived.Test.YthfildanpcmfaabConvDrew
namespace Go.Proofs.Ythfildanpcmfaab
open Go.RowKit Crcm

theorem kind_eq (k : Int) : ∃ K : Nat, K ≤ 255 ∧ (wrap64 (k.tmod 256 + 256)).tmod 256 = (K : Int) := by
  have h3 := Int.lt_tmod_of_pos k (show (0 : Int) < 256 by omega)
  have h4 := Int.tmod_lt_of_pos k (show (0 : Int) < 256 by omega)
  have e : wrap64 (k.tmod 256 + 256) = k.tmod 256 + 256 := by
    generalize k.tmod 256 = q at *
    simp [wrap64]; omega
  rw [e]
  have h1 := Int.tmod_lt_of_pos (k.tmod 256 + 256) (show (0 : Int) < 256 by omega)
  have h0 : 0 ≤ (k.tmod 256 + 256).tmod 256 := Int.tmod_nonneg _ (by omega)
  exact ⟨((k.tmod 256 + 256).tmod 256).toNat, by omega, by omega⟩

theorem own_kept {w w' : World} {base e size n : Nat} {v : Value} {xs : List Value} (h : w.ownsRow base e size v n xs) (hb : Below w.heap.size w w') : w'.ownsRow base e size v n xs := by
  refine ⟨h.1, ?_⟩
  rcases h.2 with h2 | ⟨g, cap, cur, hv, hgb, hg, r⟩
  · exact Or.inl h2
  · refine Or.inr ⟨g, cap, cur, hv, hgb, ?_, r⟩
    rw [hb.block g ?_]
    · exact hg
    · rcases Nat.lt_or_ge g w.heap.size with hlt | hge
      · exact hlt
      · rw [Array.getElem?_eq_none hge] at hg; cases hg

set_option maxRecDepth 100000 in
set_option maxHeartbeats 8000000 in
theorem row_walk (a : Option Addr) (len cap : Nat) (kind : Int) (ps : Nat → Part) (w : World) (hl : len ≤ 9223372036854775807)
    (hrow : len = 0 ∨ ∃ b off, a = some ⟨b, off, none⟩ ∧ b < w.heap.size ∧ ∀ i, i < len → w.cell? ⟨b, off + i, none⟩ = some (.slice (ps i).ad (ps i).len (ps i).cap) ∧ (ps i).ok w ∧ (ps i).len ≤ (ps i).cap ∧ (ps i).cap ≤ 140737488351232) :
    Calls Try.prog 4 #[.slice a len cap, .int .i64 kind] w fun e w' => e = .returned (.bool true) ∧ Below w.heap.size w w' := by
  have HR : Hid (len = 0 ∨ ∃ b off, a = some ⟨b, off, none⟩ ∧ b < w.heap.size ∧ ∀ i, i < len → w.cell? ⟨b, off + i, none⟩ = some (.slice (ps i).ad (ps i).len (ps i).cap) ∧ (ps i).ok w ∧ (ps i).len ≤ (ps i).cap ∧ (ps i).cap ≤ 140737488351232) := hrow
  have HOK : Hid (∀ i, i < len → (ps i).ok w) := by
    intro i hi
    obtain ⟨b, off, _, _, h⟩ := hrow.resolve_left (by omega)
    exact (h i hi).2.1
  clear hrow
  obtain ⟨K, hK, eK⟩ := kind_eq kind
  go_enter Try.func4, Try.ntmps4
  go_wp2
  go_loopw [5, 6] (fun v i wr => ∃ k n : Nat, k ≤ len ∧ k ≤ 50 ∧ i = .int .i64 k ∧ n ≤ 65545 * k ∧ Hid ((rowBs K ps k).length = n) ∧ Hid (∀ j, j < k → (ps j).l.length ≤ 65536) ∧ Hid (wr.ownsRow w.heap.size 5 1 v n ((rowBs K ps k).map bv)) ∧ Below w.heap.size w wr) (fun _ i _ => 50 - (intOf i).toNat)
  case atStart => exact ⟨0, 0, by omega, by omega, rfl, by omega, rfl, fun j hj => absurd hj (by omega), World.ownsRow_nil _ _ _ _, Below.refl _ _⟩
  case round =>
    obtain ⟨k, n, hkl, hk50, rfl, hn, HNk, HJ, HO, hbk⟩ := hrel
    by_cases h1 : k < len
    · by_cases h2 : k < 50
      · obtain ⟨b, off, rfl, hb, hps⟩ := HR.out.resolve_left (by omega)
        obtain ⟨p1, p2, p3, p4⟩ := hps k h1
        have hck : wr.cell? ⟨b, off + k, none⟩ = some (.slice (ps k).ad (ps k).len (ps k).cap) := by rw [hbk.cell (p := ⟨b, off + k, none⟩) hb]; exact p1
        have PK : Hid ((ps k).ok wr) := p2.later hbk
        clear p1 p2 hps
        have hsz := hbk.size
        have x1 : Below wr.heap.size wr (wr.alloc (.cells #[] 5)) := (Below.refl _ _).alloc (Nat.le_refl _) _
        have c2 : (wr.alloc (.cells #[] 5)).cell? ⟨b, off + k, none⟩ = some (.slice (ps k).ad (ps k).len (ps k).cap) := by rw [x1.cell (p := ⟨b, off + k, none⟩) (Nat.lt_of_lt_of_le hb hsz)]; exact hck
        have PK2 : Hid ((ps k).ok (wr.alloc (.cells #[] 5))) := PK.out.later x1
        go_wp2_with (at_builtin; refine app_any rfl (.tmp 35) (.tmp 39) rfl wr.heap.size (.slice (some ⟨wr.heap.size, 0, none⟩) 0 0) 0 [] rfl (empty_own wr wr.heap.size (Nat.le_refl _)) (ps k).ad (ps k).len (ps k).cap (ps k).l rfl PK2.out.1 PK2.out.2.1 PK2.out.2.2 (by omega) (by simp) ?_; intro v3 w3 hown3 hg3; have x3 := x1.grown hg3 (by simp) (by intro k hk; simp [Value.ownBlock] at hk; omega); simp only [Nat.zero_add, List.nil_append] at hown3; clear hg3; obtain ⟨a3, c3, rfl, ok3, hlc3, -⟩ := Own.slice ⟨PK2.out.2.2.1, (by rw [PK2.out.1]; exact hown3)⟩ (ps k).len PK2.out.1)
        have O3 : Hid (Part.ok w3 ⟨a3, (ps k).len, c3, (ps k).l⟩) := ok3
        have hle : Hid ((ps k).l.length = (ps k).len) := PK.out.1
        clear hown3 ok3 PK2
        refine (frame_any K a3 (ps k).len c3 (ps k).l _ O3.out (by unfold maxLen; omega)).mono ?_
        rintro e w4 ⟨v4, rfl, own4, b4⟩
        have y4 : Below wr.heap.size wr w4 := x3.trans (b4.mono x3.size)
        have b04 : Below w.heap.size w w4 := hbk.trans (y4.mono hsz)
        have c4 : w4.cell? ⟨b, off + k, none⟩ = some (.slice (ps k).ad (ps k).len (ps k).cap) := by rw [y4.cell (p := ⟨b, off + k, none⟩) (Nat.lt_of_lt_of_le hb hsz)]; exact hck
        by_cases hL : (ps k).len ≤ 65536
        · rw [frameN_ok K (ps k).l hK (by rw [hle.out]; exact hL)] at own4 ⊢
          have hfl : Hid ((frameBs K (ps k).l).length = 9 + (ps k).len) := by show _ = _; rw [frameBs_length, hle.out]
          obtain ⟨a4, d4, rfl, ok4, -⟩ := own4.slice (9 + (ps k).len) hfl.out
          have P4 : Hid (Part.ok w4 ⟨a4, 9 + (ps k).len, d4, frameBs K (ps k).l⟩) := ok4
          have h5 : w4.ownsRow w.heap.size 5 1 u5 n ((rowBs K ps k).map bv) := own_kept HO.out y4
          have s4 := b04.size
          clear own4 ok4 x1 x3 b4 y4 O3
          simp only
          go_wp2_with (first | (go_at_call 9; refine (num_any _ _).mono ?_; rintro e w' ⟨rfl, hw'⟩; obtain rfl := hw'.symm) | (at_builtin; refine app_any rfl (.tmp 56) (.tmp 57) rfl w.heap.size u5 n (rowBs K ps k) rfl h5 a4 (9 + (ps k).len) d4 (frameBs K (ps k).l) rfl hfl.out P4.out.2.1 P4.out.2.2 (by omega) s4 ?_; intro v6 w6 hown6 hg6; have b06 := b04.grown hg6 s4 (fun k hk => (h5.lt k hk).1); clear hg6 h5))
          go_roundw
          case rel =>
            refine ⟨k + 1, n + (9 + (ps k).len), by omega, by omega, by go_num, by omega, ?_, ?_, hown6, b06⟩
            · show _ = _
              rw [rowBs, List.length_append, HNk.out, hfl.out]
            · intro j hj
              by_cases e : j = k
              · subst e; rw [hle.out]; exact hL
              · exact HJ.out j (by omega)
          case measure => simp [intOf]; omega
        · rw [frameN_size K (ps k).l (by omega) (by rw [hle.out]; exact hL)] at own4 ⊢
          clear own4 x1 x3 b4 y4 O3
          simp only
          go_wp2_with (go_at_call 9; refine (num_any _ _).mono ?_; rintro e w' ⟨rfl, hw'⟩; obtain rfl := hw'.symm)
          refine (knows_any _).mono ?_
          rintro e w9 ⟨rfl, b9⟩
          go_wp2
          go_ret
          exact ⟨rfl, b04.trans (b9.mono b04.size)⟩
      · have HE : Hid (len ≤ k ∨ 50 ≤ k) := by show _ ∨ _; omega
        obtain ⟨ab, cb, rfl, okb, hlcb, -⟩ := Own.slice_n (l := rowBs K ps k) (n := n) ⟨rowBs_lt w K ps k (fun j hj => HOK.out j (by omega)), (by rw [HNk.out]; exact HO.out)⟩ HNk.out
        have PB : Hid (Part.ok wr ⟨ab, n, cb, rowBs K ps k⟩) := okb
        clear okb HO
        go_wp2
        go_loopw [9, 10] (fun at' i wq => ∃ j m : Nat, j ≤ k ∧ m ≤ n ∧ i = .int .i64 j ∧ at' = .int .i64 (m : Nat) ∧ Hid ((rowBs K ps j).length = m) ∧ Below wr.heap.size wr wq) (fun _ i _ => k - (intOf i).toNat)
        case atStart => exact ⟨0, 0, by omega, by omega, rfl, rfl, rfl, Below.refl _ _⟩
        case round =>
          obtain ⟨j, m, hj, hmn, rfl, rfl, HM, hbj⟩ := hrel
          by_cases hjk : j < k
          · obtain ⟨b, off, rfl, hb, hps⟩ := HR.out.resolve_left (by omega)
            obtain ⟨p1, p2, p3, p4⟩ := hps j (by omega)
            have PJ : Hid ((ps j).ok w) := p2
            have C1 : Hid (w.cell? ⟨b, off + j, none⟩ = some (.slice (ps j).ad (ps j).len (ps j).cap)) := p1
            clear p1 p2 hps
            have hfl : Hid ((rowBs K ps (j + 1)).length = m + (9 + (ps j).len)) := by
              show _ = _
              rw [rowBs, List.length_append, HM.out, frameBs_length, PJ.out.1]
            have hmn2 : m + (9 + (ps j).len) ≤ n := by
              obtain ⟨B, hB⟩ := rowBs_split K ps k j hjk
              have e := HNk.out
              rw [hB, List.length_append, List.length_append, HM.out, frameBs_length, PJ.out.1] at e
              omega
            have HU : Hid (unframeN (rowBs K ps k) (m : Nat) = ((K : Int), (ps j).l, ((m + (9 + (ps j).len) : Nat) : Int), 0)) := by
              show _ = _
              have e := row_back K ps k j hK hjk (HJ.out j hjk)
              rw [HM.out, hfl.out] at e
              exact e
            go_wp2_with fail
            refine (unframe_at ab n cb (rowBs K ps k) m _ _ rfl HU.out (PB.out.later hbj) hlcb (by omega) (by omega)).mono ?_
            rintro e wq2 ⟨ax, cx, rfl, okx, z⟩
            have bq := hbj.trans (z.mono hbj.size)
            have b0q := hbk.trans (bq.mono hbk.size)
            have cq : wq2.cell? ⟨b, off + j, none⟩ = some (.slice (ps j).ad (ps j).len (ps j).cap) := by rw [b0q.cell (p := ⟨b, off + j, none⟩) hb]; exact C1.out
            have kx := conv_drewN okx.2.2 (ps j).l.length cx rfl
            have kp := conv_drewN (PJ.out.later b0q).2.2 (ps j).len (ps j).cap PJ.out.1
            have hll : Hid ((ps j).l.length = (ps j).len) := PJ.out.1
            simp only [hll.out] at kx ⊢
            have i1 : (j : Int) < (len : Int) := by omega
            have hgt : (m : Int) < (m : Int) + (9 + ((ps j).len : Int)) := by omega
            clear okx z
            go_wp2_with fail
            go_quiet ((go_at_call 9; exact Calls.quiet_of_same (num_any _ _)))
            go_wp2
            go_roundw
            case rel => exact ⟨j + 1, m + (9 + (ps j).len), by omega, by omega, by go_num, by go_num, hfl, below_drewN' bq _⟩
            case measure => simp [intOf]; omega
          · obtain rfl : j = k := by omega
            have e : m = n := by have h1 := HM.out; have h2 := HNk.out; omega
            subst e
            have HU : Hid (unframeN (rowBs K ps j) (m : Nat) = (0, [], 0, 20)) := by
              show _ = _
              have e := row_end (rowBs K ps j)
              rw [HM.out] at e
              exact e
            go_wp2_with fail
            refine (unframe_at ab m cb (rowBs K ps j) m _ _ rfl HU.out (PB.out.later hbj) hlcb (by omega) (by omega)).mono ?_
            rintro e wq2 ⟨ax, cx, rfl, okx, z⟩
            have bq := hbj.trans (z.mono hbj.size)
            have b0q := hbk.trans (bq.mono hbk.size)
            clear okx z
            simp only
            go_wp2_with (go_at_call 9; refine (num_any _ _).mono ?_; rintro e w' ⟨rfl, hw'⟩; obtain rfl := hw'.symm)
            refine (knows_any _).mono ?_
            rintro e w9 ⟨rfl, b9⟩
            go_wp2
            go_ret
            exact ⟨rfl, b0q.trans (b9.mono b0q.size)⟩
    · have HE : Hid (len ≤ k ∨ 50 ≤ k) := by show _ ∨ _; omega
      obtain ⟨ab, cb, rfl, okb, hlcb, -⟩ := Own.slice_n (l := rowBs K ps k) (n := n) ⟨rowBs_lt w K ps k (fun j hj => HOK.out j (by omega)), (by rw [HNk.out]; exact HO.out)⟩ HNk.out
      have PB : Hid (Part.ok wr ⟨ab, n, cb, rowBs K ps k⟩) := okb
      clear okb HO
      go_wp2
      go_loopw [9, 10] (fun at' i wq => ∃ j m : Nat, j ≤ k ∧ m ≤ n ∧ i = .int .i64 j ∧ at' = .int .i64 (m : Nat) ∧ Hid ((rowBs K ps j).length = m) ∧ Below wr.heap.size wr wq) (fun _ i _ => k - (intOf i).toNat)
      case atStart => exact ⟨0, 0, by omega, by omega, rfl, rfl, rfl, Below.refl _ _⟩
      case round =>
        obtain ⟨j, m, hj, hmn, rfl, rfl, HM, hbj⟩ := hrel
        by_cases hjk : j < k
        · obtain ⟨b, off, rfl, hb, hps⟩ := HR.out.resolve_left (by omega)
          obtain ⟨p1, p2, p3, p4⟩ := hps j (by omega)
          have PJ : Hid ((ps j).ok w) := p2
          have C1 : Hid (w.cell? ⟨b, off + j, none⟩ = some (.slice (ps j).ad (ps j).len (ps j).cap)) := p1
          clear p1 p2 hps
          have hfl : Hid ((rowBs K ps (j + 1)).length = m + (9 + (ps j).len)) := by
            show _ = _
            rw [rowBs, List.length_append, HM.out, frameBs_length, PJ.out.1]
          have hmn2 : m + (9 + (ps j).len) ≤ n := by
            obtain ⟨B, hB⟩ := rowBs_split K ps k j hjk
            have e := HNk.out
            rw [hB, List.length_append, List.length_append, HM.out, frameBs_length, PJ.out.1] at e
            omega
          have HU : Hid (unframeN (rowBs K ps k) (m : Nat) = ((K : Int), (ps j).l, ((m + (9 + (ps j).len) : Nat) : Int), 0)) := by
            show _ = _
            have e := row_back K ps k j hK hjk (HJ.out j hjk)
            rw [HM.out, hfl.out] at e
            exact e
          go_wp2_with fail
          refine (unframe_at ab n cb (rowBs K ps k) m _ _ rfl HU.out (PB.out.later hbj) hlcb (by omega) (by omega)).mono ?_
          rintro e wq2 ⟨ax, cx, rfl, okx, z⟩
          have bq := hbj.trans (z.mono hbj.size)
          have b0q := hbk.trans (bq.mono hbk.size)
          have cq : wq2.cell? ⟨b, off + j, none⟩ = some (.slice (ps j).ad (ps j).len (ps j).cap) := by rw [b0q.cell (p := ⟨b, off + j, none⟩) hb]; exact C1.out
          have kx := conv_drewN okx.2.2 (ps j).l.length cx rfl
          have kp := conv_drewN (PJ.out.later b0q).2.2 (ps j).len (ps j).cap PJ.out.1
          have hll : Hid ((ps j).l.length = (ps j).len) := PJ.out.1
          simp only [hll.out] at kx ⊢
          have i1 : (j : Int) < (len : Int) := by omega
          have hgt : (m : Int) < (m : Int) + (9 + ((ps j).len : Int)) := by omega
          clear okx z
          go_wp2_with fail
          go_quiet ((go_at_call 9; exact Calls.quiet_of_same (num_any _ _)))
          go_wp2
          go_roundw
          case rel => exact ⟨j + 1, m + (9 + (ps j).len), by omega, by omega, by go_num, by go_num, hfl, below_drewN' bq _⟩
          case measure => simp [intOf]; omega
        · obtain rfl : j = k := by omega
          have e : m = n := by have h1 := HM.out; have h2 := HNk.out; omega
          subst e
          have HU : Hid (unframeN (rowBs K ps j) (m : Nat) = (0, [], 0, 20)) := by
            show _ = _
            have e := row_end (rowBs K ps j)
            rw [HM.out] at e
            exact e
          go_wp2_with fail
          refine (unframe_at ab m cb (rowBs K ps j) m _ _ rfl HU.out (PB.out.later hbj) hlcb (by omega) (by omega)).mono ?_
          rintro e wq2 ⟨ax, cx, rfl, okx, z⟩
          have bq := hbj.trans (z.mono hbj.size)
          have b0q := hbk.trans (bq.mono hbk.size)
          clear okx z
          simp only
          go_wp2_with (go_at_call 9; refine (num_any _ _).mono ?_; rintro e w' ⟨rfl, hw'⟩; obtain rfl := hw'.symm)
          refine (knows_any _).mono ?_
          rintro e w9 ⟨rfl, b9⟩
          go_wp2
          go_ret
          exact ⟨rfl, b0q.trans (b9.mono b0q.size)⟩
end Go.Proofs.Ythfildanpcmfaab
