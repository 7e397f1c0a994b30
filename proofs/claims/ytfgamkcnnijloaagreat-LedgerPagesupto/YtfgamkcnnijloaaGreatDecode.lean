/- What the Go functions bytes.Equal and batch.Decode answer: P204. -/
import Derived.Test.YtfgamkcnnijloaaGreatBRead
import Derived.Test.YtfgamkcnnijloaaGreatPZBM
import Derived.Test.YtfgamkcnnijloaaGreatPZEnc
namespace Go.Proofs.YtfgamkcnnijloaaGreat
open Go.RowKit

theorem bstr_inj2 {l m : List Nat} (hl : ∀ x ∈ l, x < 256) (hm : ∀ x ∈ m, x < 256) (h : bstr l = bstr m) : l = m := by
  rw [← sbytes_bstr l hl, ← sbytes_bstr m hm, h]
theorem bstr_beq2 {l m : List Nat} (hl : ∀ x ∈ l, x < 256) (hm : ∀ x ∈ m, x < 256) (q : Bool) (h : q = true ↔ l = m) : ((bstr l).toList == (bstr m).toList) = q := by
  rw [← beq_toListBytes, Bool.eq_iff_iff, bytes_beq, h]
  exact ⟨bstr_inj2 hl hm, fun e => by rw [e]⟩
set_option maxHeartbeats 1000000 in
theorem equal_any (a b : Option Addr) (n c m d : Nat) (l k : List Nat) (w : World) (hp : Part.ok w ⟨a, n, c, l⟩) (hq : Part.ok w ⟨b, m, d, k⟩) (β : Bool) (hβ : β = true ↔ l = k) :
    Calls Tryz.prog 67 #[.slice a n c, .slice b m d] w fun x w' => x = .returned (.bool β) ∧ Below w.heap.size w w' := by
  have hE := bstr_beq2 hp.2.2.1 hq.2.2.1 β hβ
  simp only at hE
  have k1 := conv_drewN hp.2.2 n c hp.1
  have k2 := conv_drewN hq.2.2 m d hq.1
  have k3 := conv_any hp.2.2 n c hp.1
  have k4 := conv_any hq.2.2 m d hq.1
  simp only at k1 k2 k3 k4
  clear hp hq hβ
  generalize bstr l = tx at *
  generalize bstr k = ty at *
  go_enter Tryz.func67, Tryz.ntmps67
  go_wp2
  go_ret
  exact ⟨rfl, Below.refl _ _⟩
theorem bstr_size (l : List Nat) (h : ∀ x ∈ l, x < 256) : (bstr l).size = l.length := by
  rw [← sbytes_length, sbytes_bstr l h]
theorem recAt1_sizes {l : List Nat} {p q : Nat} {r : Rec} (hl : ∀ x ∈ l, x < 256) (h : recAt1 l p = some (r, q)) : r.key.size ≤ l.length ∧ r.val.size ≤ l.length := by
  by_cases h1 : p + 3 + lenAt l (p + 1) ≤ l.length
  · by_cases h2 : p + 3 + lenAt l (p + 1) + 2 + lenAt l (p + 3 + lenAt l (p + 1)) ≤ l.length
    · rw [recAt_some h1 h2] at h
      have e := (Prod.mk.inj (Option.some.inj h)).1
      subst e
      simp only
      rw [bstr_size _ (drop_take_lt hl _ _), bstr_size _ (drop_take_lt hl _ _)]
      simp; omega
    · rw [recAt_none2 h2] at h; cases h
  · rw [recAt_none1 h1] at h; cases h
theorem readN1_sizes {l : List Nat} (hl : ∀ x ∈ l, x < 256) {p n q : Nat} {rs : List Rec} (h : readN1 l p n = some (rs, q)) : ∀ r ∈ rs, r.key.size ≤ l.length ∧ r.val.size ≤ l.length := by
  induction n generalizing rs q with
  | zero =>
    rw [readN1] at h
    cases h
    intro r hr; cases hr
  | succ n ih =>
    rw [readN1] at h
    cases h1 : readN1 l p n with
    | none => rw [h1] at h; cases h
    | some x =>
      obtain ⟨ss, q1⟩ := x
      rw [h1] at h
      simp only at h
      cases h2 : recAt1 l q1 with
      | none => rw [h2] at h; cases h
      | some y =>
        obtain ⟨r, q2⟩ := y
        rw [h2] at h
        simp only [Option.some.injEq, Prod.mk.injEq] at h
        obtain ⟨rfl, rfl⟩ := h
        intro z hz
        rcases List.mem_append.1 hz with hz | hz
        · exact ih h1 z hz
        · simp at hz; subst hz; exact recAt1_sizes hl h2
theorem batOf_read (l : List Nat) (rs : List Rec) (h : ∀ x ∈ l, x < 256) : (⟨(l.getD 0 0 : Nat), prK l, (valN ((l.drop 8).take 4) : Nat), (valN ((l.drop 12).take 4) : Nat), flK l, rs⟩ : Bat) = batOf l rs := by
  unfold batOf prK flK
  have hb := getD_lt h 1
  rw [flag_two _ hb, flag_one _ hb]
  congr 1
  rcases Nat.mod_two_eq_zero_or_one (l.getD 1 0) with e | e
  · rw [e]; rfl
  · rw [e]; rfl
/-- Records do not lie in a batch's box. -/
theorem RRow.set6 {w : World} {ad : Option Addr} {rs : List Rec} {B : Nat} {k0 p0 e0 s0 : Int} {t0 : Bool} {a0 : Option Addr} {n0 c0 : Nat} (h : RRow w ad rs) (hb : BBox w B k0 p0 e0 s0 t0 (.slice a0 n0 c0)) (k p e s : Int) (t : Bool) (v : Value) : RRow (set6 w B k p e s t v) ad rs := by
  rcases h with h | ⟨b, off, e1, hs, hc⟩
  · exact Or.inl h
  · by_cases h0 : rs = []
    · exact Or.inl h0
    · have hpos : 0 < rs.length := List.length_pos_iff.2 h0
      have hne : b ≠ B := by
        intro e2
        subst e2
        have h1 := (hc 0 hpos).1
        rw [cell_of_row w b _ _ _ _ hb] at h1
        rcases (show off + 0 * 3 = 0 ∨ off + 0 * 3 = 1 ∨ off + 0 * 3 = 2 ∨ off + 0 * 3 = 3 ∨ off + 0 * 3 = 4 ∨ off + 0 * 3 = 5 ∨ 6 ≤ off + 0 * 3 by omega) with e | e | e | e | e | e | e
        · rw [e] at h1; cases h1
        · rw [e] at h1; cases h1
        · rw [e] at h1; cases h1
        · rw [e] at h1; cases h1
        · rw [e] at h1; cases h1
        · rw [e] at h1; cases h1
        · rw [Array.getElem?_eq_none (by simpa using e)] at h1; cases h1
      have hblk : (Go.Proofs.YtfgamkcnnijloaaGreat.set6 w B k p e s t v).heap[b]? = w.heap[b]? := by
        unfold Go.Proofs.YtfgamkcnnijloaaGreat.set6
        rw [Below.heap_setCell _ _ _ _ hne, Below.heap_setCell _ _ _ _ hne, Below.heap_setCell _ _ _ _ hne, Below.heap_setCell _ _ _ _ hne, Below.heap_setCell _ _ _ _ hne, Below.heap_setCell _ _ _ _ hne]
      have hsz : (Go.Proofs.YtfgamkcnnijloaaGreat.set6 w B k p e s t v).heap.size = w.heap.size := by simp [Go.Proofs.YtfgamkcnnijloaaGreat.set6, World.setCell]
      refine Or.inr ⟨b, off, e1, by rw [hsz]; exact hs, fun i hi => ?_⟩
      rw [World.cell?_of_block (w := w) (a := ⟨b, off + i * 3, none⟩) hblk, World.cell?_of_block (w := w) (a := ⟨b, off + i * 3 + 1, none⟩) hblk, World.cell?_of_block (w := w) (a := ⟨b, off + i * 3 + 2, none⟩) hblk]
      exact hc i hi
structure BArgT (w : World) (b : Bat) (a : Option Addr) (n c : Nat) : Prop where
  arg : BArg w b a n c
  typ : RTyq w a n
theorem RTyq.later {w w' : World} {a : Option Addr} {n : Nat} (h : RTyq w a n) (hb : Below w.heap.size w w') : RTyq w' a n := fun hn => by
  obtain ⟨b, off, cur, e, hc⟩ := h hn
  have hlt : b < w.heap.size := by
    rcases Nat.lt_or_ge b w.heap.size with h | h
    · exact h
    · rw [Array.getElem?_eq_none h] at hc; cases hc
  exact ⟨b, off, cur, e, (hb.block b hlt).trans hc⟩
theorem BArgT.later {w w' : World} {b : Bat} {a : Option Addr} {n c : Nat} (h : BArgT w b a n c) (hb : Below w.heap.size w w') : BArgT w' b a n c := ⟨h.arg.later hb, h.typ.later hb⟩
theorem RTyq.set6 {w : World} {a : Option Addr} {n B : Nat} {k0 p0 e0 s0 : Int} {t0 : Bool} {v0 : Value} (h : RTyq w a n) (hb : BBox w B k0 p0 e0 s0 t0 v0) (k p e s : Int) (t : Bool) (v : Value) : RTyq (set6 w B k p e s t v) a n := fun hn => by
  obtain ⟨b, off, cur, e1, hc⟩ := h hn
  have hne : b ≠ B := by
    rintro rfl
    unfold BBox at hb
    rw [hc] at hb
    injection hb with hb
    injection hb with h1 h2 h3
    exact absurd h2 (by decide)
  refine ⟨b, off, cur, e1, ?_⟩
  unfold Go.Proofs.YtfgamkcnnijloaaGreat.set6
  rw [Below.heap_setCell _ _ _ _ hne, Below.heap_setCell _ _ _ _ hne, Below.heap_setCell _ _ _ _ hne, Below.heap_setCell _ _ _ _ hne, Below.heap_setCell _ _ _ _ hne, Below.heap_setCell _ _ _ _ hne]
  exact hc
theorem bread_none (ad : Option Addr) (len cap : Nat) (l : List Nat) (w : World) (hp : Part.ok w ⟨ad, len, cap, l⟩) (hlc : len ≤ cap) (hm : len ≤ 1000000000000000) (h : len < 18 ∨ readN1 l 18 (toldRecs l) = none) :
    Calls Tryz.prog 66 #[.slice ad len cap] w fun x w' => x = .returned (.tuple #[.agg #[.int .i64 0, .int .i64 0, .int .i64 0, .int .i64 0, .bool false, .slice none 0 0], .int .i64 20]) ∧ Below w.heap.size w w' := by
  refine (bread_any ad len cap l w hp hlc hm).mono ?_
  rintro x w' (⟨-, rfl, hb⟩ | ⟨rs, q, a, n, c, h1, h2, -⟩)
  · exact ⟨rfl, hb⟩
  · rcases h with h | h
    · omega
    · rw [h] at h2; cases h2
theorem bread_some (ad : Option Addr) (len cap : Nat) (l : List Nat) (w : World) (hp : Part.ok w ⟨ad, len, cap, l⟩) (hlc : len ≤ cap) (hm : len ≤ 1000000000000000) (h : 18 ≤ len) (rs : List Rec) (q : Nat) (h2 : readN1 l 18 (toldRecs l) = some (rs, q)) :
    Calls Tryz.prog 66 #[.slice ad len cap] w fun x w' => ∃ a n c, x = .returned (.tuple #[.agg #[.int .i64 (l.getD 0 0 : Nat), .int .i64 (prK l), .int .i64 (valN ((l.drop 8).take 4) : Nat), .int .i64 (valN ((l.drop 12).take 4) : Nat), .bool (flK l), .slice a n c], .int .i64 0]) ∧ BArgT w' ⟨(l.getD 0 0 : Nat), prK l, (valN ((l.drop 8).take 4) : Nat), (valN ((l.drop 12).take 4) : Nat), flK l, rs⟩ a n c ∧ Below w.heap.size w w' := by
  refine (bread_any ad len cap l w hp hlc hm).mono ?_
  rintro x w' (⟨h3 | h3, -⟩ | ⟨rs2, q2, a, n, c, h1, h3, rfl, h4, h5, h6, h7, h8, hty, h9⟩)
  · omega
  · rw [h2] at h3; cases h3
  · rw [h2] at h3
    cases h3
    have hl : l.length = len := hp.1
    exact ⟨a, n, c, rfl, ⟨⟨h4.symm, h5, h6, h7, h8, fun r hr => (by have := readN1_sizes hp.2.2.1 h2 r hr; simp only at this; show _ ≤ 9223372036854775807 ∧ _ ≤ 9223372036854775807; omega)⟩, hty⟩, h9⟩
set_option maxRecDepth 100000 in
set_option maxHeartbeats 2000000 in
theorem decode_end (ad : Option Addr) (len cap : Nat) (l : List Nat) (w : World) (hp : Part.ok w ⟨ad, len, cap, l⟩) (hlc : len ≤ cap) (hm : len ≤ 1000000000000000) (h : len < 18 ∨ readN1 l 18 (toldRecs l) = none) :
    Calls Tryz.prog 39 #[.slice ad len cap] w fun x w' => x = .returned (.tuple #[.agg #[.int .i64 0, .int .i64 0, .int .i64 0, .int .i64 0, .bool false, .slice none 0 0], .int .i64 20]) ∧ Below w.heap.size w w' := by
  have HLn : Hid (l.length = len) := hp.1
  have H256 : Hid (∀ x ∈ l, x < 256) := hp.2.2.1
  have b0 : Below w.heap.size w (w.alloc (.cells #[.int .i64 0, .int .i64 0, .int .i64 0, .int .i64 0, .bool false, .slice none 0 0] 30)) := (Below.refl _ _).alloc (Nat.le_refl _) _
  have Q0 : Hid (BBox (w.alloc (.cells #[.int .i64 0, .int .i64 0, .int .i64 0, .int .i64 0, .bool false, .slice none 0 0] 30)) w.heap.size 0 0 0 0 false (.slice none 0 0)) := BBox.new w 0 0 0 0 false _
  have P0 : Hid (Part.ok (w.alloc (.cells #[.int .i64 0, .int .i64 0, .int .i64 0, .int .i64 0, .bool false, .slice none 0 0] 30)) ⟨ad, len, cap, l⟩) := hp.later b0
  have HC := bread_none ad len cap l (w.alloc (.cells #[.int .i64 0, .int .i64 0, .int .i64 0, .int .i64 0, .bool false, .slice none 0 0] 30)) P0.out hlc hm h
  clear hp h
  go_enter Tryz.func39, Tryz.ntmps39
  go_wp2_with (go_at_call 66; refine HC.mono ?_; rintro x w1 ⟨rfl, b1⟩; have XQ1 : Hid (BBox w1 w.heap.size 0 0 0 0 false (.slice none 0 0)) := Q0.out.later b1; have hQ := Q0.out.lt; have hQ1 : w.heap.size < w1.heap.size := Nat.lt_of_lt_of_le hQ b1.size; have c0 := XQ1.out.c0; have c1 := XQ1.out.c1; have c2 := XQ1.out.c2; have c3 := XQ1.out.c3; have c4 := XQ1.out.c4; have c5 := XQ1.out.c5; have cf0 := XQ1.out.free 0; have cf1 := XQ1.out.free 1; have cf2 := XQ1.out.free 2; have cf3 := XQ1.out.free 3; have cf4 := XQ1.out.free 4; have cf5 := XQ1.out.free 5; have B1 : Hid (Below w.heap.size w w1) := b0.trans (b1.mono b0.size); clear b1)
  refine bodyPost_ret (ret_batch Tryz.results39 _ _ w.heap.size 0 0 0 0 false (.slice none 0 0) rfl ((XQ1.out.set6 0 0 0 0 false (.slice none 0 0)).later ((Below.refl _ _).alloc (Nat.le_refl _) _))) rfl ⟨rfl, ?_⟩
  exact (set6_below B1.out (Nat.le_refl _) 0 0 0 0 false (.slice none 0 0)).alloc (set6_below B1.out (Nat.le_refl _) 0 0 0 0 false (.slice none 0 0)).size _
/-- What read has told of the bytes, ahead of Encode. -/
structure Told (l : List Nat) (rs : List Rec) (kk pp ee ss : Int) (tt : Bool) : Prop where
  bat : (⟨kk, pp, ee, ss, tt, rs⟩ : Bat) = batOf l rs
theorem decode_mid (ad : Option Addr) (len cap : Nat) (l : List Nat) (w : World) (hp : Part.ok w ⟨ad, len, cap, l⟩) (hlc : len ≤ cap) (hm : len ≤ 1000000000000000) (h : 18 ≤ len) (rs : List Rec) (q : Nat) (h2 : readN1 l 18 (toldRecs l) = some (rs, q)) :
    ∃ kk pp ee ss tt, Told l rs kk pp ee ss tt ∧ Calls Tryz.prog 66 #[.slice ad len cap] w fun x w' => ∃ a n c, x = .returned (.tuple #[.agg #[.int .i64 kk, .int .i64 pp, .int .i64 ee, .int .i64 ss, .bool tt, .slice a n c], .int .i64 0]) ∧ BArgT w' ⟨kk, pp, ee, ss, tt, rs⟩ a n c ∧ Below w.heap.size w w' :=
  ⟨_, _, _, _, _, ⟨batOf_read l rs hp.2.2.1⟩, bread_some ad len cap l w hp hlc hm h rs q h2⟩
set_option maxRecDepth 100000 in
set_option maxHeartbeats 2000000 in
theorem decode_bad (ad : Option Addr) (len cap : Nat) (l : List Nat) (w : World) (hp : Part.ok w ⟨ad, len, cap, l⟩) (hlc : len ≤ cap) (hm : len ≤ 1000000000000000) (h : 18 ≤ len) (rs : List Rec) (q : Nat) (h2 : readN1 l 18 (toldRecs l) = some (rs, q)) (hc : checkN (batOf l rs) ≠ 0) :
    Calls Tryz.prog 39 #[.slice ad len cap] w fun x w' => x = .returned (.tuple #[.agg #[.int .i64 0, .int .i64 0, .int .i64 0, .int .i64 0, .bool false, .slice none 0 0], .int .i64 22]) ∧ Below w.heap.size w w' := by
  have b0 : Below w.heap.size w (w.alloc (.cells #[.int .i64 0, .int .i64 0, .int .i64 0, .int .i64 0, .bool false, .slice none 0 0] 30)) := (Below.refl _ _).alloc (Nat.le_refl _) _
  have Q0 : Hid (BBox (w.alloc (.cells #[.int .i64 0, .int .i64 0, .int .i64 0, .int .i64 0, .bool false, .slice none 0 0] 30)) w.heap.size 0 0 0 0 false (.slice none 0 0)) := BBox.new w 0 0 0 0 false _
  have P0 : Hid (Part.ok (w.alloc (.cells #[.int .i64 0, .int .i64 0, .int .i64 0, .int .i64 0, .bool false, .slice none 0 0] 30)) ⟨ad, len, cap, l⟩) := hp.later b0
  obtain ⟨kk, pp, ee, ss, tt, HT, HC⟩ := decode_mid ad len cap l (w.alloc (.cells #[.int .i64 0, .int .i64 0, .int .i64 0, .int .i64 0, .bool false, .slice none 0 0] 30)) P0.out hlc hm h rs q h2
  rw [← HT.bat] at hc
  have HE := fun w a n c hA => encode_not kk pp ee ss tt rs a n c w hA hc
  generalize checkN ⟨kk, pp, ee, ss, tt, rs⟩ = cc at *
  have hc2 : (cc != 0) = true := by simpa using hc
  clear hp HT h2 hc
  go_enter Tryz.func39, Tryz.ntmps39
  go_wp2_with (go_at_call 66; refine HC.mono ?_; rintro x w1 ⟨a, n, c, rfl, A1, b1⟩; replace A1 := A1.arg; have B1 : Hid (Below w.heap.size w w1) := b0.trans (b1.mono b0.size); have ba : Below w1.heap.size w1 (w1.alloc (.cells #[.int .i64 kk, .int .i64 pp, .int .i64 ee, .int .i64 ss, .bool tt, .slice a n c] 30)) := ((Below.refl _ _).alloc (Nat.le_refl _) _); have A2 : Hid (BArg (w1.alloc (.cells #[.int .i64 kk, .int .i64 pp, .int .i64 ee, .int .i64 ss, .bool tt, .slice a n c] 30)) ⟨kk, pp, ee, ss, tt, rs⟩ a n c) := A1.later ba; have Y2 : Hid (BBox (w1.alloc (.cells #[.int .i64 kk, .int .i64 pp, .int .i64 ee, .int .i64 ss, .bool tt, .slice a n c] 30)) w1.heap.size kk pp ee ss tt (.slice a n c)) := BBox.new w1 _ _ _ _ _ _; have Q2 : Hid (BBox (w1.alloc (.cells #[.int .i64 kk, .int .i64 pp, .int .i64 ee, .int .i64 ss, .bool tt, .slice a n c] 30)) w.heap.size 0 0 0 0 false (.slice none 0 0)) := (Q0.out.later b1).later ba; have P2 : Hid (Part.ok (w1.alloc (.cells #[.int .i64 kk, .int .i64 pp, .int .i64 ee, .int .i64 ss, .bool tt, .slice a n c] 30)) ⟨ad, len, cap, l⟩) := (P0.out.later b1).later ba; have B2 : Hid (Below w.heap.size w (w1.alloc (.cells #[.int .i64 kk, .int .i64 pp, .int .i64 ee, .int .i64 ss, .bool tt, .slice a n c] 30))) := B1.out.trans (ba.mono B1.out.size); have d0 := Y2.out.c0; have d1 := Y2.out.c1; have d2 := Y2.out.c2; have d3 := Y2.out.c3; have d4 := Y2.out.c4; have d5 := Y2.out.c5; clear A1 b1 ba)
  refine (HE _ a n c A2.out).mono ?_
  rintro x w3 ⟨rfl, b3⟩
  have XQ1 : Hid (BBox w3 w.heap.size 0 0 0 0 false (.slice none 0 0)) := Q2.out.later b3
  have B3 : Hid (Below w.heap.size w w3) := B2.out.trans (b3.mono B2.out.size)
  have c0 := XQ1.out.c0
  have c1 := XQ1.out.c1
  have c2 := XQ1.out.c2
  have c3 := XQ1.out.c3
  have c4 := XQ1.out.c4
  have c5 := XQ1.out.c5
  have cf0 := XQ1.out.free 0
  have cf1 := XQ1.out.free 1
  have cf2 := XQ1.out.free 2
  have cf3 := XQ1.out.free 3
  have cf4 := XQ1.out.free 4
  have cf5 := XQ1.out.free 5
  clear b3 d0 d1 d2 d3 d4 d5
  go_wp2
  refine bodyPost_ret (ret_batch Tryz.results39 _ _ w.heap.size 0 0 0 0 false (.slice none 0 0) rfl (XQ1.out.set6 0 0 0 0 false (.slice none 0 0))) rfl ⟨rfl, ?_⟩
  exact set6_below B3.out (Nat.le_refl _) 0 0 0 0 false (.slice none 0 0)
set_option maxRecDepth 100000 in
set_option maxHeartbeats 2000000 in
theorem decode_diff (ad : Option Addr) (len cap : Nat) (l : List Nat) (w : World) (hp : Part.ok w ⟨ad, len, cap, l⟩) (hlc : len ≤ cap) (hm : len ≤ 1000000000000000) (h : 18 ≤ len) (rs : List Rec) (q : Nat) (h2 : readN1 l 18 (toldRecs l) = some (rs, q)) (hc : checkN (batOf l rs) = 0) (hw : writeN (batOf l rs) ≠ l) :
    Calls Tryz.prog 39 #[.slice ad len cap] w fun x w' => x = .returned (.tuple #[.agg #[.int .i64 0, .int .i64 0, .int .i64 0, .int .i64 0, .bool false, .slice none 0 0], .int .i64 22]) ∧ Below w.heap.size w w' := by
  have b0 : Below w.heap.size w (w.alloc (.cells #[.int .i64 0, .int .i64 0, .int .i64 0, .int .i64 0, .bool false, .slice none 0 0] 30)) := (Below.refl _ _).alloc (Nat.le_refl _) _
  have Q0 : Hid (BBox (w.alloc (.cells #[.int .i64 0, .int .i64 0, .int .i64 0, .int .i64 0, .bool false, .slice none 0 0] 30)) w.heap.size 0 0 0 0 false (.slice none 0 0)) := BBox.new w 0 0 0 0 false _
  have P0 : Hid (Part.ok (w.alloc (.cells #[.int .i64 0, .int .i64 0, .int .i64 0, .int .i64 0, .bool false, .slice none 0 0] 30)) ⟨ad, len, cap, l⟩) := hp.later b0
  obtain ⟨kk, pp, ee, ss, tt, HT, HC⟩ := decode_mid ad len cap l (w.alloc (.cells #[.int .i64 0, .int .i64 0, .int .i64 0, .int .i64 0, .bool false, .slice none 0 0] 30)) P0.out hlc hm h rs q h2
  rw [← HT.bat] at hc
  rw [← HT.bat] at hw
  have HW : Hid (writeN ⟨kk, pp, ee, ss, tt, rs⟩ ≠ l) := hw
  have HE := fun w a n c hA => encode_ok kk pp ee ss tt rs a n c w hA hc
  clear hp HT h2 hc hw
  go_enter Tryz.func39, Tryz.ntmps39
  go_wp2_with (go_at_call 66; refine HC.mono ?_; rintro x w1 ⟨a, n, c, rfl, A1, b1⟩; replace A1 := A1.arg; have B1 : Hid (Below w.heap.size w w1) := b0.trans (b1.mono b0.size); have ba : Below w1.heap.size w1 (w1.alloc (.cells #[.int .i64 kk, .int .i64 pp, .int .i64 ee, .int .i64 ss, .bool tt, .slice a n c] 30)) := ((Below.refl _ _).alloc (Nat.le_refl _) _); have A2 : Hid (BArg (w1.alloc (.cells #[.int .i64 kk, .int .i64 pp, .int .i64 ee, .int .i64 ss, .bool tt, .slice a n c] 30)) ⟨kk, pp, ee, ss, tt, rs⟩ a n c) := A1.later ba; have Y2 : Hid (BBox (w1.alloc (.cells #[.int .i64 kk, .int .i64 pp, .int .i64 ee, .int .i64 ss, .bool tt, .slice a n c] 30)) w1.heap.size kk pp ee ss tt (.slice a n c)) := BBox.new w1 _ _ _ _ _ _; have Q2 : Hid (BBox (w1.alloc (.cells #[.int .i64 kk, .int .i64 pp, .int .i64 ee, .int .i64 ss, .bool tt, .slice a n c] 30)) w.heap.size 0 0 0 0 false (.slice none 0 0)) := (Q0.out.later b1).later ba; have P2 : Hid (Part.ok (w1.alloc (.cells #[.int .i64 kk, .int .i64 pp, .int .i64 ee, .int .i64 ss, .bool tt, .slice a n c] 30)) ⟨ad, len, cap, l⟩) := (P0.out.later b1).later ba; have B2 : Hid (Below w.heap.size w (w1.alloc (.cells #[.int .i64 kk, .int .i64 pp, .int .i64 ee, .int .i64 ss, .bool tt, .slice a n c] 30))) := B1.out.trans (ba.mono B1.out.size); have d0 := Y2.out.c0; have d1 := Y2.out.c1; have d2 := Y2.out.c2; have d3 := Y2.out.c3; have d4 := Y2.out.c4; have d5 := Y2.out.c5; clear A1 b1 ba)
  refine (HE _ a n c A2.out).mono ?_
  rintro x w3 ⟨v3, rfl, own3, b3⟩
  obtain ⟨m3, hm3⟩ : ∃ m, (writeN ⟨kk, pp, ee, ss, tt, rs⟩).length = m := ⟨_, rfl⟩
  obtain ⟨a3, c3, rfl, ok3, -⟩ := own3.slice m3 hm3
  have HEq := equal_any a3 ad m3 c3 len cap _ l w3 ok3 (P2.out.later b3) false ⟨fun e => (by cases e), fun e => absurd e HW.out⟩
  have Q3 : Hid (BBox w3 w.heap.size 0 0 0 0 false (.slice none 0 0)) := Q2.out.later b3
  have B3 : Hid (Below w.heap.size w w3) := B2.out.trans (b3.mono B2.out.size)
  clear own3 ok3 hm3 b3 d0 d1 d2 d3 d4 d5
  go_wp2_with (go_at_call 67; refine HEq.mono ?_; rintro x w4 ⟨rfl, b4⟩; have XQ1 : Hid (BBox w4 w.heap.size 0 0 0 0 false (.slice none 0 0)) := Q3.out.later b4; have B4 : Hid (Below w.heap.size w w4) := B3.out.trans (b4.mono B3.out.size); have c0 := XQ1.out.c0; have c1 := XQ1.out.c1; have c2 := XQ1.out.c2; have c3 := XQ1.out.c3; have c4 := XQ1.out.c4; have c5 := XQ1.out.c5; have cf0 := XQ1.out.free 0; have cf1 := XQ1.out.free 1; have cf2 := XQ1.out.free 2; have cf3 := XQ1.out.free 3; have cf4 := XQ1.out.free 4; have cf5 := XQ1.out.free 5; clear b4)
  refine bodyPost_ret (ret_batch Tryz.results39 _ _ w.heap.size 0 0 0 0 false (.slice none 0 0) rfl (XQ1.out.set6 0 0 0 0 false (.slice none 0 0))) rfl ⟨rfl, ?_⟩
  exact set6_below B4.out (Nat.le_refl _) 0 0 0 0 false (.slice none 0 0)
set_option maxRecDepth 100000 in
set_option maxHeartbeats 2000000 in
theorem decode_good (ad : Option Addr) (len cap : Nat) (l : List Nat) (w : World) (hp : Part.ok w ⟨ad, len, cap, l⟩) (hlc : len ≤ cap) (hm : len ≤ 1000000000000000) (h : 18 ≤ len) (rs : List Rec) (q : Nat) (h2 : readN1 l 18 (toldRecs l) = some (rs, q)) (hc : checkN (batOf l rs) = 0) (hw : writeN (batOf l rs) = l) :
    Calls Tryz.prog 39 #[.slice ad len cap] w fun x w' => ∃ kk pp ee ss tt a n c, x = .returned (.tuple #[.agg #[.int .i64 kk, .int .i64 pp, .int .i64 ee, .int .i64 ss, .bool tt, .slice a n c], .int .i64 0]) ∧ (⟨kk, pp, ee, ss, tt, rs⟩ : Bat) = batOf l rs ∧ BArgT w' ⟨kk, pp, ee, ss, tt, rs⟩ a n c ∧ Below w.heap.size w w' := by
  have b0 : Below w.heap.size w (w.alloc (.cells #[.int .i64 0, .int .i64 0, .int .i64 0, .int .i64 0, .bool false, .slice none 0 0] 30)) := (Below.refl _ _).alloc (Nat.le_refl _) _
  have Q0 : Hid (BBox (w.alloc (.cells #[.int .i64 0, .int .i64 0, .int .i64 0, .int .i64 0, .bool false, .slice none 0 0] 30)) w.heap.size 0 0 0 0 false (.slice none 0 0)) := BBox.new w 0 0 0 0 false _
  have P0 : Hid (Part.ok (w.alloc (.cells #[.int .i64 0, .int .i64 0, .int .i64 0, .int .i64 0, .bool false, .slice none 0 0] 30)) ⟨ad, len, cap, l⟩) := hp.later b0
  obtain ⟨kk, pp, ee, ss, tt, HT, HC⟩ := decode_mid ad len cap l (w.alloc (.cells #[.int .i64 0, .int .i64 0, .int .i64 0, .int .i64 0, .bool false, .slice none 0 0] 30)) P0.out hlc hm h rs q h2
  rw [← HT.bat] at hc
  rw [← HT.bat] at hw
  have HW : Hid (writeN ⟨kk, pp, ee, ss, tt, rs⟩ = l) := hw
  have HT' : Hid ((⟨kk, pp, ee, ss, tt, rs⟩ : Bat) = batOf l rs) := HT.bat
  have HE := fun w a n c hA => encode_ok kk pp ee ss tt rs a n c w hA hc
  clear hp HT h2 hc hw
  go_enter Tryz.func39, Tryz.ntmps39
  go_wp2_with (go_at_call 66; refine HC.mono ?_; rintro x w1 ⟨a, n, c, rfl, A1, b1⟩; have B1 : Hid (Below w.heap.size w w1) := b0.trans (b1.mono b0.size); have ba : Below w1.heap.size w1 (w1.alloc (.cells #[.int .i64 kk, .int .i64 pp, .int .i64 ee, .int .i64 ss, .bool tt, .slice a n c] 30)) := ((Below.refl _ _).alloc (Nat.le_refl _) _); have A2 : Hid (BArgT (w1.alloc (.cells #[.int .i64 kk, .int .i64 pp, .int .i64 ee, .int .i64 ss, .bool tt, .slice a n c] 30)) ⟨kk, pp, ee, ss, tt, rs⟩ a n c) := A1.later ba; have Y2 : Hid (BBox (w1.alloc (.cells #[.int .i64 kk, .int .i64 pp, .int .i64 ee, .int .i64 ss, .bool tt, .slice a n c] 30)) w1.heap.size kk pp ee ss tt (.slice a n c)) := BBox.new w1 _ _ _ _ _ _; have Q2 : Hid (BBox (w1.alloc (.cells #[.int .i64 kk, .int .i64 pp, .int .i64 ee, .int .i64 ss, .bool tt, .slice a n c] 30)) w.heap.size 0 0 0 0 false (.slice none 0 0)) := (Q0.out.later b1).later ba; have P2 : Hid (Part.ok (w1.alloc (.cells #[.int .i64 kk, .int .i64 pp, .int .i64 ee, .int .i64 ss, .bool tt, .slice a n c] 30)) ⟨ad, len, cap, l⟩) := (P0.out.later b1).later ba; have B2 : Hid (Below w.heap.size w (w1.alloc (.cells #[.int .i64 kk, .int .i64 pp, .int .i64 ee, .int .i64 ss, .bool tt, .slice a n c] 30))) := B1.out.trans (ba.mono B1.out.size); have d0 := Y2.out.c0; have d1 := Y2.out.c1; have d2 := Y2.out.c2; have d3 := Y2.out.c3; have d4 := Y2.out.c4; have d5 := Y2.out.c5; clear A1 b1 ba)
  refine (HE _ a n c A2.out.arg).mono ?_
  rintro x w3 ⟨v3, rfl, own3, b3⟩
  obtain ⟨m3, hm3⟩ : ∃ m, (writeN ⟨kk, pp, ee, ss, tt, rs⟩).length = m := ⟨_, rfl⟩
  obtain ⟨a3, c3, rfl, ok3, -⟩ := own3.slice m3 hm3
  have HEq := equal_any a3 ad m3 c3 len cap _ l w3 ok3 (P2.out.later b3) true ⟨fun _ => HW.out, fun _ => rfl⟩
  have Q3 : Hid (BBox w3 w.heap.size 0 0 0 0 false (.slice none 0 0)) := Q2.out.later b3
  have Y3 : Hid (BBox w3 w1.heap.size kk pp ee ss tt (.slice a n c)) := Y2.out.later b3
  have A3 : Hid (BArgT w3 ⟨kk, pp, ee, ss, tt, rs⟩ a n c) := A2.out.later b3
  have B3 : Hid (Below w.heap.size w w3) := B2.out.trans (b3.mono B2.out.size)
  clear own3 ok3 hm3 b3 d0 d1 d2 d3 d4 d5
  go_wp2_with (go_at_call 67; refine HEq.mono ?_; rintro x w4 ⟨rfl, b4⟩; have XQ1 : Hid (BBox w4 w.heap.size 0 0 0 0 false (.slice none 0 0)) := Q3.out.later b4; have Y4 : Hid (BBox w4 w1.heap.size kk pp ee ss tt (.slice a n c)) := Y3.out.later b4; have A4 : Hid (BArgT w4 ⟨kk, pp, ee, ss, tt, rs⟩ a n c) := A3.out.later b4; have B4 : Hid (Below w.heap.size w w4) := B3.out.trans (b4.mono B3.out.size); have c0 := XQ1.out.c0; have c1 := XQ1.out.c1; have c2 := XQ1.out.c2; have c3 := XQ1.out.c3; have c4 := XQ1.out.c4; have c5 := XQ1.out.c5; have cf0 := XQ1.out.free 0; have cf1 := XQ1.out.free 1; have cf2 := XQ1.out.free 2; have cf3 := XQ1.out.free 3; have cf4 := XQ1.out.free 4; have cf5 := XQ1.out.free 5; have d0 := Y4.out.c0; have d1 := Y4.out.c1; have d2 := Y4.out.c2; have d3 := Y4.out.c3; have d4 := Y4.out.c4; have d5 := Y4.out.c5; clear b4)
  refine bodyPost_ret (ret_batch Tryz.results39 _ _ w.heap.size kk pp ee ss tt (.slice a n c) rfl (XQ1.out.set6 kk pp ee ss tt (.slice a n c))) rfl ⟨kk, pp, ee, ss, tt, a, n, c, rfl, HT'.out, ?_, ?_⟩
  · exact ⟨⟨A4.out.arg.len_eq, A4.out.arg.nil, A4.out.arg.le, A4.out.arg.room, A4.out.arg.row.set6 XQ1.out kk pp ee ss tt (.slice a n c), A4.out.arg.size⟩, A4.out.typ.set6 XQ1.out kk pp ee ss tt (.slice a n c)⟩
  · exact set6_below B4.out (Nat.le_refl _) kk pp ee ss tt (.slice a n c)
theorem decode_any (ad : Option Addr) (len cap : Nat) (l : List Nat) (w : World) (hp : Part.ok w ⟨ad, len, cap, l⟩) (hlc : len ≤ cap) (hm : len ≤ 1000000000000000) :
    Calls Tryz.prog 39 #[.slice ad len cap] w fun x w' => ∃ k p e s t rs a n c, x = .returned (.tuple #[.agg #[.int .i64 k, .int .i64 p, .int .i64 e, .int .i64 s, .bool t, .slice a n c], .int .i64 (decodeN l).2]) ∧ (⟨k, p, e, s, t, rs⟩ : Bat) = (decodeN l).1 ∧ BArgT w' ⟨k, p, e, s, t, rs⟩ a n c ∧ Below w.heap.size w w' := by
  have hl : l.length = len := hp.1
  by_cases h1 : 18 ≤ len
  · cases h2 : readN1 l 18 (toldRecs l) with
    | none =>
      rw [decode_none (Or.inr h2)]
      refine (decode_end ad len cap l w hp hlc hm (Or.inr h2)).mono ?_
      rintro x w' ⟨rfl, hb⟩
      exact ⟨0, 0, 0, 0, false, [], none, 0, 0, rfl, rfl, ⟨⟨rfl, fun _ => ⟨rfl, rfl⟩, by omega, by unfold maxLen; omega, Or.inl rfl, fun r hr => (by cases hr)⟩, fun h => absurd h (by omega)⟩, hb⟩
    | some y =>
      obtain ⟨rs, q⟩ := y
      by_cases hc : checkN (batOf l rs) = 0
      · by_cases hw : writeN (batOf l rs) = l
        · rw [decode_some (by omega) h2 hc hw]
          refine (decode_good ad len cap l w hp hlc hm h1 rs q h2 hc hw).mono ?_
          rintro x w' ⟨kk, pp, ee, ss, tt, a, n, c, rfl, ht, ha, hb⟩
          exact ⟨kk, pp, ee, ss, tt, rs, a, n, c, rfl, ht, ha, hb⟩
        · rw [decode_other (by omega) h2 (fun h => hw h.2)]
          refine (decode_diff ad len cap l w hp hlc hm h1 rs q h2 hc hw).mono ?_
          rintro x w' ⟨rfl, hb⟩
          exact ⟨0, 0, 0, 0, false, [], none, 0, 0, rfl, rfl, ⟨⟨rfl, fun _ => ⟨rfl, rfl⟩, by omega, by unfold maxLen; omega, Or.inl rfl, fun r hr => (by cases hr)⟩, fun h => absurd h (by omega)⟩, hb⟩
      · rw [decode_other (by omega) h2 (fun h => hc h.1)]
        refine (decode_bad ad len cap l w hp hlc hm h1 rs q h2 hc).mono ?_
        rintro x w' ⟨rfl, hb⟩
        exact ⟨0, 0, 0, 0, false, [], none, 0, 0, rfl, rfl, ⟨⟨rfl, fun _ => ⟨rfl, rfl⟩, by omega, by unfold maxLen; omega, Or.inl rfl, fun r hr => (by cases hr)⟩, fun h => absurd h (by omega)⟩, hb⟩
  · rw [decode_none (Or.inl (by omega))]
    refine (decode_end ad len cap l w hp hlc hm (Or.inl (by omega))).mono ?_
    rintro x w' ⟨rfl, hb⟩
    exact ⟨0, 0, 0, 0, false, [], none, 0, 0, rfl, rfl, ⟨⟨rfl, fun _ => ⟨rfl, rfl⟩, by omega, by unfold maxLen; omega, Or.inl rfl, fun r hr => (by cases hr)⟩, fun h => absurd h (by omega)⟩, hb⟩
end Go.Proofs.YtfgamkcnnijloaaGreat
