/- What the writer's methods number and text do: bytes behind what was written. What the writer's method head does of a batch that may be: the first 18 bytes. What the writer's methods record and head do. -/
import Derived.Test.YtfgamkcnnijloaaGreatPZRec
import Derived.Test.YtfgamkcnnijloaaGreatPZJoin
namespace Go.Proofs.YtfgamkcnnijloaaGreat
open Go.RowKit

/-- In w the block B is a writer whose slice v has the bytes L; both in blocks from N on. -/
structure Wr (w : World) (N B : Nat) (v : Value) (L : List Nat) : Prop where
  box : w.heap[B]? = some (.cells #[v] 110 (0, 0))
  le : N ≤ B
  own : Own w N v L
variable {w w' : World} {N B : Nat} {v v' : Value} {L L' : List Nat}
theorem Wr.lt (h : Wr w N B v L) : B < w.heap.size := by
  rcases Nat.lt_or_ge B w.heap.size with hlt | hge
  · exact hlt
  · have := h.box; rw [Array.getElem?_eq_none hge] at this; cases this
theorem Wr.later (h : Wr w N B v L) (hb : Below w.heap.size w w') : Wr w' N B v L := ⟨(hb.block B h.lt).trans h.box, h.le, h.own.later hb⟩
theorem Wr.c0 (h : Wr w N B v L) : w.cell? ⟨B, 0, none⟩ = some v := by rw [cell_of_row w B 0 _ _ _ h.box]; rfl
theorem Wr.f0 (h : Wr w N B v L) : w.frozen? ⟨B, 0, none⟩ = false := frozen_of_row w B 0 _ _ h.box
/-- A slice of bytes is no writer: they lie in unlike blocks. -/
theorem own_ne {n : Nat} {xs : List Value} (h : w.ownsRow N 5 1 v n xs) {cs : Array Value} (hb : w.heap[B]? = some (.cells cs 110 (0, 0))) : v.ownBlock ≠ some B := by
  intro e
  rcases h.2 with ⟨rfl, _⟩ | ⟨g, cap, cur, rfl, _, hg, _⟩
  · simp [Value.ownBlock] at e
  · simp [Value.ownBlock] at e
    subst e
    rw [hg] at hb
    cases hb
theorem own_set {n : Nat} {xs : List Value} {e0 size : Nat} (h : w.ownsRow N e0 size v n xs) (hne : v.ownBlock ≠ some B) (u : Value) : (w.setCell ⟨B, 0, none⟩ u).ownsRow N e0 size v n xs := by
  refine ⟨h.1, ?_⟩
  rcases h.2 with h2 | ⟨g, cap, cur, hv, hgb, hg, r⟩
  · exact Or.inl h2
  · refine Or.inr ⟨g, cap, cur, hv, hgb, ?_, r⟩
    rw [Below.heap_setCell _ _ _ _ (by show g ≠ B; intro e; apply hne; rw [hv, e]; rfl)]
    exact hg
/-- What is below N, and every block that is neither bytes nor a writer, is as it was. -/
structure Keep (N : Nat) (w w' : World) : Prop where
  below : Below N w w'
  typed : ∀ (k : Nat) (cs : Array Value) (T : TypeId) (fr : Nat × Nat), w.heap[k]? = some (.cells cs T fr) → T ≠ 5 → T ≠ 110 → w'.heap[k]? = some (.cells cs T fr)
theorem Keep.trans {w'' : World} (h : Keep N w w') (h' : Keep N w' w'') : Keep N w w'' :=
  ⟨h.below.trans h'.below, fun k cs T fr e a b => h'.typed k cs T fr (h.typed k cs T fr e a b) a b⟩
theorem Keep.refl (N : Nat) (w : World) : Keep N w w := ⟨Below.refl _ _, fun _ _ _ _ e _ _ => e⟩
theorem Keep.of (h : Below w.heap.size w w') (hN : N ≤ w.heap.size) : Keep N w w' :=
  ⟨h.mono hN, fun k cs T fr e _ _ => (h.block k (by
    rcases Nat.lt_or_ge k w.heap.size with hlt | hge
    · exact hlt
    · rw [Array.getElem?_eq_none hge] at e; cases e)).trans e⟩
theorem Keep.box {k p e s : Int} {t : Bool} {u : Value} {C : Nat} (h : Keep N w w') (hb : BBox w C k p e s t u) : BBox w' C k p e s t u := h.typed _ _ _ _ hb (by decide) (by decide)
theorem Wr.store {n : Nat} (h : Wr w N B v L) (hn : L'.length = n) (hlt : ∀ x ∈ L', x < 256) (hown : w'.ownsRow N 5 1 v' n (L'.map bv)) (hg : w.grownBy w' v.ownBlock) :
    Wr (w'.setCell ⟨B, 0, none⟩ v') N B v' L' ∧ Keep N w (w'.setCell ⟨B, 0, none⟩ v') ∧ w'.cell? ⟨B, 0, none⟩ = some v ∧ w'.frozen? ⟨B, 0, none⟩ = false := by
  have hb : w'.heap[B]? = some (.cells #[v] 110 (0, 0)) := (hg.block B h.lt (fun e => own_ne h.own.2 h.box e.symm)).trans h.box
  refine ⟨⟨?_, h.le, hlt, by rw [hn]; exact own_set hown (own_ne hown hb) v'⟩, ⟨?_, ?_⟩, by rw [cell_of_row w' B 0 _ _ _ hb]; rfl, frozen_of_row w' B 0 _ _ hb⟩
  · rw [setCell_eq_setRow w' B 0 _ _ _ v' hb]
    exact setRow_heap w' B _ _ _ _ hb
  · exact ((Below.refl N w).grown hg (Nat.le_trans h.le (Nat.le_of_lt h.lt)) (fun k hk => (h.own.2.lt k hk).1)).setCell h.le _
  · intro k cs T fr e h5 h53
    have hk : k < w.heap.size := by
      rcases Nat.lt_or_ge k w.heap.size with hlt | hge
      · exact hlt
      · rw [Array.getElem?_eq_none hge] at e; cases e
    have hB : k ≠ B := by
      intro e2; subst e2; rw [h.box] at e; cases e; exact h53 rfl
    have hv : some k ≠ v.ownBlock := by
      intro e2
      rcases h.own.2.2 with ⟨rfl, _⟩ | ⟨g, cap, cur, rfl, _, hg2, _⟩
      · simp [Value.ownBlock] at e2
      · simp [Value.ownBlock] at e2
        subst e2
        rw [hg2] at e; cases e; exact h5 rfl
    rw [Below.heap_setCell _ _ _ _ (by exact hB), hg.block k hk hv]
    exact e
set_option maxHeartbeats 1000000 in
theorem wnumber_any (n size : Nat) (w : World) (N B : Nat) (v : Value) (L : List Nat) (h : Wr w N B v L) (h1 : 1 ≤ size) (h6 : size ≤ 6) (hn : n < 2 ^ (8 * size)) (hL : L.length ≤ 1000000) :
    Calls Tryz.prog 87 #[.pointer (some ⟨B, 0, none⟩), .int .i64 n, .int .i64 size] w fun e w' => ∃ v', e = .returned (.tuple #[]) ∧ Wr w' N B v' (L ++ spellN n size) ∧ Keep N w w' := by
  have HW : Hid (Wr w N B v L) := h
  clear h
  go_enter Tryz.func87, Tryz.ntmps87
  go_wp2_with fail
  refine (put_any n size _).mono ?_
  rintro e w1 ⟨v1, rfl, own1, b1⟩
  rw [putN_ok n size h1 h6 (by omega)] at own1 ⊢
  obtain ⟨a1, c1, rfl, ok1, -⟩ := own1.slice size (spellN_length _ _)
  have O1 : Hid (Part.ok w1 ⟨a1, size, c1, spellN n size⟩) := ok1
  have H1 : Hid (Wr w1 N B v L) := HW.out.later b1
  have B1 : Hid (Keep N w w1) := Keep.of b1 (Nat.le_trans HW.out.le (Nat.le_of_lt HW.out.lt))
  have k0 := H1.out.c0
  clear own1 ok1 b1 HW hn
  go_wp2_with (at_builtin; refine app_any rfl _ _ rfl N v L.length L rfl H1.out.own.2 a1 size c1 (spellN n size) rfl (spellN_length _ _) O1.out.2.1 O1.out.2.2 (by omega) (Nat.le_trans H1.out.le (Nat.le_of_lt H1.out.lt)) ?_; intro v2 w2 hown2 hg2; obtain ⟨W2, B2, k2, f2⟩ := H1.out.store (by rw [List.length_append, spellN_length]) (fun x hx => (List.mem_append.1 hx).elim (H1.out.own.1 x) (spellN_lt _ _ x)) hown2 hg2; have X2 : Hid (Wr (w2.setCell ⟨B, 0, none⟩ v2) N B v2 (L ++ spellN n size)) := W2; obtain ⟨a2, c2, hv2, -⟩ := W2.own.slice (L.length + size) (by rw [List.length_append, spellN_length]); subst hv2; clear W2 hg2 hown2)
  go_end0
  exact ⟨_, rfl, X2.out, B1.out.trans B2⟩
theorem wnumber_at (i j : Int) (n size : Nat) (w : World) (N B : Nat) (v : Value) (L : List Nat) (hi : i = n) (hj : j = size) (h : Wr w N B v L) (h1 : 1 ≤ size) (h6 : size ≤ 6) (hn : n < 2 ^ (8 * size)) (hL : L.length ≤ 1000000) :
    Calls Tryz.prog 87 #[.pointer (some ⟨B, 0, none⟩), .int .i64 i, .int .i64 j] w fun e w' => ∃ v', e = .returned (.tuple #[]) ∧ Wr w' N B v' (L ++ spellN n size) ∧ Keep N w w' := by
  subst hi hj
  exact wnumber_any n size w N B v L h h1 h6 hn hL
set_option maxRecDepth 100000 in
set_option maxHeartbeats 1000000 in
theorem text_wr (s : ByteArray) (w : World) (N B : Nat) (v : Value) (L : List Nat) (h : Wr w N B v L) (hs : s.size ≤ 65535) (hL : L.length ≤ 1000000) :
    Calls Tryz.prog 88 #[.pointer (some ⟨B, 0, none⟩), .string s] w fun e w' => ∃ v', e = .returned (.tuple #[]) ∧ Wr w' N B v' (L ++ (spellN s.size 2 ++ sbytes s)) ∧ Keep N w w' := by
  have HW : Hid (Wr w N B v L) := h
  clear h
  have hl : (spellN s.size 2 ++ sbytes s).length = 2 + s.size := by rw [List.length_append, spellN_length, sbytes_length]
  obtain ⟨m, hm⟩ : ∃ m, m = 2 + s.size := ⟨_, rfl⟩
  rw [← hm] at hl
  have hm2 : m ≤ 65537 := by omega
  clear hm
  generalize hT : spellN s.size 2 ++ sbytes s = T at hl ⊢
  go_enter Tryz.func88, Tryz.ntmps88
  go_wp2_with fail
  refine (text_any s _ (by unfold maxLen; omega)).mono ?_
  rintro e w1 ⟨v1, rfl, own1, b1⟩
  rw [textN_ok s hs] at own1 ⊢
  simp only [hT] at own1
  obtain ⟨a1, c1, rfl, ok1, -⟩ := own1.slice m hl
  have O1 : Hid (Part.ok w1 ⟨a1, m, c1, T⟩) := ok1
  have H1 : Hid (Wr w1 N B v L) := HW.out.later b1
  have B1 : Hid (Keep N w w1) := Keep.of b1 (Nat.le_trans HW.out.le (Nat.le_of_lt HW.out.lt))
  have k0 := H1.out.c0
  have HT : Hid (T.length = m) := hl
  have HT2 : Hid (∀ x ∈ T, x < 256) := own1.1
  clear own1 ok1 b1 HW hl hT
  go_wp2_with (at_builtin; refine app_any rfl _ _ rfl N v L.length L rfl H1.out.own.2 a1 m c1 T rfl HT.out O1.out.2.1 O1.out.2.2 (by omega) (Nat.le_trans H1.out.le (Nat.le_of_lt H1.out.lt)) ?_; intro v2 w2 hown2 hg2; obtain ⟨W2, B2, k2, f2⟩ := H1.out.store (by rw [List.length_append, HT.out]) (fun x hx => (List.mem_append.1 hx).elim (H1.out.own.1 x) (HT2.out x)) hown2 hg2; have X2 : Hid (Wr (w2.setCell ⟨B, 0, none⟩ v2) N B v2 (L ++ T)) := W2; obtain ⟨a2, c2, hv2, -⟩ := W2.own.slice (L.length + m) (by rw [List.length_append, HT.out]); subst hv2; clear W2 hg2 hown2)
  go_end0
  exact ⟨_, rfl, X2.out, B1.out.trans B2⟩
end Go.Proofs.YtfgamkcnnijloaaGreat
namespace Go.Proofs.YtfgamkcnnijloaaGreat
open Go.RowKit

set_option maxHeartbeats 4000000 in
theorem head_any (kn en sn : Nat) (p : Int) (t : Bool) (rs : List Rec) (ad : Option Addr) (len cap : Nat) (w : World) (N B : Nat) (v : Value) (h : Wr w N B v []) (hl : rs.length = len)
    (hk : kn ≤ 3) (hp : -1 ≤ p) (hp2 : p < 281474976710656) (he : en < 2147483648) (hs : sn ≤ 2147483648) (hlen : len ≤ 64) :
    Calls Tryz.prog 60 #[.pointer (some ⟨B, 0, none⟩), .agg #[.int .i64 kn, .int .i64 p, .int .i64 en, .int .i64 sn, .bool t, .slice ad len cap]] w fun x w' => ∃ v', x = .returned (.tuple #[]) ∧ Wr w' N B v' (headBs ⟨kn, p, en, sn, t, rs⟩) ∧ Keep N w w' := by
  have bA : Below w.heap.size w (w.alloc (.cells #[.int .i64 kn, .int .i64 p, .int .i64 en, .int .i64 sn, .bool t, .slice ad len cap] 30)) := (Below.refl _ _).alloc (Nat.le_refl _) _
  have X0 : Hid (Wr (w.alloc (.cells #[.int .i64 kn, .int .i64 p, .int .i64 en, .int .i64 sn, .bool t, .slice ad len cap] 30)) N B v []) := h.later bA
  have B0 : Hid (Keep N w (w.alloc (.cells #[.int .i64 kn, .int .i64 p, .int .i64 en, .int .i64 sn, .bool t, .slice ad len cap] 30))) := Keep.of bA (Nat.le_trans h.le (Nat.le_of_lt h.lt))
  have R0 : Hid (BBox (w.alloc (.cells #[.int .i64 kn, .int .i64 p, .int .i64 en, .int .i64 sn, .bool t, .slice ad len cap] 30)) w.heap.size kn p en sn t (.slice ad len cap)) := BBox.new _ _ _ _ _ _ _
  have HE : Hid (([] : List Nat) ++ spellN kn 1 ++ spellN (flagsN ⟨kn, p, en, sn, t, rs⟩) 1 ++ spellN (prodN ⟨kn, p, en, sn, t, rs⟩) 6 ++ spellN en 4 ++ spellN sn 4 ++ spellN len 2 = headBs ⟨kn, p, en, sn, t, rs⟩) := by
    show _ = _
    have hf : flagsN ⟨kn, p, en, sn, t, rs⟩ ≤ 255 := by unfold flagsN; split <;> split <;> omega
    rw [spell_one kn (by omega), spell_one _ hf, headBs]
    simp only [Int.toNat_natCast, hl, List.nil_append, List.append_assoc, List.cons_append]
  have hq : prodN ⟨kn, p, en, sn, t, rs⟩ < 2 ^ (8 * 6) := by
    unfold prodN
    simp only
    split
    · omega
    · omega
  have k1 : kn < 2 ^ (8 * 1) := by omega
  have k2 : en < 2 ^ (8 * 4) := by omega
  have k3 : sn < 2 ^ (8 * 4) := by omega
  have k4 : len < 2 ^ (8 * 2) := by omega
  have HK1 : Hid (kn < 2 ^ (8 * 1)) := k1
  have HK2 : Hid (en < 2 ^ (8 * 4)) := k2
  have HK3 : Hid (sn < 2 ^ (8 * 4)) := k3
  have HK4 : Hid (len < 2 ^ (8 * 2)) := k4
  have HK5 : Hid (prodN ⟨kn, p, en, sn, t, rs⟩ < 2 ^ (8 * 6)) := hq
  clear h bA hl k1 k2 k3 k4 hq
  by_cases hp1 : p = -1
  · subst hp1
    have HQ : Hid (prodN ⟨kn, -1, en, sn, t, rs⟩ = 0) := rfl
    rw [HQ.out] at HE HK5
    cases t
    · skip
      have HF : Hid (0 < 2 ^ (8 * 1)) := (show 0 < 2 ^ (8 * 1) by decide)
      have HG : Hid ((0 : Int) = ((0 : Nat) : Int)) := (show (0 : Int) = ((0 : Nat) : Int) by decide)
      rw [show flagsN ⟨kn, -1, en, sn, false, rs⟩ = 0 from rfl] at HE
      go_enter Tryz.func60, Tryz.ntmps60
      go_wp2_with fail
      refine (wnumber_at _ _ _ 1 _ N B v _ (by first | rfl | exact HG.out) (by rfl) X0.out (by omega) (by omega) HK1.out (by simp)).mono ?_
      rintro x w1 ⟨v1, rfl, W1, K1⟩
      have X1 : Hid (Wr w1 N B v1 _) := W1
      have B1 : Hid (Keep N w w1) := B0.out.trans K1
      have R1 : Hid (BBox w1 w.heap.size _ _ _ _ _ _) := K1.box R0.out
      clear W1 K1 X0 B0 R0
      go_wp2_with fail
      refine (wnumber_at _ _ _ 1 _ N B v1 _ (by first | rfl | exact HG.out) (by rfl) X1.out (by omega) (by omega) HF.out (by simp [spellN_length])).mono ?_
      rintro x w2 ⟨v2, rfl, W2, K2⟩
      have X2 : Hid (Wr w2 N B v2 _) := W2
      have B2 : Hid (Keep N w w2) := B1.out.trans K2
      have R2 : Hid (BBox w2 w.heap.size _ _ _ _ _ _) := K2.box R1.out
      clear W2 K2 X1 B1 R1
      go_wp2_with fail
      refine (wnumber_at _ _ _ 6 _ N B v2 _ (by first | rfl | exact HG.out) (by rfl) X2.out (by omega) (by omega) HK5.out (by simp [spellN_length])).mono ?_
      rintro x w3 ⟨v3, rfl, W3, K3⟩
      have X3 : Hid (Wr w3 N B v3 _) := W3
      have B3 : Hid (Keep N w w3) := B2.out.trans K3
      have R3 : Hid (BBox w3 w.heap.size _ _ _ _ _ _) := K3.box R2.out
      clear W3 K3 X2 B2 R2
      have c2 := R3.out.c2
      go_wp2_with fail
      refine (wnumber_at _ _ _ 4 _ N B v3 _ (by first | rfl | exact HG.out) (by rfl) X3.out (by omega) (by omega) HK2.out (by simp [spellN_length])).mono ?_
      rintro x w4 ⟨v4, rfl, W4, K4⟩
      have X4 : Hid (Wr w4 N B v4 _) := W4
      have B4 : Hid (Keep N w w4) := B3.out.trans K4
      have R4 : Hid (BBox w4 w.heap.size _ _ _ _ _ _) := K4.box R3.out
      clear W4 K4 X3 B3 R3
      have c3 := R4.out.c3
      go_wp2_with fail
      refine (wnumber_at _ _ _ 4 _ N B v4 _ (by first | rfl | exact HG.out) (by rfl) X4.out (by omega) (by omega) HK3.out (by simp [spellN_length])).mono ?_
      rintro x w5 ⟨v5, rfl, W5, K5⟩
      have X5 : Hid (Wr w5 N B v5 _) := W5
      have B5 : Hid (Keep N w w5) := B4.out.trans K5
      have R5 : Hid (BBox w5 w.heap.size _ _ _ _ _ _) := K5.box R4.out
      clear W5 K5 X4 B4 R4
      have c5 := R5.out.c5
      go_wp2_with fail
      refine (wnumber_at _ _ _ 2 _ N B v5 _ (by first | rfl | exact HG.out) (by rfl) X5.out (by omega) (by omega) HK4.out (by simp [spellN_length])).mono ?_
      rintro x w6 ⟨v6, rfl, W6, K6⟩
      rw [HE.out] at W6
      have X6 : Hid (Wr w6 N B v6 _) := W6
      have B6 : Hid (Keep N w w6) := B5.out.trans K6
      clear W6 K6 X5 B5 R5
      go_wp2
      go_end0
      exact ⟨_, rfl, X6.out, B6.out⟩
    · skip
      have HF : Hid (2 < 2 ^ (8 * 1)) := (show 2 < 2 ^ (8 * 1) by decide)
      have HG : Hid (bits .or .i64 0 2 = ((2 : Nat) : Int)) := (show bits .or .i64 0 2 = ((2 : Nat) : Int) by decide)
      rw [show flagsN ⟨kn, -1, en, sn, true, rs⟩ = 2 from rfl] at HE
      go_enter Tryz.func60, Tryz.ntmps60
      go_wp2_with fail
      refine (wnumber_at _ _ _ 1 _ N B v _ (by first | rfl | exact HG.out) (by rfl) X0.out (by omega) (by omega) HK1.out (by simp)).mono ?_
      rintro x w1 ⟨v1, rfl, W1, K1⟩
      have X1 : Hid (Wr w1 N B v1 _) := W1
      have B1 : Hid (Keep N w w1) := B0.out.trans K1
      have R1 : Hid (BBox w1 w.heap.size _ _ _ _ _ _) := K1.box R0.out
      clear W1 K1 X0 B0 R0
      go_wp2_with fail
      refine (wnumber_at _ _ _ 1 _ N B v1 _ (by first | rfl | exact HG.out) (by rfl) X1.out (by omega) (by omega) HF.out (by simp [spellN_length])).mono ?_
      rintro x w2 ⟨v2, rfl, W2, K2⟩
      have X2 : Hid (Wr w2 N B v2 _) := W2
      have B2 : Hid (Keep N w w2) := B1.out.trans K2
      have R2 : Hid (BBox w2 w.heap.size _ _ _ _ _ _) := K2.box R1.out
      clear W2 K2 X1 B1 R1
      go_wp2_with fail
      refine (wnumber_at _ _ _ 6 _ N B v2 _ (by first | rfl | exact HG.out) (by rfl) X2.out (by omega) (by omega) HK5.out (by simp [spellN_length])).mono ?_
      rintro x w3 ⟨v3, rfl, W3, K3⟩
      have X3 : Hid (Wr w3 N B v3 _) := W3
      have B3 : Hid (Keep N w w3) := B2.out.trans K3
      have R3 : Hid (BBox w3 w.heap.size _ _ _ _ _ _) := K3.box R2.out
      clear W3 K3 X2 B2 R2
      have c2 := R3.out.c2
      go_wp2_with fail
      refine (wnumber_at _ _ _ 4 _ N B v3 _ (by first | rfl | exact HG.out) (by rfl) X3.out (by omega) (by omega) HK2.out (by simp [spellN_length])).mono ?_
      rintro x w4 ⟨v4, rfl, W4, K4⟩
      have X4 : Hid (Wr w4 N B v4 _) := W4
      have B4 : Hid (Keep N w w4) := B3.out.trans K4
      have R4 : Hid (BBox w4 w.heap.size _ _ _ _ _ _) := K4.box R3.out
      clear W4 K4 X3 B3 R3
      have c3 := R4.out.c3
      go_wp2_with fail
      refine (wnumber_at _ _ _ 4 _ N B v4 _ (by first | rfl | exact HG.out) (by rfl) X4.out (by omega) (by omega) HK3.out (by simp [spellN_length])).mono ?_
      rintro x w5 ⟨v5, rfl, W5, K5⟩
      have X5 : Hid (Wr w5 N B v5 _) := W5
      have B5 : Hid (Keep N w w5) := B4.out.trans K5
      have R5 : Hid (BBox w5 w.heap.size _ _ _ _ _ _) := K5.box R4.out
      clear W5 K5 X4 B4 R4
      have c5 := R5.out.c5
      go_wp2_with fail
      refine (wnumber_at _ _ _ 2 _ N B v5 _ (by first | rfl | exact HG.out) (by rfl) X5.out (by omega) (by omega) HK4.out (by simp [spellN_length])).mono ?_
      rintro x w6 ⟨v6, rfl, W6, K6⟩
      rw [HE.out] at W6
      have X6 : Hid (Wr w6 N B v6 _) := W6
      have B6 : Hid (Keep N w w6) := B5.out.trans K6
      clear W6 K6 X5 B5 R5
      go_wp2
      go_end0
      exact ⟨_, rfl, X6.out, B6.out⟩
  · have hp3 : (p != -1) = true := by simpa using hp1
    obtain ⟨q, rfl⟩ := Int.eq_ofNat_of_zero_le (show 0 ≤ p by omega)
    have hp4 : ((q : Int) == -1) = false := by simp
    have HQ : Hid (prodN ⟨kn, q, en, sn, t, rs⟩ = q) := by
      show _ = _
      unfold prodN; simp only [hp4]; rfl
    rw [HQ.out] at HE HK5
    cases t
    · have HFF : Hid (flagsN ⟨kn, q, en, sn, false, rs⟩ = 1) := by
        show _ = _
        unfold flagsN; simp only [hp4]; rfl
      have HF : Hid (1 < 2 ^ (8 * 1)) := (show 1 < 2 ^ (8 * 1) by decide)
      have HG : Hid ((1 : Int) = ((1 : Nat) : Int)) := (show (1 : Int) = ((1 : Nat) : Int) by decide)
      rw [show flagsN ⟨kn, q, en, sn, false, rs⟩ = 1 from HFF.out] at HE
      go_enter Tryz.func60, Tryz.ntmps60
      go_wp2_with fail
      go_quiet (fail)
      go_wp2_with fail
      refine (wnumber_at _ _ _ 1 _ N B v _ (by first | rfl | exact HG.out) (by rfl) (X0.out.later (below_drewN' (Below.refl _ _) _)) (by omega) (by omega) HK1.out (by simp)).mono ?_
      rintro x w1 ⟨v1, rfl, W1, K1⟩
      have X1 : Hid (Wr w1 N B v1 _) := W1
      have B1 : Hid (Keep N w w1) := (B0.out.trans (Keep.of (below_drewN' (Below.refl _ _) _) (Nat.le_trans X0.out.le (Nat.le_of_lt X0.out.lt)))).trans K1
      have R1 : Hid (BBox w1 w.heap.size _ _ _ _ _ _) := K1.box (R0.out.drewN _)
      clear W1 K1 X0 B0 R0
      go_wp2_with fail
      refine (wnumber_at _ _ _ 1 _ N B v1 _ (by first | rfl | exact HG.out) (by rfl) X1.out (by omega) (by omega) HF.out (by simp [spellN_length])).mono ?_
      rintro x w2 ⟨v2, rfl, W2, K2⟩
      have X2 : Hid (Wr w2 N B v2 _) := W2
      have B2 : Hid (Keep N w w2) := B1.out.trans K2
      have R2 : Hid (BBox w2 w.heap.size _ _ _ _ _ _) := K2.box R1.out
      clear W2 K2 X1 B1 R1
      go_wp2_with fail
      refine (wnumber_at _ _ _ 6 _ N B v2 _ (by first | rfl | exact HG.out) (by rfl) X2.out (by omega) (by omega) HK5.out (by simp [spellN_length])).mono ?_
      rintro x w3 ⟨v3, rfl, W3, K3⟩
      have X3 : Hid (Wr w3 N B v3 _) := W3
      have B3 : Hid (Keep N w w3) := B2.out.trans K3
      have R3 : Hid (BBox w3 w.heap.size _ _ _ _ _ _) := K3.box R2.out
      clear W3 K3 X2 B2 R2
      have c2 := R3.out.c2
      go_wp2_with fail
      refine (wnumber_at _ _ _ 4 _ N B v3 _ (by first | rfl | exact HG.out) (by rfl) X3.out (by omega) (by omega) HK2.out (by simp [spellN_length])).mono ?_
      rintro x w4 ⟨v4, rfl, W4, K4⟩
      have X4 : Hid (Wr w4 N B v4 _) := W4
      have B4 : Hid (Keep N w w4) := B3.out.trans K4
      have R4 : Hid (BBox w4 w.heap.size _ _ _ _ _ _) := K4.box R3.out
      clear W4 K4 X3 B3 R3
      have c3 := R4.out.c3
      go_wp2_with fail
      refine (wnumber_at _ _ _ 4 _ N B v4 _ (by first | rfl | exact HG.out) (by rfl) X4.out (by omega) (by omega) HK3.out (by simp [spellN_length])).mono ?_
      rintro x w5 ⟨v5, rfl, W5, K5⟩
      have X5 : Hid (Wr w5 N B v5 _) := W5
      have B5 : Hid (Keep N w w5) := B4.out.trans K5
      have R5 : Hid (BBox w5 w.heap.size _ _ _ _ _ _) := K5.box R4.out
      clear W5 K5 X4 B4 R4
      have c5 := R5.out.c5
      go_wp2_with fail
      refine (wnumber_at _ _ _ 2 _ N B v5 _ (by first | rfl | exact HG.out) (by rfl) X5.out (by omega) (by omega) HK4.out (by simp [spellN_length])).mono ?_
      rintro x w6 ⟨v6, rfl, W6, K6⟩
      rw [HE.out] at W6
      have X6 : Hid (Wr w6 N B v6 _) := W6
      have B6 : Hid (Keep N w w6) := B5.out.trans K6
      clear W6 K6 X5 B5 R5
      go_wp2
      go_end0
      exact ⟨_, rfl, X6.out, B6.out⟩
    · have HFF : Hid (flagsN ⟨kn, q, en, sn, true, rs⟩ = 3) := by
        show _ = _
        unfold flagsN; simp only [hp4]; rfl
      have HF : Hid (3 < 2 ^ (8 * 1)) := (show 3 < 2 ^ (8 * 1) by decide)
      have HG : Hid (bits .or .i64 1 2 = ((3 : Nat) : Int)) := (show bits .or .i64 1 2 = ((3 : Nat) : Int) by decide)
      rw [show flagsN ⟨kn, q, en, sn, true, rs⟩ = 3 from HFF.out] at HE
      go_enter Tryz.func60, Tryz.ntmps60
      go_wp2_with fail
      go_quiet (fail)
      go_wp2_with fail
      refine (wnumber_at _ _ _ 1 _ N B v _ (by first | rfl | exact HG.out) (by rfl) (X0.out.later (below_drewN' (Below.refl _ _) _)) (by omega) (by omega) HK1.out (by simp)).mono ?_
      rintro x w1 ⟨v1, rfl, W1, K1⟩
      have X1 : Hid (Wr w1 N B v1 _) := W1
      have B1 : Hid (Keep N w w1) := (B0.out.trans (Keep.of (below_drewN' (Below.refl _ _) _) (Nat.le_trans X0.out.le (Nat.le_of_lt X0.out.lt)))).trans K1
      have R1 : Hid (BBox w1 w.heap.size _ _ _ _ _ _) := K1.box (R0.out.drewN _)
      clear W1 K1 X0 B0 R0
      go_wp2_with fail
      refine (wnumber_at _ _ _ 1 _ N B v1 _ (by first | rfl | exact HG.out) (by rfl) X1.out (by omega) (by omega) HF.out (by simp [spellN_length])).mono ?_
      rintro x w2 ⟨v2, rfl, W2, K2⟩
      have X2 : Hid (Wr w2 N B v2 _) := W2
      have B2 : Hid (Keep N w w2) := B1.out.trans K2
      have R2 : Hid (BBox w2 w.heap.size _ _ _ _ _ _) := K2.box R1.out
      clear W2 K2 X1 B1 R1
      go_wp2_with fail
      refine (wnumber_at _ _ _ 6 _ N B v2 _ (by first | rfl | exact HG.out) (by rfl) X2.out (by omega) (by omega) HK5.out (by simp [spellN_length])).mono ?_
      rintro x w3 ⟨v3, rfl, W3, K3⟩
      have X3 : Hid (Wr w3 N B v3 _) := W3
      have B3 : Hid (Keep N w w3) := B2.out.trans K3
      have R3 : Hid (BBox w3 w.heap.size _ _ _ _ _ _) := K3.box R2.out
      clear W3 K3 X2 B2 R2
      have c2 := R3.out.c2
      go_wp2_with fail
      refine (wnumber_at _ _ _ 4 _ N B v3 _ (by first | rfl | exact HG.out) (by rfl) X3.out (by omega) (by omega) HK2.out (by simp [spellN_length])).mono ?_
      rintro x w4 ⟨v4, rfl, W4, K4⟩
      have X4 : Hid (Wr w4 N B v4 _) := W4
      have B4 : Hid (Keep N w w4) := B3.out.trans K4
      have R4 : Hid (BBox w4 w.heap.size _ _ _ _ _ _) := K4.box R3.out
      clear W4 K4 X3 B3 R3
      have c3 := R4.out.c3
      go_wp2_with fail
      refine (wnumber_at _ _ _ 4 _ N B v4 _ (by first | rfl | exact HG.out) (by rfl) X4.out (by omega) (by omega) HK3.out (by simp [spellN_length])).mono ?_
      rintro x w5 ⟨v5, rfl, W5, K5⟩
      have X5 : Hid (Wr w5 N B v5 _) := W5
      have B5 : Hid (Keep N w w5) := B4.out.trans K5
      have R5 : Hid (BBox w5 w.heap.size _ _ _ _ _ _) := K5.box R4.out
      clear W5 K5 X4 B4 R4
      have c5 := R5.out.c5
      go_wp2_with fail
      refine (wnumber_at _ _ _ 2 _ N B v5 _ (by first | rfl | exact HG.out) (by rfl) X5.out (by omega) (by omega) HK4.out (by simp [spellN_length])).mono ?_
      rintro x w6 ⟨v6, rfl, W6, K6⟩
      rw [HE.out] at W6
      have X6 : Hid (Wr w6 N B v6 _) := W6
      have B6 : Hid (Keep N w w6) := B5.out.trans K6
      clear W6 K6 X5 B5 R5
      go_wp2
      go_end0
      exact ⟨_, rfl, X6.out, B6.out⟩
end Go.Proofs.YtfgamkcnnijloaaGreat
namespace Go.Proofs.YtfgamkcnnijloaaGreat
open Go.RowKit

/-- In w the block C is a Record in a box. -/
def RBox (w : World) (C : Nat) (r : Rec) : Prop := w.heap[C]? = some (.cells #[.string r.key, .string r.val, .bool r.dead] 43 (0, 0))
variable {w w' : World} {N B C : Nat} {r : Rec}
theorem RBox.c0 (h : RBox w C r) : w.cell? ⟨C, 0, none⟩ = some (.string r.key) := by rw [cell_of_row w C 0 _ _ _ h]; rfl
theorem RBox.c1 (h : RBox w C r) : w.cell? ⟨C, 1, none⟩ = some (.string r.val) := by rw [cell_of_row w C 1 _ _ _ h]; rfl
theorem RBox.c2 (h : RBox w C r) : w.cell? ⟨C, 2, none⟩ = some (.bool r.dead) := by rw [cell_of_row w C 2 _ _ _ h]; rfl
theorem Keep.rbox (h : Keep N w w') (hb : RBox w C r) : RBox w' C r := h.typed _ _ _ _ hb (by decide) (by decide)
theorem spell_dead (d : Bool) : spellN (if d then 1 else 0) 1 = [if d then 1 else 0] := by cases d <;> rfl
set_option maxHeartbeats 1000000 in
theorem record_any (r : Rec) (w : World) (N B : Nat) (v : Value) (L : List Nat) (h : Wr w N B v L) (h1 : r.key.size ≤ 1000) (h2 : r.val.size ≤ 4000) (hL : L.length ≤ 900000) :
    Calls Tryz.prog 61 #[.pointer (some ⟨B, 0, none⟩), .agg #[.string r.key, .string r.val, .bool r.dead]] w fun e w' => ∃ v', e = .returned (.tuple #[]) ∧ Wr w' N B v' (L ++ recBs r) ∧ Keep N w w' := by
  have bA : Below w.heap.size w (w.alloc (.cells #[.string r.key, .string r.val, .bool r.dead] 43)) := (Below.refl _ _).alloc (Nat.le_refl _) _
  have X0 : Hid (Wr (w.alloc (.cells #[.string r.key, .string r.val, .bool r.dead] 43)) N B v L) := h.later bA
  have B0 : Hid (Keep N w (w.alloc (.cells #[.string r.key, .string r.val, .bool r.dead] 43))) := Keep.of bA (Nat.le_trans h.le (Nat.le_of_lt h.lt))
  have R0 : Hid (RBox (w.alloc (.cells #[.string r.key, .string r.val, .bool r.dead] 43)) w.heap.size r) := heap_alloc_new w _
  have HE : Hid (L ++ spellN (if r.dead then 1 else 0) 1 ++ (spellN r.key.size 2 ++ sbytes r.key) ++ (spellN r.val.size 2 ++ sbytes r.val) = L ++ recBs r) := by
    show _ = _
    rw [spell_dead, recBs, List.append_assoc, List.append_assoc]
  have n1 : ((if r.dead then 1 else 0 : Nat)) < 2 ^ (8 * 1) := by cases r.dead <;> decide
  have l1 : (L ++ spellN (if r.dead then 1 else 0) 1).length = L.length + 1 := by rw [List.length_append, spellN_length]
  have l2 : (L ++ spellN (if r.dead then 1 else 0) 1 ++ (spellN r.key.size 2 ++ sbytes r.key)).length = L.length + 1 + (2 + r.key.size) := by rw [List.length_append, l1, List.length_append, spellN_length, sbytes_length]
  clear h bA
  obtain ⟨rk, rv, rd⟩ := r
  simp only at *
  cases rd
  all_goals
    simp only [Bool.false_eq_true, if_true, if_false] at HE n1 l1 l2
    go_enter Tryz.func61, Tryz.ntmps61
    go_wp2_with fail
    refine (wnumber_at _ _ _ 1 _ N B v L (by rfl) (by rfl) X0.out (by omega) (by omega) n1 (by omega)).mono ?_
    rintro x w1 ⟨v1, rfl, W1, K1⟩
    have X1 : Hid (Wr w1 N B v1 _) := W1
    have B1 : Hid (Keep N w w1) := B0.out.trans K1
    have R1 : Hid (RBox w1 w.heap.size ⟨rk, rv, _⟩) := K1.rbox R0.out
    have c0 := R1.out.c0
    clear W1 K1 X0 B0 R0
    go_wp2_with fail
    refine (text_wr rk _ N B v1 _ X1.out (by omega) (by omega)).mono ?_
    rintro x w2 ⟨v2, rfl, W2, K2⟩
    have X2 : Hid (Wr w2 N B v2 _) := W2
    have B2 : Hid (Keep N w w2) := B1.out.trans K2
    have R2 : Hid (RBox w2 w.heap.size ⟨rk, rv, _⟩) := K2.rbox R1.out
    have c1 := R2.out.c1
    clear W2 K2 X1 B1 R1 c0
    go_wp2_with fail
    refine (text_wr rv _ N B v2 _ X2.out (by omega) (by omega)).mono ?_
    rintro x w3 ⟨v3, rfl, W3, K3⟩
    rw [HE.out] at W3
    have X3 : Hid (Wr w3 N B v3 _) := W3
    have B3 : Hid (Keep N w w3) := B2.out.trans K3
    clear W3 K3 X2 B2 R2 c1
    go_wp2
    go_end0
    exact ⟨_, rfl, X3.out, B3.out⟩
end Go.Proofs.YtfgamkcnnijloaaGreat
