/- 'append(v, x...)' where it is told besides in which block the answer lies: in v's, or in a new one. What the document's own write (package ref) answers: the bytes of P203. -/
import Derived.Test.YtgihmkgbkffgbaaGreatBase
import Derived.Test.YtgihmkgbkffgbaaGreatPZRC
import Derived.Test.YtgihmkgbkffgbaaGreatPZRef
import Derived.Test.YtgihmkgbkffgbaaGreatPZBM
import Derived.Test.YtgihmkgbkffgbaaGreatPZWr
namespace Go.Proofs.YtgihmkgbkffgbaaGreat
open Go.RowKit

theorem run_app_at {w : World} {base g n cap : Nat} {L : List Nat} (hown : w.ownsRow base 5 1 (.slice (some ⟨g, 0, none⟩) n cap) n (L.map bv)) (ty : TypeId)
    (ad : Option Addr) (m c : Nat) (l : List Nat) (hl : l.length = m) (hnone : ad = none → m = 0 ∧ c = 0) (hrow : Row w ad l) (hbytes : n + m ≤ 140737488355328) (hbase : base ≤ w.heap.size) :
    ∃ g' c' w', (Builtin.append_ #[22, 22] ty #[.slice (some ⟨g, 0, none⟩) n cap, .slice ad m c]).run Tryz.prog w = .ok (.slice (some ⟨g', 0, none⟩) (n + m) c') w' ∧ (g' = g ∨ g' = w.heap.size) ∧
      w'.ownsRow base 5 1 (.slice (some ⟨g', 0, none⟩) (n + m) c') (n + m) ((L ++ l).map bv) ∧ w.grownBy w' (some g) := by
  obtain ⟨i0, hi, hz0, hz1, hz2⟩ := info_parts Tryz.info5
  cases ad with
  | none =>
    obtain ⟨rfl, rfl⟩ := hnone rfl
    obtain rfl : l = [] := List.eq_nil_of_length_eq_zero hl
    have hrun := run_append_owned_none (P := Tryz.prog) (w := w) base 22 ty 5 i0 1 Tryz.underlying22 hi _ n _ hown
    exact ⟨g, cap, w, hrun, Or.inl rfl, by simpa using hown, World.grownBy.refl _ _⟩
  | some ad =>
    obtain ⟨v', w', hr, h2, h3, -⟩ := run_append_own (P := Tryz.prog) w base 22 ty 5 i0 (.int .u8 0) 1 1 Tryz.underlying22 hi hz0 hz1 hz2 rfl (by decide) _ n _ hown ad m c (l.map bv) (by simp [hl]) (row_cells hrow ad rfl) (bv_one l) (by unfold maxLen; omega) (by omega) hbase
    rw [← List.map_append] at h2
    have hx : ∃ g' c', v' = .slice (some ⟨g', 0, none⟩) (n + m) c' ∧ (g' = g ∨ g' = w.heap.size) := by
      rcases hown.2 with ⟨e, _⟩ | ⟨g0, cap0, cur, e, hbg, hg, hnc, hcm, hcs, htake⟩
      · cases e
      · cases e
        by_cases hroom : n + m ≤ cap
        · have hq := run_append_room (P := Tryz.prog) w 22 ty 5 i0 Tryz.underlying22 hi g n cap cur hg ad m c (l.map bv) (by rw [hz1]; simp [hl]) (row_cells hrow ad rfl) (bv_one l) hroom (by rw [hz1, hcs]; simp [hl]; omega)
          rw [hr] at hq
          cases hq
          exact ⟨g, cap, rfl, Or.inl rfl⟩
        · have holds : ∀ j u, (L.map bv)[j]? = some u → w.cell? ((⟨g, 0, none⟩ : Addr).add j) = some u := hown.cells (g := g) rfl
          have hq := run_append_grow (P := Tryz.prog) w 22 ty 5 i0 (.int .u8 0) Tryz.underlying22 hi hz0 ⟨g, 0, none⟩ n cap (L.map bv) (by rw [hz1]; exact hown.1) holds ad m c (l.map bv) (by rw [hz1]; simp [hl]) (row_cells hrow ad rfl) (by omega) (by omega) (growslice_fits (by omega) (by rw [hz2]; omega))
          rw [hr] at hq
          cases hq
          exact ⟨w.heap.size, _, rfl, Or.inr rfl⟩
    obtain ⟨g', c', rfl, hg'⟩ := hx
    exact ⟨g', c', w', hr, hg', h2, h3⟩
theorem app_at {w : World} {ops : Array Oper} {rest : List Oper} {o : Oper} {a : Act} {Q : Exit → Act → World → Prop} (hgd : o.guard = none) (s x : Operand)
    (ho : o.op = .call { callee := .builtin .append, args := #[s, x], argTypes := #[22, 22] })
    (base g n cap : Nat) (L : List Nat) (hs : a.eval s = .slice (some ⟨g, 0, none⟩) n cap) (hown : w.ownsRow base 5 1 (.slice (some ⟨g, 0, none⟩) n cap) n (L.map bv))
    (ad : Option Addr) (m c : Nat) (l : List Nat) (hx : a.eval x = .slice ad m c) (hl : l.length = m) (hnone : ad = none → m = 0 ∧ c = 0) (hrow : Row w ad l)
    (hbytes : n + m ≤ 140737488355328) (hbase : base ≤ w.heap.size)
    (h : ∀ g' c' w', (g' = g ∨ g' = w.heap.size) → w'.ownsRow base 5 1 (.slice (some ⟨g', 0, none⟩) (n + m) c') (n + m) ((L ++ l).map bv) → w.grownBy w' (some g) → wpList Tryz.prog ops Q rest (a.put o.dst (.slice (some ⟨g', 0, none⟩) (n + m) c')) w') : wpList Tryz.prog ops Q (o :: rest) a w := by
  refine wpList_plain hgd fun K hK => ?_
  obtain ⟨g', c', w', hrun, h1, h2, h3⟩ := run_app_at hown o.type ad m c l hl hnone hrow hbytes hbase
  unfold Oper.wp
  simp [execOp, ho, resolve, invoke, builtin, hs, hx, hrun, Result.andThen]
  exact hK _ _ (h g' c' w' h1 h2 h3)
theorem app_at' {w : World} {ops : Array Oper} {rest : List Oper} {o : Oper} {a : Act} {Q : Exit → Act → World → Prop} (hgd : o.guard = none) (s x : Operand)
    (ho : o.op = .call { callee := .builtin .append, args := #[s, x], argTypes := #[22, 22] })
    (base g n cap : Nat) (L : List Nat) (hs : a.eval s = .slice (some ⟨g, 0, none⟩) n cap) (hown : Own w base (.slice (some ⟨g, 0, none⟩) n cap) L) (hn : L.length = n)
    (ad : Option Addr) (m c : Nat) (l : List Nat) (hx : a.eval x = .slice ad m c) (hp : Part.ok w ⟨ad, m, c, l⟩) (N' : Nat) (hN : n + m = N')
    (hbytes : n + m ≤ 140737488355328) (hbase : base ≤ w.heap.size)
    (h : ∀ g' c' w', (g' = g ∨ g' = w.heap.size) → Own w' base (.slice (some ⟨g', 0, none⟩) N' c') (L ++ l) → w.grownBy w' (some g) → wpList Tryz.prog ops Q rest (a.put o.dst (.slice (some ⟨g', 0, none⟩) N' c')) w') : wpList Tryz.prog ops Q (o :: rest) a w := by
  subst hN
  refine app_at hgd s x ho base g n cap L hs (by rw [← hn]; rw [hn]; have h2 := hown.2; rw [hn] at h2; exact h2) ad m c l hx hp.1 hp.2.1 hp.2.2 hbytes hbase ?_
  intro g' c' w' h1 h2 h3
  refine h g' c' w' h1 ⟨fun y hy => (List.mem_append.1 hy).elim (hown.1 y) (hp.2.2.1 y), ?_⟩ h3
  have e : (L ++ l).length = n + m := by rw [List.length_append, hn, hp.1]
  rw [e]
  exact h2
theorem Part.ok.grown {w w' : World} {ad : Option Addr} {n c g : Nat} {l : List Nat} (h : Part.ok w ⟨ad, n, c, l⟩) (hg : w.grownBy w' (some g)) (hne : ∀ b off, ad = some ⟨b, off, none⟩ → b ≠ g) : Part.ok w' ⟨ad, n, c, l⟩ := by
  refine ⟨h.1, h.2.1, ?_⟩
  have hr : Row w ad l := h.2.2
  refine ⟨hr.1, ?_⟩
  rcases hr.2 with h0 | ⟨b, off, e, hs, hc⟩
  · exact Or.inl h0
  · refine Or.inr ⟨b, off, e, Nat.lt_of_lt_of_le hs hg.size, fun i hi => ?_⟩
    rw [hg.cell_far ⟨b, off + i, none⟩ hs (fun e2 => hne b off e (by simpa using e2))]
    exact hc i hi
/-- Where a row lies, and that it stays where another block is written. -/
theorem Row.grown {w w' : World} {ad : Option Addr} {l : List Nat} {g : Nat} (h : Row w ad l) (hg : w.grownBy w' (some g)) (hne : ∀ b off, ad = some ⟨b, off, none⟩ → b ≠ g) : Row w' ad l := by
  refine ⟨h.1, ?_⟩
  rcases h.2 with h | ⟨b, off, e, hs, hc⟩
  · exact Or.inl h
  · refine Or.inr ⟨b, off, e, Nat.lt_of_lt_of_le hs hg.size, fun i hi => ?_⟩
    rw [hg.cell_far ⟨b, off + i, none⟩ hs (fun e2 => hne b off e (by simpa using e2))]
    exact hc i hi
end Go.Proofs.YtgihmkgbkffgbaaGreat
namespace Go.Proofs.YtgihmkgbkffgbaaGreat
open Go.RowKit

theorem own_typed {w : World} {N B n : Nat} {v : Value} {xs : List Value} (h : w.ownsRow N 5 1 v n xs) {cs : Array Value} {T : TypeId} (hb : w.heap[B]? = some (.cells cs T (0, 0))) (hT : T ≠ 5) : v.ownBlock ≠ some B := by
  intro e
  rcases h.2 with ⟨rfl, _⟩ | ⟨g, cap, cur, rfl, _, hg, _⟩
  · simp [Value.ownBlock] at e
  · simp [Value.ownBlock] at e
    subst e
    rw [hg] at hb
    cases hb
    exact hT rfl
theorem app_step {w0 w w' : World} {N B n m : Nat} {k p e s : Int} {t : Bool} {u v v' : Value} {L l : List Nat} (h : Own w N v L) (hN : N ≤ w.heap.size) (hx : BBox w B k p e s t u) (b0 : Below N w0 w) (hl : ∀ x ∈ l, x < 256) (hn : L.length = n) (hm : l.length = m)
    (hown : w'.ownsRow N 5 1 v' (n + m) ((L ++ l).map bv)) (hg : w.grownBy w' v.ownBlock) :
    ∃ a c, v' = .slice a (n + m) c ∧ Hid (Own w' N (.slice a (n + m) c) (L ++ l)) ∧ Hid (BBox w' B k p e s t u) ∧ Below N w0 w' := by
  have ho : Own w' N v' (L ++ l) := ⟨fun x hx => (List.mem_append.1 hx).elim (h.1 x) (hl x), by rw [List.length_append, hn, hm]; exact hown⟩
  obtain ⟨a, c, rfl, -⟩ := ho.slice (n + m) (by rw [List.length_append, hn, hm])
  exact ⟨a, c, rfl, ho, hx.grown hg (fun e => own_typed h.2 hx (by decide) e.symm), b0.grown hg hN (fun k hk => (h.2.lt k hk).1)⟩
theorem own_n {w : World} {N n : Nat} {v : Value} {L : List Nat} (h : Own w N v L) (hn : L.length = n) : w.ownsRow N 5 1 v n (L.map bv) := by
  have h2 := h.2
  rw [hn] at h2
  exact h2
/-- The first two bytes, as they are made. -/
theorem two_own (w : World) (k p e s : Int) (t : Bool) (u : Value) (x y : Nat) (hx : x < 256) (hy : y < 256) : Own ((w.alloc (.cells #[.int .i64 k, .int .i64 p, .int .i64 e, .int .i64 s, .bool t, u] 25)).alloc (.cells #[.int .u8 (x : Int), .int .u8 (y : Int)] 5)) w.heap.size (.slice (some ⟨w.heap.size + 1, 0, none⟩) 2 2) [x, y] := by
  refine ⟨?_, ?_⟩
  · intro z hz; simp at hz; rcases hz with rfl | rfl <;> assumption
  · have h := World.ownsRow_lit (e := 5) (size := 1) (base := w.heap.size) (w.alloc (.cells #[.int .i64 k, .int .i64 p, .int .i64 e, .int .i64 s, .bool t, u] 25)) #[.int .u8 (x : Int), .int .u8 (y : Int)] 2 (by simp) (by unfold maxLen; omega) rfl
    rw [show (w.alloc (.cells #[.int .i64 k, .int .i64 p, .int .i64 e, .int .i64 s, .bool t, u] 25)).heap.size = w.heap.size + 1 by simp] at h
    exact h
theorem RBox.later {w w' : World} {C : Nat} {r : Rec} (h : RBox w C r) (hb : Below w.heap.size w w') : RBox w' C r := by
  have hlt : C < w.heap.size := by
    rcases Nat.lt_or_ge C w.heap.size with hlt | hge
    · exact hlt
    · unfold RBox at h; rw [Array.getElem?_eq_none hge] at h; cases h
  exact (hb.block C hlt).trans h
theorem own_base {w : World} {N n : Nat} {ad : Option Addr} {c : Nat} {l : List Nat} (h : Own w N (.slice ad n c) l) : ∀ b off, ad = some ⟨b, off, none⟩ → N ≤ b ∧ b < w.heap.size := by
  intro b off e
  rcases h.2.2 with ⟨e2, _⟩ | ⟨g, cap, cur, e2, hb, hg, _⟩
  · cases e2; cases e
  · cases e2
    cases e
    refine ⟨hb, ?_⟩
    rcases Nat.lt_or_ge b w.heap.size with hlt | hge
    · exact hlt
    · rw [Array.getElem?_eq_none hge] at hg; cases hg
theorem one_row (w : World) (d : Nat) (hd : d < 256) : Row (w.alloc (.cells #[.int .u8 (d : Int)] 5)) (some ⟨w.heap.size, 0, none⟩) [d] := by
  refine ⟨by intro x hx; simp at hx; omega, Or.inr ⟨w.heap.size, 0, rfl, by simp, ?_⟩⟩
  intro i hi
  have hi' : i < 1 := hi
  obtain rfl : i = 0 := by omega
  rw [cell_of_row _ w.heap.size _ _ 5 (0, 0) (heap_alloc_new w _)]
  rfl
set_option maxRecDepth 100000 in
set_option maxHeartbeats 4000000 in
theorem refWrite_any (kn en sn : Nat) (p : Int) (t : Bool) (rs : List Rec) (ad : Option Addr) (len cap : Nat) (w : World) (hA : BArg w ⟨kn, p, en, sn, t, rs⟩ ad len cap) (hc : checkN ⟨kn, p, en, sn, t, rs⟩ = 0) :
    Calls Tryz.prog 43 #[.agg #[.int .i64 kn, .int .i64 p, .int .i64 en, .int .i64 sn, .bool t, .slice ad len cap]] w fun r w' => ∃ v, r = .returned v ∧ Own w' w.heap.size v (writeN ⟨kn, p, en, sn, t, rs⟩) ∧ Below w.heap.size w w' := by
  have HA : Hid (BArg w ⟨kn, p, en, sn, t, rs⟩ ad len cap) := hA
  have HL : Hid (rs.length = len) := hA.len_eq
  obtain ⟨hk, hp, hp2, he, he2, hs, hs2, hl64, -, -⟩ := checkN_nums hc
  obtain ⟨-, -, hok, -, hsz⟩ := checkN_ok hc
  simp only at hk hp hp2 he he2 hs hs2 hl64 hok
  rw [HL.out] at hl64
  have HOK : Hid (∀ r ∈ rs, recOk r = true) := hok
  clear hok hA hc hsz
  have hk2 : kn ≤ 3 := by omega
  have he3 : en < 2147483648 := by omega
  have hs3 : sn ≤ 2147483648 := by omega
  clear hk he he2 hs hs2
  by_cases hp1 : p = -1
  · subst hp1
    cases t
    · have HF : flagsN ⟨kn, -1, en, sn, false, rs⟩ = 0 := rfl
      have HQ : prodN ⟨kn, -1, en, sn, false, rs⟩ = 0 := rfl
      have HE : Hid ([kn, 0] ++ spellN 0 6 ++ spellN en 4 ++ spellN sn 4 ++ spellN len 2 = headBs ⟨kn, (-1), en, sn, false, rs⟩) := by
        show _ = _
        rw [headBs, HF, HQ]
        simp only [Int.toNat_natCast, HL.out, List.append_assoc]
      have O0 : Hid (Own ((w.alloc (.cells #[.int .i64 kn, .int .i64 (-1), .int .i64 en, .int .i64 sn, .bool false, .slice ad len cap] 25)).alloc (.cells #[.int .u8 (kn : Int), .int .u8 ((0 : Nat) : Int)] 5)) w.heap.size (.slice (some ⟨w.heap.size + 1, 0, none⟩) 2 2) [kn, 0]) := two_own w kn (-1) en sn false _ kn 0 (by omega) (by omega)
      have X0 : Hid (BBox ((w.alloc (.cells #[.int .i64 kn, .int .i64 (-1), .int .i64 en, .int .i64 sn, .bool false, .slice ad len cap] 25)).alloc (.cells #[.int .u8 (kn : Int), .int .u8 ((0 : Nat) : Int)] 5)) w.heap.size kn (-1) en sn false (.slice ad len cap)) := (BBox.new w _ _ _ _ _ _).later ((Below.refl _ _).alloc (Nat.le_refl _) _)
      have b0 : Below w.heap.size w ((w.alloc (.cells #[.int .i64 kn, .int .i64 (-1), .int .i64 en, .int .i64 sn, .bool false, .slice ad len cap] 25)).alloc (.cells #[.int .u8 (kn : Int), .int .u8 ((0 : Nat) : Int)] 5)) := ((Below.refl _ _).alloc (Nat.le_refl _) _).alloc (by simp) _
      clear HF HQ
      go_enter Tryz.func43, Tryz.ntmps43
      go_wp2_with fail
      refine (bytes_any 0 6 _ (by omega)).mono ?_
      rintro x w01 ⟨v01, rfl, own0, b01⟩
      obtain ⟨a01, c01, rfl, ok0, -⟩ := own0.slice 6 (spellN_length _ _)
      have S0 : Hid (Part.ok w01 ⟨a01, 6, c01, spellN 0 6⟩) := ok0
      have O01 : Hid (Own w01 w.heap.size (.slice (some ⟨w.heap.size + 1, 0, none⟩) 2 2) ([kn, 0])) := O0.out.later b01
      have X01 : Hid (BBox w01 w.heap.size kn (-1) en sn false (.slice ad len cap)) := X0.out.later b01
      have b001 : Below w.heap.size w w01 := b0.trans (b01.mono b0.size)
      have s0 := b001.size
      clear own0 ok0 b01 O0 X0 b0
      go_wp2_with (at_builtin; refine app_any rfl _ _ rfl w.heap.size (.slice (some ⟨w.heap.size + 1, 0, none⟩) 2 2) 2 ([kn, 0]) rfl (own_n O01.out (by simp)) a01 6 c01 (spellN 0 6) rfl (spellN_length _ _) S0.out.2.1 S0.out.2.2 (by omega) s0 ?_; intro v02 w1 hown0 hg0; obtain ⟨a1, c1, rfl, O1, X1, b01⟩ := app_step O01.out s0 X01.out b001 (spellN_lt _ _) (by simp) (spellN_length _ _) hown0 hg0; have e20 := X1.out.c2; have e30 := X1.out.c3; have e50 := X1.out.c5; clear hown0 hg0 O01 X01 b001 S0 s0)
      go_wp2_with fail
      refine (bytes_any en 4 _ (by omega)).mono ?_
      rintro x w11 ⟨v11, rfl, own1, b11⟩
      obtain ⟨a11, c11, rfl, ok1, -⟩ := own1.slice 4 (spellN_length _ _)
      have S1 : Hid (Part.ok w11 ⟨a11, 4, c11, spellN en 4⟩) := ok1
      have O11 : Hid (Own w11 w.heap.size (.slice a1 8 c1) ([kn, 0] ++ spellN 0 6)) := O1.out.later b11
      have X11 : Hid (BBox w11 w.heap.size kn (-1) en sn false (.slice ad len cap)) := X1.out.later b11
      have b011 : Below w.heap.size w w11 := b01.trans (b11.mono b01.size)
      have s1 := b011.size
      clear own1 ok1 b11 O1 X1 b01
      go_wp2_with (at_builtin; refine app_any rfl _ _ rfl w.heap.size (.slice a1 8 c1) 8 ([kn, 0] ++ spellN 0 6) rfl (own_n O11.out (by simp [spellN_length])) a11 4 c11 (spellN en 4) rfl (spellN_length _ _) S1.out.2.1 S1.out.2.2 (by omega) s1 ?_; intro v12 w2 hown1 hg1; obtain ⟨a2, c2, rfl, O2, X2, b02⟩ := app_step O11.out s1 X11.out b011 (spellN_lt _ _) (by simp [spellN_length]) (spellN_length _ _) hown1 hg1; have e21 := X2.out.c2; have e31 := X2.out.c3; have e51 := X2.out.c5; clear hown1 hg1 O11 X11 b011 S1 s1)
      go_wp2_with fail
      refine (bytes_any sn 4 _ (by omega)).mono ?_
      rintro x w21 ⟨v21, rfl, own2, b21⟩
      obtain ⟨a21, c21, rfl, ok2, -⟩ := own2.slice 4 (spellN_length _ _)
      have S2 : Hid (Part.ok w21 ⟨a21, 4, c21, spellN sn 4⟩) := ok2
      have O21 : Hid (Own w21 w.heap.size (.slice a2 12 c2) ([kn, 0] ++ spellN 0 6 ++ spellN en 4)) := O2.out.later b21
      have X21 : Hid (BBox w21 w.heap.size kn (-1) en sn false (.slice ad len cap)) := X2.out.later b21
      have b021 : Below w.heap.size w w21 := b02.trans (b21.mono b02.size)
      have s2 := b021.size
      clear own2 ok2 b21 O2 X2 b02
      go_wp2_with (at_builtin; refine app_any rfl _ _ rfl w.heap.size (.slice a2 12 c2) 12 ([kn, 0] ++ spellN 0 6 ++ spellN en 4) rfl (own_n O21.out (by simp [spellN_length])) a21 4 c21 (spellN sn 4) rfl (spellN_length _ _) S2.out.2.1 S2.out.2.2 (by omega) s2 ?_; intro v22 w3 hown2 hg2; obtain ⟨a3, c3, rfl, O3, X3, b03⟩ := app_step O21.out s2 X21.out b021 (spellN_lt _ _) (by simp [spellN_length]) (spellN_length _ _) hown2 hg2; have e22 := X3.out.c2; have e32 := X3.out.c3; have e52 := X3.out.c5; clear hown2 hg2 O21 X21 b021 S2 s2)
      go_wp2_with fail
      refine (bytes_any len 2 _ (by omega)).mono ?_
      rintro x w31 ⟨v31, rfl, own3, b31⟩
      obtain ⟨a31, c31, rfl, ok3, -⟩ := own3.slice 2 (spellN_length _ _)
      have S3 : Hid (Part.ok w31 ⟨a31, 2, c31, spellN len 2⟩) := ok3
      have O31 : Hid (Own w31 w.heap.size (.slice a3 16 c3) ([kn, 0] ++ spellN 0 6 ++ spellN en 4 ++ spellN sn 4)) := O3.out.later b31
      have X31 : Hid (BBox w31 w.heap.size kn (-1) en sn false (.slice ad len cap)) := X3.out.later b31
      have b031 : Below w.heap.size w w31 := b03.trans (b31.mono b03.size)
      have s3 := b031.size
      clear own3 ok3 b31 O3 X3 b03
      go_wp2_with (at_builtin; refine app_any rfl _ _ rfl w.heap.size (.slice a3 16 c3) 16 ([kn, 0] ++ spellN 0 6 ++ spellN en 4 ++ spellN sn 4) rfl (own_n O31.out (by simp [spellN_length])) a31 2 c31 (spellN len 2) rfl (spellN_length _ _) S3.out.2.1 S3.out.2.2 (by omega) s3 ?_; intro v32 w4 hown3 hg3; obtain ⟨a4, c4, rfl, O4, X4, b04⟩ := app_step O31.out s3 X31.out b031 (spellN_lt _ _) (by simp [spellN_length]) (spellN_length _ _) hown3 hg3; have e23 := X4.out.c2; have e33 := X4.out.c3; have e53 := X4.out.c5; clear hown3 hg3 O31 X31 b031 S3 s3)
      rw [HE.out] at O4
      have HH : Hid ((headBs ⟨kn, (-1), en, sn, false, rs⟩).length = 18) := headBs_length _
      have HW : Hid (headBs ⟨kn, (-1), en, sn, false, rs⟩ ++ recsBs rs = writeN ⟨kn, (-1), en, sn, false, rs⟩) := rfl
      have O4' : Hid (Own w4 w.heap.size (.slice a4 18 c4) (headBs ⟨kn, (-1), en, sn, false, rs⟩ ++ recsBs (rs.take 0))) := by
        show Own _ _ _ _
        rw [List.take_zero, recsBs, List.append_nil]; exact O4.out
      clear O4 HE
      generalize headBs ⟨kn, (-1), en, sn, false, rs⟩ = hd at *
      have HN4 : Hid ((hd ++ recsBs (rs.take 0)).length = 18) := by
        show _ = _
        rw [List.take_zero, recsBs, List.append_nil]; exact HH.out
      obtain ⟨g4, d4, e4, -, -⟩ := World.ownsRow.form (own_n O4'.out HN4.out) (by omega)
      cases e4
      go_loopw [5, 6] (fun o i wr => ∃ (j g n c : Nat), j ≤ len ∧ i = .int .i64 j ∧ o = .slice (some ⟨g, 0, none⟩) n c ∧ Hid ((hd ++ recsBs (rs.take j)).length = n) ∧ Hid (Own wr w.heap.size (.slice (some ⟨g, 0, none⟩) n c) (hd ++ recsBs (rs.take j))) ∧ Below w.heap.size w wr ∧ Hid (BBox wr w.heap.size kn (-1) en sn false (.slice ad len cap))) (fun _ i _ => len - (intOf i).toNat)
      case atStart => exact ⟨0, g4, 18, _, Nat.zero_le _, rfl, rfl, HN4, O4', b04, X4⟩
      case round =>
        clear O4' b04 X4 HN4
        obtain ⟨j, g, n, c, hj, rfl, rfl, HN, HO, hb, hx⟩ := hrel
        have c5 := hx.out.c5
        by_cases hlt : j < len
        · obtain ⟨bg, off, rfl, hg, hc⟩ := HA.out.cells (by omega)
          obtain ⟨q0, q1, q2⟩ := hc j hlt
          have r0 : wr.cell? ⟨bg, off + j * 3, none⟩ = _ := (hb.cell (p := ⟨bg, off + j * 3, none⟩) hg).trans q0
          have r1 : wr.cell? ⟨bg, off + j * 3 + 1, none⟩ = _ := (hb.cell (p := ⟨bg, off + j * 3 + 1, none⟩) hg).trans q1
          have r2 : wr.cell? ⟨bg, off + j * 3 + 2, none⟩ = _ := (hb.cell (p := ⟨bg, off + j * 3 + 2, none⟩) hg).trans q2
          clear hc q0 q1 q2
          simp only at r0 r1 r2
          have hz := recsSize_take_le rs HOK.out j
          rw [HL.out] at hz
          have hn : n ≤ 400000 := by rw [← HN.out, List.length_append, HH.out, recsBs_length]; omega
          have HS : Hid (hd ++ recsBs (rs.take j) ++ recBs (rs.getD j rec0) = hd ++ recsBs (rs.take (j + 1))) := by
            show _ = _
            rw [take_snocR rs j (by rw [HL.out]; exact hlt), recsBs_append, recsBs_one, List.append_assoc]
          have HO2 : Hid ((rs.getD j rec0).key.size ≤ 1000 ∧ (rs.getD j rec0).val.size ≤ 4000) := recOk_parts (HOK.out _ (getD_mem rs j (by rw [HL.out]; exact hlt)))
          clear hz
          generalize rs.getD j rec0 = r at *
          obtain ⟨rk, rv, rd⟩ := r
          simp only at r0 r1 r2 HO2
          have GA : Hid (g < wr.heap.size) := (own_base HO.out g 0 rfl).2
          cases rd
          · have ba : Below wr.heap.size wr (wr.alloc (.cells #[.string rk, .string rv, .bool false] 88)) := (Below.refl _ _).alloc (Nat.le_refl _) _
            have XA : Hid (BBox (wr.alloc (.cells #[.string rk, .string rv, .bool false] 88)) w.heap.size kn (-1) en sn false (.slice (some ⟨bg, off, none⟩) len cap)) := hx.out.later ba
            have OA : Hid (Own (wr.alloc (.cells #[.string rk, .string rv, .bool false] 88)) w.heap.size (.slice (some ⟨g, 0, none⟩) n c) (hd ++ recsBs (rs.take j))) := HO.out.later ba
            have RA : Hid (RBox (wr.alloc (.cells #[.string rk, .string rv, .bool false] 88)) wr.heap.size ⟨rk, rv, false⟩) := heap_alloc_new wr _
            have bA : Below w.heap.size w (wr.alloc (.cells #[.string rk, .string rv, .bool false] 88)) := hb.trans (ba.mono hb.size)
            have HZ : Hid ((wr.alloc (.cells #[.string rk, .string rv, .bool false] 88)).heap.size = wr.heap.size + 1) := by
              show _ = _
              simp
            clear ba hx HO hb
            have hk1 : rk.size ≤ 1000 := HO2.out.1
            have hv1 : rv.size ≤ 4000 := HO2.out.2
            go_wp2_with fail
            refine (refText_any rk _ (by unfold maxLen; omega)).mono ?_
            rintro x w1 ⟨v1, rfl, own1, b1⟩
            rw [textN_ok rk (by omega)] at own1 ⊢
            simp only at own1
            obtain ⟨m1, hm1⟩ : ∃ m, (spellN rk.size 2 ++ sbytes rk).length = m := ⟨_, rfl⟩
            have hm1' : m1 ≤ 1002 := by rw [← hm1, List.length_append, spellN_length, sbytes_length]; omega
            obtain ⟨k1, d1, rfl, ok1, -⟩ := own1.slice m1 hm1
            have P1 : Hid (Part.ok w1 ⟨k1, m1, d1, spellN rk.size 2 ++ sbytes rk⟩) := ok1
            have Z1 : Hid (∀ b off, k1 = some ⟨b, off, none⟩ → wr.heap.size + 1 ≤ b ∧ b < w1.heap.size) := fun b off e => (by have := own_base own1 b off e; rw [HZ.out] at this; exact this)
            have X1 : Hid (BBox w1 w.heap.size kn (-1) en sn false (.slice (some ⟨bg, off, none⟩) len cap)) := XA.out.later b1
            have O1 : Hid (Own w1 w.heap.size (.slice (some ⟨g, 0, none⟩) n c) (hd ++ recsBs (rs.take j))) := OA.out.later b1
            have R1 : Hid (RBox w1 wr.heap.size ⟨rk, rv, false⟩) := RBox.later RA.out b1
            have b01 : Below w.heap.size w w1 := bA.trans (b1.mono bA.size)
            have u1 := R1.out.c1
            have y1 : Hid (wr.heap.size + 1 ≤ w1.heap.size) := by
              have := b1.size
              rw [HZ.out] at this
              exact this
            clear own1 ok1 b1 XA OA RA bA hm1
            go_wp2_with fail
            refine (refText_any rv _ (by unfold maxLen; omega)).mono ?_
            rintro x w2 ⟨v2, rfl, own2, b2⟩
            rw [textN_ok rv (by omega)] at own2 ⊢
            simp only at own2
            obtain ⟨m2, hm2⟩ : ∃ m, (spellN rv.size 2 ++ sbytes rv).length = m := ⟨_, rfl⟩
            have hm2' : m2 ≤ 4002 := by rw [← hm2, List.length_append, spellN_length, sbytes_length]; omega
            obtain ⟨k2, d2, rfl, ok2, -⟩ := own2.slice m2 hm2
            have ba2 : Below w2.heap.size w2 (w2.alloc (.cells #[.int .u8 0] 5)) := (Below.refl _ _).alloc (Nat.le_refl _) _
            have Z2 : Hid (∀ b off, k2 = some ⟨b, off, none⟩ → w1.heap.size ≤ b ∧ b < w2.heap.size) := own_base own2
            have P2 : Hid (Part.ok (w2.alloc (.cells #[.int .u8 0] 5)) ⟨k1, m1, d1, spellN rk.size 2 ++ sbytes rk⟩) := (P1.out.later b2).later ba2
            have Q2 : Hid (Part.ok (w2.alloc (.cells #[.int .u8 0] 5)) ⟨k2, m2, d2, spellN rv.size 2 ++ sbytes rv⟩) := ok2.later ba2
            have X2 : Hid (BBox (w2.alloc (.cells #[.int .u8 0] 5)) w.heap.size kn (-1) en sn false (.slice (some ⟨bg, off, none⟩) len cap)) := (X1.out.later b2).later ba2
            have O2 : Hid (Own (w2.alloc (.cells #[.int .u8 0] 5)) w.heap.size (.slice (some ⟨g, 0, none⟩) n c) (hd ++ recsBs (rs.take j))) := (O1.out.later b2).later ba2
            have D2 : Hid (Part.ok (w2.alloc (.cells #[.int .u8 0] 5)) ⟨some ⟨w2.heap.size, 0, none⟩, 1, 1, [0]⟩) := ⟨rfl, fun e => (by cases e), one_row w2 0 (by omega)⟩
            have b02 : Below w.heap.size w w2 := b01.trans (b2.mono b01.size)
            have b03 : Below w.heap.size w (w2.alloc (.cells #[.int .u8 0] 5)) := b02.trans (ba2.mono b02.size)
            have sz3 := b03.size
            have HZ3 : Hid ((w2.alloc (.cells #[.int .u8 0] 5)).heap.size = w2.heap.size + 1) := by
              show _ = _
              simp
            obtain ⟨n3, hn3⟩ : ∃ m, n + 1 = m := ⟨_, rfl⟩
            obtain ⟨n4, hn4⟩ : ∃ m, n3 + m1 = m := ⟨_, rfl⟩
            obtain ⟨n5, hn5⟩ : ∃ m, n4 + m2 = m := ⟨_, rfl⟩
            have HN3 : Hid (n + 1 = n3) := hn3
            have HN4 : Hid (n3 + m1 = n4) := hn4
            have HN5 : Hid (n4 + m2 = n5) := hn5
            have l3 : n3 ≤ 400001 := by omega
            have l4 : n4 ≤ 401003 := by omega
            clear own2 ok2 b2 ba2 P1 X1 O1 R1 b01 b02 u1 hm2 hn3 hn4 hn5
            go_wp2_with (first
              | (at_builtin; refine app_at' rfl (.tmp 74) (.tmp 77) rfl w.heap.size g n c _ rfl O2.out HN.out (some ⟨w2.heap.size, 0, none⟩) 1 1 [0] rfl D2.out n3 HN3.out (by omega) sz3 ?_; intro g3 c3 w3 hg3 O3 hr3; have O3 : Hid (Own w3 w.heap.size (.slice (some ⟨g3, 0, none⟩) n3 c3) (hd ++ recsBs (rs.take j) ++ [0])) := O3; have HG3 : Hid (g3 = g ∨ g3 = w2.heap.size + 1) := (by rw [HZ3.out] at hg3; exact hg3); have P3 : Hid (Part.ok w3 ⟨k1, m1, d1, spellN rk.size 2 ++ sbytes rk⟩) := P2.out.grown hr3 (fun b off e => (by have h1 := (Z1.out b off e).1; have h2 := GA.out; omega)); have Q3 : Hid (Part.ok w3 ⟨k2, m2, d2, spellN rv.size 2 ++ sbytes rv⟩) := Q2.out.grown hr3 (fun b off e => (by have h1 := (Z2.out b off e).1; have h2 := GA.out; have h3 := y1.out; omega)); have X3 : Hid (BBox w3 w.heap.size kn (-1) en sn false (.slice (some ⟨bg, off, none⟩) len cap)) := X2.out.grown hr3 (fun e => own_typed O2.out.2 X2.out (by decide) e.symm); have b04 := b03.grown hr3 sz3 (fun k hk => (by cases hk; exact (own_base O2.out g 0 rfl).1)); have sz4 := b04.size; have HN3' : Hid ((hd ++ recsBs (rs.take j) ++ [0]).length = n3) := (by show _ = _; rw [List.length_append, HN.out]; exact HN3.out); clear hg3 hr3 P2 Q2 X2 O2 D2 b03 sz3)
              | (at_builtin; refine app_at' rfl (.tmp 78) (.tmp 79) rfl w.heap.size g3 n3 c3 _ rfl O3.out HN3'.out k1 m1 d1 _ rfl P3.out n4 HN4.out (by omega) sz4 ?_; intro g4 c4 w4 hg4 O4 hr4; have O4 : Hid (Own w4 w.heap.size (.slice (some ⟨g4, 0, none⟩) n4 c4) (hd ++ recsBs (rs.take j) ++ [0] ++ (spellN rk.size 2 ++ sbytes rk))) := O4; have Q4 : Hid (Part.ok w4 ⟨k2, m2, d2, spellN rv.size 2 ++ sbytes rv⟩) := Q3.out.grown hr4 (fun b off e => (by have h1 := Z2.out b off e; have h2 := GA.out; have h3 := y1.out; have h4 := HG3.out; omega)); have X4 : Hid (BBox w4 w.heap.size kn (-1) en sn false (.slice (some ⟨bg, off, none⟩) len cap)) := X3.out.grown hr4 (fun e => own_typed O3.out.2 X3.out (by decide) e.symm); have b05 := b04.grown hr4 sz4 (fun k hk => (by cases hk; exact (own_base O3.out g3 0 rfl).1)); have sz5 := b05.size; have HN4' : Hid ((hd ++ recsBs (rs.take j) ++ [0] ++ (spellN rk.size 2 ++ sbytes rk)).length = n4) := (by show _ = _; rw [List.length_append, HN3'.out]; have := P3.out.1; simp only at this; rw [this]; exact HN4.out); clear hg4 hr4 P3 Q3 X3 O3 b04 sz4)
              | (at_builtin; refine app_at' rfl (.tmp 80) (.tmp 81) rfl w.heap.size g4 n4 c4 _ rfl O4.out HN4'.out k2 m2 d2 _ rfl Q4.out n5 HN5.out (by omega) sz5 ?_; intro g5 c6 w5 hg5 O5 hr5; have O5 : Hid (Own w5 w.heap.size (.slice (some ⟨g5, 0, none⟩) n5 c6) (hd ++ recsBs (rs.take j) ++ [0] ++ (spellN rk.size 2 ++ sbytes rk) ++ (spellN rv.size 2 ++ sbytes rv))) := O5; have X5 : Hid (BBox w5 w.heap.size kn (-1) en sn false (.slice (some ⟨bg, off, none⟩) len cap)) := X4.out.grown hr5 (fun e => own_typed O4.out.2 X4.out (by decide) e.symm); have b06 := b05.grown hr5 sz5 (fun k hk => (by cases hk; exact (own_base O4.out g4 0 rfl).1)); have HN5' : Hid ((hd ++ recsBs (rs.take j) ++ [0] ++ (spellN rk.size 2 ++ sbytes rk) ++ (spellN rv.size 2 ++ sbytes rv)).length = n5) := (by show _ = _; rw [List.length_append, HN4'.out]; have := Q4.out.1; simp only at this; rw [this]; exact HN5.out); clear hg5 hr5 Q4 X4 O4 b05 sz5))
            have HE5 : Hid (hd ++ recsBs (rs.take j) ++ [0] ++ (spellN rk.size 2 ++ sbytes rk) ++ (spellN rv.size 2 ++ sbytes rv) = hd ++ recsBs (rs.take (j + 1))) := by
              show _ = _
              rw [← HS.out, recBs]
              simp [List.append_assoc]
            rw [HE5.out] at O5 HN5'
            go_roundw
            case rel => exact ⟨j + 1, g5, n5, c6, by omega, by go_num, rfl, HN5', O5, b06, X5⟩
            case measure => simp [intOf]; omega
          · have ba : Below wr.heap.size wr (wr.alloc (.cells #[.string rk, .string rv, .bool true] 88)) := (Below.refl _ _).alloc (Nat.le_refl _) _
            have XA : Hid (BBox (wr.alloc (.cells #[.string rk, .string rv, .bool true] 88)) w.heap.size kn (-1) en sn false (.slice (some ⟨bg, off, none⟩) len cap)) := hx.out.later ba
            have OA : Hid (Own (wr.alloc (.cells #[.string rk, .string rv, .bool true] 88)) w.heap.size (.slice (some ⟨g, 0, none⟩) n c) (hd ++ recsBs (rs.take j))) := HO.out.later ba
            have RA : Hid (RBox (wr.alloc (.cells #[.string rk, .string rv, .bool true] 88)) wr.heap.size ⟨rk, rv, true⟩) := heap_alloc_new wr _
            have bA : Below w.heap.size w (wr.alloc (.cells #[.string rk, .string rv, .bool true] 88)) := hb.trans (ba.mono hb.size)
            have HZ : Hid ((wr.alloc (.cells #[.string rk, .string rv, .bool true] 88)).heap.size = wr.heap.size + 1) := by
              show _ = _
              simp
            clear ba hx HO hb
            have hk1 : rk.size ≤ 1000 := HO2.out.1
            have hv1 : rv.size ≤ 4000 := HO2.out.2
            go_wp2_with fail
            refine (refText_any rk _ (by unfold maxLen; omega)).mono ?_
            rintro x w1 ⟨v1, rfl, own1, b1⟩
            rw [textN_ok rk (by omega)] at own1 ⊢
            simp only at own1
            obtain ⟨m1, hm1⟩ : ∃ m, (spellN rk.size 2 ++ sbytes rk).length = m := ⟨_, rfl⟩
            have hm1' : m1 ≤ 1002 := by rw [← hm1, List.length_append, spellN_length, sbytes_length]; omega
            obtain ⟨k1, d1, rfl, ok1, -⟩ := own1.slice m1 hm1
            have P1 : Hid (Part.ok w1 ⟨k1, m1, d1, spellN rk.size 2 ++ sbytes rk⟩) := ok1
            have Z1 : Hid (∀ b off, k1 = some ⟨b, off, none⟩ → wr.heap.size + 1 ≤ b ∧ b < w1.heap.size) := fun b off e => (by have := own_base own1 b off e; rw [HZ.out] at this; exact this)
            have X1 : Hid (BBox w1 w.heap.size kn (-1) en sn false (.slice (some ⟨bg, off, none⟩) len cap)) := XA.out.later b1
            have O1 : Hid (Own w1 w.heap.size (.slice (some ⟨g, 0, none⟩) n c) (hd ++ recsBs (rs.take j))) := OA.out.later b1
            have R1 : Hid (RBox w1 wr.heap.size ⟨rk, rv, true⟩) := RBox.later RA.out b1
            have b01 : Below w.heap.size w w1 := bA.trans (b1.mono bA.size)
            have u1 := R1.out.c1
            have y1 : Hid (wr.heap.size + 1 ≤ w1.heap.size) := by
              have := b1.size
              rw [HZ.out] at this
              exact this
            clear own1 ok1 b1 XA OA RA bA hm1
            go_wp2_with fail
            refine (refText_any rv _ (by unfold maxLen; omega)).mono ?_
            rintro x w2 ⟨v2, rfl, own2, b2⟩
            rw [textN_ok rv (by omega)] at own2 ⊢
            simp only at own2
            obtain ⟨m2, hm2⟩ : ∃ m, (spellN rv.size 2 ++ sbytes rv).length = m := ⟨_, rfl⟩
            have hm2' : m2 ≤ 4002 := by rw [← hm2, List.length_append, spellN_length, sbytes_length]; omega
            obtain ⟨k2, d2, rfl, ok2, -⟩ := own2.slice m2 hm2
            have ba2 : Below w2.heap.size w2 (w2.alloc (.cells #[.int .u8 1] 5)) := (Below.refl _ _).alloc (Nat.le_refl _) _
            have Z2 : Hid (∀ b off, k2 = some ⟨b, off, none⟩ → w1.heap.size ≤ b ∧ b < w2.heap.size) := own_base own2
            have P2 : Hid (Part.ok (w2.alloc (.cells #[.int .u8 1] 5)) ⟨k1, m1, d1, spellN rk.size 2 ++ sbytes rk⟩) := (P1.out.later b2).later ba2
            have Q2 : Hid (Part.ok (w2.alloc (.cells #[.int .u8 1] 5)) ⟨k2, m2, d2, spellN rv.size 2 ++ sbytes rv⟩) := ok2.later ba2
            have X2 : Hid (BBox (w2.alloc (.cells #[.int .u8 1] 5)) w.heap.size kn (-1) en sn false (.slice (some ⟨bg, off, none⟩) len cap)) := (X1.out.later b2).later ba2
            have O2 : Hid (Own (w2.alloc (.cells #[.int .u8 1] 5)) w.heap.size (.slice (some ⟨g, 0, none⟩) n c) (hd ++ recsBs (rs.take j))) := (O1.out.later b2).later ba2
            have D2 : Hid (Part.ok (w2.alloc (.cells #[.int .u8 1] 5)) ⟨some ⟨w2.heap.size, 0, none⟩, 1, 1, [1]⟩) := ⟨rfl, fun e => (by cases e), one_row w2 1 (by omega)⟩
            have b02 : Below w.heap.size w w2 := b01.trans (b2.mono b01.size)
            have b03 : Below w.heap.size w (w2.alloc (.cells #[.int .u8 1] 5)) := b02.trans (ba2.mono b02.size)
            have sz3 := b03.size
            have HZ3 : Hid ((w2.alloc (.cells #[.int .u8 1] 5)).heap.size = w2.heap.size + 1) := by
              show _ = _
              simp
            obtain ⟨n3, hn3⟩ : ∃ m, n + 1 = m := ⟨_, rfl⟩
            obtain ⟨n4, hn4⟩ : ∃ m, n3 + m1 = m := ⟨_, rfl⟩
            obtain ⟨n5, hn5⟩ : ∃ m, n4 + m2 = m := ⟨_, rfl⟩
            have HN3 : Hid (n + 1 = n3) := hn3
            have HN4 : Hid (n3 + m1 = n4) := hn4
            have HN5 : Hid (n4 + m2 = n5) := hn5
            have l3 : n3 ≤ 400001 := by omega
            have l4 : n4 ≤ 401003 := by omega
            clear own2 ok2 b2 ba2 P1 X1 O1 R1 b01 b02 u1 hm2 hn3 hn4 hn5
            go_wp2_with (first
              | (at_builtin; refine app_at' rfl (.tmp 74) (.tmp 77) rfl w.heap.size g n c _ rfl O2.out HN.out (some ⟨w2.heap.size, 0, none⟩) 1 1 [1] rfl D2.out n3 HN3.out (by omega) sz3 ?_; intro g3 c3 w3 hg3 O3 hr3; have O3 : Hid (Own w3 w.heap.size (.slice (some ⟨g3, 0, none⟩) n3 c3) (hd ++ recsBs (rs.take j) ++ [1])) := O3; have HG3 : Hid (g3 = g ∨ g3 = w2.heap.size + 1) := (by rw [HZ3.out] at hg3; exact hg3); have P3 : Hid (Part.ok w3 ⟨k1, m1, d1, spellN rk.size 2 ++ sbytes rk⟩) := P2.out.grown hr3 (fun b off e => (by have h1 := (Z1.out b off e).1; have h2 := GA.out; omega)); have Q3 : Hid (Part.ok w3 ⟨k2, m2, d2, spellN rv.size 2 ++ sbytes rv⟩) := Q2.out.grown hr3 (fun b off e => (by have h1 := (Z2.out b off e).1; have h2 := GA.out; have h3 := y1.out; omega)); have X3 : Hid (BBox w3 w.heap.size kn (-1) en sn false (.slice (some ⟨bg, off, none⟩) len cap)) := X2.out.grown hr3 (fun e => own_typed O2.out.2 X2.out (by decide) e.symm); have b04 := b03.grown hr3 sz3 (fun k hk => (by cases hk; exact (own_base O2.out g 0 rfl).1)); have sz4 := b04.size; have HN3' : Hid ((hd ++ recsBs (rs.take j) ++ [1]).length = n3) := (by show _ = _; rw [List.length_append, HN.out]; exact HN3.out); clear hg3 hr3 P2 Q2 X2 O2 D2 b03 sz3)
              | (at_builtin; refine app_at' rfl (.tmp 78) (.tmp 79) rfl w.heap.size g3 n3 c3 _ rfl O3.out HN3'.out k1 m1 d1 _ rfl P3.out n4 HN4.out (by omega) sz4 ?_; intro g4 c4 w4 hg4 O4 hr4; have O4 : Hid (Own w4 w.heap.size (.slice (some ⟨g4, 0, none⟩) n4 c4) (hd ++ recsBs (rs.take j) ++ [1] ++ (spellN rk.size 2 ++ sbytes rk))) := O4; have Q4 : Hid (Part.ok w4 ⟨k2, m2, d2, spellN rv.size 2 ++ sbytes rv⟩) := Q3.out.grown hr4 (fun b off e => (by have h1 := Z2.out b off e; have h2 := GA.out; have h3 := y1.out; have h4 := HG3.out; omega)); have X4 : Hid (BBox w4 w.heap.size kn (-1) en sn false (.slice (some ⟨bg, off, none⟩) len cap)) := X3.out.grown hr4 (fun e => own_typed O3.out.2 X3.out (by decide) e.symm); have b05 := b04.grown hr4 sz4 (fun k hk => (by cases hk; exact (own_base O3.out g3 0 rfl).1)); have sz5 := b05.size; have HN4' : Hid ((hd ++ recsBs (rs.take j) ++ [1] ++ (spellN rk.size 2 ++ sbytes rk)).length = n4) := (by show _ = _; rw [List.length_append, HN3'.out]; have := P3.out.1; simp only at this; rw [this]; exact HN4.out); clear hg4 hr4 P3 Q3 X3 O3 b04 sz4)
              | (at_builtin; refine app_at' rfl (.tmp 80) (.tmp 81) rfl w.heap.size g4 n4 c4 _ rfl O4.out HN4'.out k2 m2 d2 _ rfl Q4.out n5 HN5.out (by omega) sz5 ?_; intro g5 c6 w5 hg5 O5 hr5; have O5 : Hid (Own w5 w.heap.size (.slice (some ⟨g5, 0, none⟩) n5 c6) (hd ++ recsBs (rs.take j) ++ [1] ++ (spellN rk.size 2 ++ sbytes rk) ++ (spellN rv.size 2 ++ sbytes rv))) := O5; have X5 : Hid (BBox w5 w.heap.size kn (-1) en sn false (.slice (some ⟨bg, off, none⟩) len cap)) := X4.out.grown hr5 (fun e => own_typed O4.out.2 X4.out (by decide) e.symm); have b06 := b05.grown hr5 sz5 (fun k hk => (by cases hk; exact (own_base O4.out g4 0 rfl).1)); have HN5' : Hid ((hd ++ recsBs (rs.take j) ++ [1] ++ (spellN rk.size 2 ++ sbytes rk) ++ (spellN rv.size 2 ++ sbytes rv)).length = n5) := (by show _ = _; rw [List.length_append, HN4'.out]; have := Q4.out.1; simp only at this; rw [this]; exact HN5.out); clear hg5 hr5 Q4 X4 O4 b05 sz5))
            have HE5 : Hid (hd ++ recsBs (rs.take j) ++ [1] ++ (spellN rk.size 2 ++ sbytes rk) ++ (spellN rv.size 2 ++ sbytes rv) = hd ++ recsBs (rs.take (j + 1))) := by
              show _ = _
              rw [← HS.out, recBs]
              simp [List.append_assoc]
            rw [HE5.out] at O5 HN5'
            go_roundw
            case rel => exact ⟨j + 1, g5, n5, c6, by omega, by go_num, rfl, HN5', O5, b06, X5⟩
            case measure => simp [intOf]; omega
        · obtain rfl : j = len := by omega
          have HV : Hid (rs.take j = rs) := List.take_of_length_le (by rw [HL.out]; omega)
          rw [HV.out, HW.out] at HO
          go_wp2
          go_ret
          exact ⟨_, rfl, HO.out, hb⟩
    · have HF : flagsN ⟨kn, -1, en, sn, true, rs⟩ = 2 := rfl
      have HQ : prodN ⟨kn, -1, en, sn, true, rs⟩ = 0 := rfl
      have HE : Hid ([kn, 2] ++ spellN 0 6 ++ spellN en 4 ++ spellN sn 4 ++ spellN len 2 = headBs ⟨kn, (-1), en, sn, true, rs⟩) := by
        show _ = _
        rw [headBs, HF, HQ]
        simp only [Int.toNat_natCast, HL.out, List.append_assoc]
      have O0 : Hid (Own ((w.alloc (.cells #[.int .i64 kn, .int .i64 (-1), .int .i64 en, .int .i64 sn, .bool true, .slice ad len cap] 25)).alloc (.cells #[.int .u8 (kn : Int), .int .u8 ((2 : Nat) : Int)] 5)) w.heap.size (.slice (some ⟨w.heap.size + 1, 0, none⟩) 2 2) [kn, 2]) := two_own w kn (-1) en sn true _ kn 2 (by omega) (by omega)
      have X0 : Hid (BBox ((w.alloc (.cells #[.int .i64 kn, .int .i64 (-1), .int .i64 en, .int .i64 sn, .bool true, .slice ad len cap] 25)).alloc (.cells #[.int .u8 (kn : Int), .int .u8 ((2 : Nat) : Int)] 5)) w.heap.size kn (-1) en sn true (.slice ad len cap)) := (BBox.new w _ _ _ _ _ _).later ((Below.refl _ _).alloc (Nat.le_refl _) _)
      have b0 : Below w.heap.size w ((w.alloc (.cells #[.int .i64 kn, .int .i64 (-1), .int .i64 en, .int .i64 sn, .bool true, .slice ad len cap] 25)).alloc (.cells #[.int .u8 (kn : Int), .int .u8 ((2 : Nat) : Int)] 5)) := ((Below.refl _ _).alloc (Nat.le_refl _) _).alloc (by simp) _
      clear HF HQ
      go_enter Tryz.func43, Tryz.ntmps43
      go_wp2_with fail
      refine (bytes_any 0 6 _ (by omega)).mono ?_
      rintro x w01 ⟨v01, rfl, own0, b01⟩
      obtain ⟨a01, c01, rfl, ok0, -⟩ := own0.slice 6 (spellN_length _ _)
      have S0 : Hid (Part.ok w01 ⟨a01, 6, c01, spellN 0 6⟩) := ok0
      have O01 : Hid (Own w01 w.heap.size (.slice (some ⟨w.heap.size + 1, 0, none⟩) 2 2) ([kn, 2])) := O0.out.later b01
      have X01 : Hid (BBox w01 w.heap.size kn (-1) en sn true (.slice ad len cap)) := X0.out.later b01
      have b001 : Below w.heap.size w w01 := b0.trans (b01.mono b0.size)
      have s0 := b001.size
      clear own0 ok0 b01 O0 X0 b0
      go_wp2_with (at_builtin; refine app_any rfl _ _ rfl w.heap.size (.slice (some ⟨w.heap.size + 1, 0, none⟩) 2 2) 2 ([kn, 2]) rfl (own_n O01.out (by simp)) a01 6 c01 (spellN 0 6) rfl (spellN_length _ _) S0.out.2.1 S0.out.2.2 (by omega) s0 ?_; intro v02 w1 hown0 hg0; obtain ⟨a1, c1, rfl, O1, X1, b01⟩ := app_step O01.out s0 X01.out b001 (spellN_lt _ _) (by simp) (spellN_length _ _) hown0 hg0; have e20 := X1.out.c2; have e30 := X1.out.c3; have e50 := X1.out.c5; clear hown0 hg0 O01 X01 b001 S0 s0)
      go_wp2_with fail
      refine (bytes_any en 4 _ (by omega)).mono ?_
      rintro x w11 ⟨v11, rfl, own1, b11⟩
      obtain ⟨a11, c11, rfl, ok1, -⟩ := own1.slice 4 (spellN_length _ _)
      have S1 : Hid (Part.ok w11 ⟨a11, 4, c11, spellN en 4⟩) := ok1
      have O11 : Hid (Own w11 w.heap.size (.slice a1 8 c1) ([kn, 2] ++ spellN 0 6)) := O1.out.later b11
      have X11 : Hid (BBox w11 w.heap.size kn (-1) en sn true (.slice ad len cap)) := X1.out.later b11
      have b011 : Below w.heap.size w w11 := b01.trans (b11.mono b01.size)
      have s1 := b011.size
      clear own1 ok1 b11 O1 X1 b01
      go_wp2_with (at_builtin; refine app_any rfl _ _ rfl w.heap.size (.slice a1 8 c1) 8 ([kn, 2] ++ spellN 0 6) rfl (own_n O11.out (by simp [spellN_length])) a11 4 c11 (spellN en 4) rfl (spellN_length _ _) S1.out.2.1 S1.out.2.2 (by omega) s1 ?_; intro v12 w2 hown1 hg1; obtain ⟨a2, c2, rfl, O2, X2, b02⟩ := app_step O11.out s1 X11.out b011 (spellN_lt _ _) (by simp [spellN_length]) (spellN_length _ _) hown1 hg1; have e21 := X2.out.c2; have e31 := X2.out.c3; have e51 := X2.out.c5; clear hown1 hg1 O11 X11 b011 S1 s1)
      go_wp2_with fail
      refine (bytes_any sn 4 _ (by omega)).mono ?_
      rintro x w21 ⟨v21, rfl, own2, b21⟩
      obtain ⟨a21, c21, rfl, ok2, -⟩ := own2.slice 4 (spellN_length _ _)
      have S2 : Hid (Part.ok w21 ⟨a21, 4, c21, spellN sn 4⟩) := ok2
      have O21 : Hid (Own w21 w.heap.size (.slice a2 12 c2) ([kn, 2] ++ spellN 0 6 ++ spellN en 4)) := O2.out.later b21
      have X21 : Hid (BBox w21 w.heap.size kn (-1) en sn true (.slice ad len cap)) := X2.out.later b21
      have b021 : Below w.heap.size w w21 := b02.trans (b21.mono b02.size)
      have s2 := b021.size
      clear own2 ok2 b21 O2 X2 b02
      go_wp2_with (at_builtin; refine app_any rfl _ _ rfl w.heap.size (.slice a2 12 c2) 12 ([kn, 2] ++ spellN 0 6 ++ spellN en 4) rfl (own_n O21.out (by simp [spellN_length])) a21 4 c21 (spellN sn 4) rfl (spellN_length _ _) S2.out.2.1 S2.out.2.2 (by omega) s2 ?_; intro v22 w3 hown2 hg2; obtain ⟨a3, c3, rfl, O3, X3, b03⟩ := app_step O21.out s2 X21.out b021 (spellN_lt _ _) (by simp [spellN_length]) (spellN_length _ _) hown2 hg2; have e22 := X3.out.c2; have e32 := X3.out.c3; have e52 := X3.out.c5; clear hown2 hg2 O21 X21 b021 S2 s2)
      go_wp2_with fail
      refine (bytes_any len 2 _ (by omega)).mono ?_
      rintro x w31 ⟨v31, rfl, own3, b31⟩
      obtain ⟨a31, c31, rfl, ok3, -⟩ := own3.slice 2 (spellN_length _ _)
      have S3 : Hid (Part.ok w31 ⟨a31, 2, c31, spellN len 2⟩) := ok3
      have O31 : Hid (Own w31 w.heap.size (.slice a3 16 c3) ([kn, 2] ++ spellN 0 6 ++ spellN en 4 ++ spellN sn 4)) := O3.out.later b31
      have X31 : Hid (BBox w31 w.heap.size kn (-1) en sn true (.slice ad len cap)) := X3.out.later b31
      have b031 : Below w.heap.size w w31 := b03.trans (b31.mono b03.size)
      have s3 := b031.size
      clear own3 ok3 b31 O3 X3 b03
      go_wp2_with (at_builtin; refine app_any rfl _ _ rfl w.heap.size (.slice a3 16 c3) 16 ([kn, 2] ++ spellN 0 6 ++ spellN en 4 ++ spellN sn 4) rfl (own_n O31.out (by simp [spellN_length])) a31 2 c31 (spellN len 2) rfl (spellN_length _ _) S3.out.2.1 S3.out.2.2 (by omega) s3 ?_; intro v32 w4 hown3 hg3; obtain ⟨a4, c4, rfl, O4, X4, b04⟩ := app_step O31.out s3 X31.out b031 (spellN_lt _ _) (by simp [spellN_length]) (spellN_length _ _) hown3 hg3; have e23 := X4.out.c2; have e33 := X4.out.c3; have e53 := X4.out.c5; clear hown3 hg3 O31 X31 b031 S3 s3)
      rw [HE.out] at O4
      have HH : Hid ((headBs ⟨kn, (-1), en, sn, true, rs⟩).length = 18) := headBs_length _
      have HW : Hid (headBs ⟨kn, (-1), en, sn, true, rs⟩ ++ recsBs rs = writeN ⟨kn, (-1), en, sn, true, rs⟩) := rfl
      have O4' : Hid (Own w4 w.heap.size (.slice a4 18 c4) (headBs ⟨kn, (-1), en, sn, true, rs⟩ ++ recsBs (rs.take 0))) := by
        show Own _ _ _ _
        rw [List.take_zero, recsBs, List.append_nil]; exact O4.out
      clear O4 HE
      generalize headBs ⟨kn, (-1), en, sn, true, rs⟩ = hd at *
      have HN4 : Hid ((hd ++ recsBs (rs.take 0)).length = 18) := by
        show _ = _
        rw [List.take_zero, recsBs, List.append_nil]; exact HH.out
      obtain ⟨g4, d4, e4, -, -⟩ := World.ownsRow.form (own_n O4'.out HN4.out) (by omega)
      cases e4
      go_loopw [5, 6] (fun o i wr => ∃ (j g n c : Nat), j ≤ len ∧ i = .int .i64 j ∧ o = .slice (some ⟨g, 0, none⟩) n c ∧ Hid ((hd ++ recsBs (rs.take j)).length = n) ∧ Hid (Own wr w.heap.size (.slice (some ⟨g, 0, none⟩) n c) (hd ++ recsBs (rs.take j))) ∧ Below w.heap.size w wr ∧ Hid (BBox wr w.heap.size kn (-1) en sn true (.slice ad len cap))) (fun _ i _ => len - (intOf i).toNat)
      case atStart => exact ⟨0, g4, 18, _, Nat.zero_le _, rfl, rfl, HN4, O4', b04, X4⟩
      case round =>
        clear O4' b04 X4 HN4
        obtain ⟨j, g, n, c, hj, rfl, rfl, HN, HO, hb, hx⟩ := hrel
        have c5 := hx.out.c5
        by_cases hlt : j < len
        · obtain ⟨bg, off, rfl, hg, hc⟩ := HA.out.cells (by omega)
          obtain ⟨q0, q1, q2⟩ := hc j hlt
          have r0 : wr.cell? ⟨bg, off + j * 3, none⟩ = _ := (hb.cell (p := ⟨bg, off + j * 3, none⟩) hg).trans q0
          have r1 : wr.cell? ⟨bg, off + j * 3 + 1, none⟩ = _ := (hb.cell (p := ⟨bg, off + j * 3 + 1, none⟩) hg).trans q1
          have r2 : wr.cell? ⟨bg, off + j * 3 + 2, none⟩ = _ := (hb.cell (p := ⟨bg, off + j * 3 + 2, none⟩) hg).trans q2
          clear hc q0 q1 q2
          simp only at r0 r1 r2
          have hz := recsSize_take_le rs HOK.out j
          rw [HL.out] at hz
          have hn : n ≤ 400000 := by rw [← HN.out, List.length_append, HH.out, recsBs_length]; omega
          have HS : Hid (hd ++ recsBs (rs.take j) ++ recBs (rs.getD j rec0) = hd ++ recsBs (rs.take (j + 1))) := by
            show _ = _
            rw [take_snocR rs j (by rw [HL.out]; exact hlt), recsBs_append, recsBs_one, List.append_assoc]
          have HO2 : Hid ((rs.getD j rec0).key.size ≤ 1000 ∧ (rs.getD j rec0).val.size ≤ 4000) := recOk_parts (HOK.out _ (getD_mem rs j (by rw [HL.out]; exact hlt)))
          clear hz
          generalize rs.getD j rec0 = r at *
          obtain ⟨rk, rv, rd⟩ := r
          simp only at r0 r1 r2 HO2
          have GA : Hid (g < wr.heap.size) := (own_base HO.out g 0 rfl).2
          cases rd
          · have ba : Below wr.heap.size wr (wr.alloc (.cells #[.string rk, .string rv, .bool false] 88)) := (Below.refl _ _).alloc (Nat.le_refl _) _
            have XA : Hid (BBox (wr.alloc (.cells #[.string rk, .string rv, .bool false] 88)) w.heap.size kn (-1) en sn true (.slice (some ⟨bg, off, none⟩) len cap)) := hx.out.later ba
            have OA : Hid (Own (wr.alloc (.cells #[.string rk, .string rv, .bool false] 88)) w.heap.size (.slice (some ⟨g, 0, none⟩) n c) (hd ++ recsBs (rs.take j))) := HO.out.later ba
            have RA : Hid (RBox (wr.alloc (.cells #[.string rk, .string rv, .bool false] 88)) wr.heap.size ⟨rk, rv, false⟩) := heap_alloc_new wr _
            have bA : Below w.heap.size w (wr.alloc (.cells #[.string rk, .string rv, .bool false] 88)) := hb.trans (ba.mono hb.size)
            have HZ : Hid ((wr.alloc (.cells #[.string rk, .string rv, .bool false] 88)).heap.size = wr.heap.size + 1) := by
              show _ = _
              simp
            clear ba hx HO hb
            have hk1 : rk.size ≤ 1000 := HO2.out.1
            have hv1 : rv.size ≤ 4000 := HO2.out.2
            go_wp2_with fail
            refine (refText_any rk _ (by unfold maxLen; omega)).mono ?_
            rintro x w1 ⟨v1, rfl, own1, b1⟩
            rw [textN_ok rk (by omega)] at own1 ⊢
            simp only at own1
            obtain ⟨m1, hm1⟩ : ∃ m, (spellN rk.size 2 ++ sbytes rk).length = m := ⟨_, rfl⟩
            have hm1' : m1 ≤ 1002 := by rw [← hm1, List.length_append, spellN_length, sbytes_length]; omega
            obtain ⟨k1, d1, rfl, ok1, -⟩ := own1.slice m1 hm1
            have P1 : Hid (Part.ok w1 ⟨k1, m1, d1, spellN rk.size 2 ++ sbytes rk⟩) := ok1
            have Z1 : Hid (∀ b off, k1 = some ⟨b, off, none⟩ → wr.heap.size + 1 ≤ b ∧ b < w1.heap.size) := fun b off e => (by have := own_base own1 b off e; rw [HZ.out] at this; exact this)
            have X1 : Hid (BBox w1 w.heap.size kn (-1) en sn true (.slice (some ⟨bg, off, none⟩) len cap)) := XA.out.later b1
            have O1 : Hid (Own w1 w.heap.size (.slice (some ⟨g, 0, none⟩) n c) (hd ++ recsBs (rs.take j))) := OA.out.later b1
            have R1 : Hid (RBox w1 wr.heap.size ⟨rk, rv, false⟩) := RBox.later RA.out b1
            have b01 : Below w.heap.size w w1 := bA.trans (b1.mono bA.size)
            have u1 := R1.out.c1
            have y1 : Hid (wr.heap.size + 1 ≤ w1.heap.size) := by
              have := b1.size
              rw [HZ.out] at this
              exact this
            clear own1 ok1 b1 XA OA RA bA hm1
            go_wp2_with fail
            refine (refText_any rv _ (by unfold maxLen; omega)).mono ?_
            rintro x w2 ⟨v2, rfl, own2, b2⟩
            rw [textN_ok rv (by omega)] at own2 ⊢
            simp only at own2
            obtain ⟨m2, hm2⟩ : ∃ m, (spellN rv.size 2 ++ sbytes rv).length = m := ⟨_, rfl⟩
            have hm2' : m2 ≤ 4002 := by rw [← hm2, List.length_append, spellN_length, sbytes_length]; omega
            obtain ⟨k2, d2, rfl, ok2, -⟩ := own2.slice m2 hm2
            have ba2 : Below w2.heap.size w2 (w2.alloc (.cells #[.int .u8 0] 5)) := (Below.refl _ _).alloc (Nat.le_refl _) _
            have Z2 : Hid (∀ b off, k2 = some ⟨b, off, none⟩ → w1.heap.size ≤ b ∧ b < w2.heap.size) := own_base own2
            have P2 : Hid (Part.ok (w2.alloc (.cells #[.int .u8 0] 5)) ⟨k1, m1, d1, spellN rk.size 2 ++ sbytes rk⟩) := (P1.out.later b2).later ba2
            have Q2 : Hid (Part.ok (w2.alloc (.cells #[.int .u8 0] 5)) ⟨k2, m2, d2, spellN rv.size 2 ++ sbytes rv⟩) := ok2.later ba2
            have X2 : Hid (BBox (w2.alloc (.cells #[.int .u8 0] 5)) w.heap.size kn (-1) en sn true (.slice (some ⟨bg, off, none⟩) len cap)) := (X1.out.later b2).later ba2
            have O2 : Hid (Own (w2.alloc (.cells #[.int .u8 0] 5)) w.heap.size (.slice (some ⟨g, 0, none⟩) n c) (hd ++ recsBs (rs.take j))) := (O1.out.later b2).later ba2
            have D2 : Hid (Part.ok (w2.alloc (.cells #[.int .u8 0] 5)) ⟨some ⟨w2.heap.size, 0, none⟩, 1, 1, [0]⟩) := ⟨rfl, fun e => (by cases e), one_row w2 0 (by omega)⟩
            have b02 : Below w.heap.size w w2 := b01.trans (b2.mono b01.size)
            have b03 : Below w.heap.size w (w2.alloc (.cells #[.int .u8 0] 5)) := b02.trans (ba2.mono b02.size)
            have sz3 := b03.size
            have HZ3 : Hid ((w2.alloc (.cells #[.int .u8 0] 5)).heap.size = w2.heap.size + 1) := by
              show _ = _
              simp
            obtain ⟨n3, hn3⟩ : ∃ m, n + 1 = m := ⟨_, rfl⟩
            obtain ⟨n4, hn4⟩ : ∃ m, n3 + m1 = m := ⟨_, rfl⟩
            obtain ⟨n5, hn5⟩ : ∃ m, n4 + m2 = m := ⟨_, rfl⟩
            have HN3 : Hid (n + 1 = n3) := hn3
            have HN4 : Hid (n3 + m1 = n4) := hn4
            have HN5 : Hid (n4 + m2 = n5) := hn5
            have l3 : n3 ≤ 400001 := by omega
            have l4 : n4 ≤ 401003 := by omega
            clear own2 ok2 b2 ba2 P1 X1 O1 R1 b01 b02 u1 hm2 hn3 hn4 hn5
            go_wp2_with (first
              | (at_builtin; refine app_at' rfl (.tmp 74) (.tmp 77) rfl w.heap.size g n c _ rfl O2.out HN.out (some ⟨w2.heap.size, 0, none⟩) 1 1 [0] rfl D2.out n3 HN3.out (by omega) sz3 ?_; intro g3 c3 w3 hg3 O3 hr3; have O3 : Hid (Own w3 w.heap.size (.slice (some ⟨g3, 0, none⟩) n3 c3) (hd ++ recsBs (rs.take j) ++ [0])) := O3; have HG3 : Hid (g3 = g ∨ g3 = w2.heap.size + 1) := (by rw [HZ3.out] at hg3; exact hg3); have P3 : Hid (Part.ok w3 ⟨k1, m1, d1, spellN rk.size 2 ++ sbytes rk⟩) := P2.out.grown hr3 (fun b off e => (by have h1 := (Z1.out b off e).1; have h2 := GA.out; omega)); have Q3 : Hid (Part.ok w3 ⟨k2, m2, d2, spellN rv.size 2 ++ sbytes rv⟩) := Q2.out.grown hr3 (fun b off e => (by have h1 := (Z2.out b off e).1; have h2 := GA.out; have h3 := y1.out; omega)); have X3 : Hid (BBox w3 w.heap.size kn (-1) en sn true (.slice (some ⟨bg, off, none⟩) len cap)) := X2.out.grown hr3 (fun e => own_typed O2.out.2 X2.out (by decide) e.symm); have b04 := b03.grown hr3 sz3 (fun k hk => (by cases hk; exact (own_base O2.out g 0 rfl).1)); have sz4 := b04.size; have HN3' : Hid ((hd ++ recsBs (rs.take j) ++ [0]).length = n3) := (by show _ = _; rw [List.length_append, HN.out]; exact HN3.out); clear hg3 hr3 P2 Q2 X2 O2 D2 b03 sz3)
              | (at_builtin; refine app_at' rfl (.tmp 78) (.tmp 79) rfl w.heap.size g3 n3 c3 _ rfl O3.out HN3'.out k1 m1 d1 _ rfl P3.out n4 HN4.out (by omega) sz4 ?_; intro g4 c4 w4 hg4 O4 hr4; have O4 : Hid (Own w4 w.heap.size (.slice (some ⟨g4, 0, none⟩) n4 c4) (hd ++ recsBs (rs.take j) ++ [0] ++ (spellN rk.size 2 ++ sbytes rk))) := O4; have Q4 : Hid (Part.ok w4 ⟨k2, m2, d2, spellN rv.size 2 ++ sbytes rv⟩) := Q3.out.grown hr4 (fun b off e => (by have h1 := Z2.out b off e; have h2 := GA.out; have h3 := y1.out; have h4 := HG3.out; omega)); have X4 : Hid (BBox w4 w.heap.size kn (-1) en sn true (.slice (some ⟨bg, off, none⟩) len cap)) := X3.out.grown hr4 (fun e => own_typed O3.out.2 X3.out (by decide) e.symm); have b05 := b04.grown hr4 sz4 (fun k hk => (by cases hk; exact (own_base O3.out g3 0 rfl).1)); have sz5 := b05.size; have HN4' : Hid ((hd ++ recsBs (rs.take j) ++ [0] ++ (spellN rk.size 2 ++ sbytes rk)).length = n4) := (by show _ = _; rw [List.length_append, HN3'.out]; have := P3.out.1; simp only at this; rw [this]; exact HN4.out); clear hg4 hr4 P3 Q3 X3 O3 b04 sz4)
              | (at_builtin; refine app_at' rfl (.tmp 80) (.tmp 81) rfl w.heap.size g4 n4 c4 _ rfl O4.out HN4'.out k2 m2 d2 _ rfl Q4.out n5 HN5.out (by omega) sz5 ?_; intro g5 c6 w5 hg5 O5 hr5; have O5 : Hid (Own w5 w.heap.size (.slice (some ⟨g5, 0, none⟩) n5 c6) (hd ++ recsBs (rs.take j) ++ [0] ++ (spellN rk.size 2 ++ sbytes rk) ++ (spellN rv.size 2 ++ sbytes rv))) := O5; have X5 : Hid (BBox w5 w.heap.size kn (-1) en sn true (.slice (some ⟨bg, off, none⟩) len cap)) := X4.out.grown hr5 (fun e => own_typed O4.out.2 X4.out (by decide) e.symm); have b06 := b05.grown hr5 sz5 (fun k hk => (by cases hk; exact (own_base O4.out g4 0 rfl).1)); have HN5' : Hid ((hd ++ recsBs (rs.take j) ++ [0] ++ (spellN rk.size 2 ++ sbytes rk) ++ (spellN rv.size 2 ++ sbytes rv)).length = n5) := (by show _ = _; rw [List.length_append, HN4'.out]; have := Q4.out.1; simp only at this; rw [this]; exact HN5.out); clear hg5 hr5 Q4 X4 O4 b05 sz5))
            have HE5 : Hid (hd ++ recsBs (rs.take j) ++ [0] ++ (spellN rk.size 2 ++ sbytes rk) ++ (spellN rv.size 2 ++ sbytes rv) = hd ++ recsBs (rs.take (j + 1))) := by
              show _ = _
              rw [← HS.out, recBs]
              simp [List.append_assoc]
            rw [HE5.out] at O5 HN5'
            go_roundw
            case rel => exact ⟨j + 1, g5, n5, c6, by omega, by go_num, rfl, HN5', O5, b06, X5⟩
            case measure => simp [intOf]; omega
          · have ba : Below wr.heap.size wr (wr.alloc (.cells #[.string rk, .string rv, .bool true] 88)) := (Below.refl _ _).alloc (Nat.le_refl _) _
            have XA : Hid (BBox (wr.alloc (.cells #[.string rk, .string rv, .bool true] 88)) w.heap.size kn (-1) en sn true (.slice (some ⟨bg, off, none⟩) len cap)) := hx.out.later ba
            have OA : Hid (Own (wr.alloc (.cells #[.string rk, .string rv, .bool true] 88)) w.heap.size (.slice (some ⟨g, 0, none⟩) n c) (hd ++ recsBs (rs.take j))) := HO.out.later ba
            have RA : Hid (RBox (wr.alloc (.cells #[.string rk, .string rv, .bool true] 88)) wr.heap.size ⟨rk, rv, true⟩) := heap_alloc_new wr _
            have bA : Below w.heap.size w (wr.alloc (.cells #[.string rk, .string rv, .bool true] 88)) := hb.trans (ba.mono hb.size)
            have HZ : Hid ((wr.alloc (.cells #[.string rk, .string rv, .bool true] 88)).heap.size = wr.heap.size + 1) := by
              show _ = _
              simp
            clear ba hx HO hb
            have hk1 : rk.size ≤ 1000 := HO2.out.1
            have hv1 : rv.size ≤ 4000 := HO2.out.2
            go_wp2_with fail
            refine (refText_any rk _ (by unfold maxLen; omega)).mono ?_
            rintro x w1 ⟨v1, rfl, own1, b1⟩
            rw [textN_ok rk (by omega)] at own1 ⊢
            simp only at own1
            obtain ⟨m1, hm1⟩ : ∃ m, (spellN rk.size 2 ++ sbytes rk).length = m := ⟨_, rfl⟩
            have hm1' : m1 ≤ 1002 := by rw [← hm1, List.length_append, spellN_length, sbytes_length]; omega
            obtain ⟨k1, d1, rfl, ok1, -⟩ := own1.slice m1 hm1
            have P1 : Hid (Part.ok w1 ⟨k1, m1, d1, spellN rk.size 2 ++ sbytes rk⟩) := ok1
            have Z1 : Hid (∀ b off, k1 = some ⟨b, off, none⟩ → wr.heap.size + 1 ≤ b ∧ b < w1.heap.size) := fun b off e => (by have := own_base own1 b off e; rw [HZ.out] at this; exact this)
            have X1 : Hid (BBox w1 w.heap.size kn (-1) en sn true (.slice (some ⟨bg, off, none⟩) len cap)) := XA.out.later b1
            have O1 : Hid (Own w1 w.heap.size (.slice (some ⟨g, 0, none⟩) n c) (hd ++ recsBs (rs.take j))) := OA.out.later b1
            have R1 : Hid (RBox w1 wr.heap.size ⟨rk, rv, true⟩) := RBox.later RA.out b1
            have b01 : Below w.heap.size w w1 := bA.trans (b1.mono bA.size)
            have u1 := R1.out.c1
            have y1 : Hid (wr.heap.size + 1 ≤ w1.heap.size) := by
              have := b1.size
              rw [HZ.out] at this
              exact this
            clear own1 ok1 b1 XA OA RA bA hm1
            go_wp2_with fail
            refine (refText_any rv _ (by unfold maxLen; omega)).mono ?_
            rintro x w2 ⟨v2, rfl, own2, b2⟩
            rw [textN_ok rv (by omega)] at own2 ⊢
            simp only at own2
            obtain ⟨m2, hm2⟩ : ∃ m, (spellN rv.size 2 ++ sbytes rv).length = m := ⟨_, rfl⟩
            have hm2' : m2 ≤ 4002 := by rw [← hm2, List.length_append, spellN_length, sbytes_length]; omega
            obtain ⟨k2, d2, rfl, ok2, -⟩ := own2.slice m2 hm2
            have ba2 : Below w2.heap.size w2 (w2.alloc (.cells #[.int .u8 1] 5)) := (Below.refl _ _).alloc (Nat.le_refl _) _
            have Z2 : Hid (∀ b off, k2 = some ⟨b, off, none⟩ → w1.heap.size ≤ b ∧ b < w2.heap.size) := own_base own2
            have P2 : Hid (Part.ok (w2.alloc (.cells #[.int .u8 1] 5)) ⟨k1, m1, d1, spellN rk.size 2 ++ sbytes rk⟩) := (P1.out.later b2).later ba2
            have Q2 : Hid (Part.ok (w2.alloc (.cells #[.int .u8 1] 5)) ⟨k2, m2, d2, spellN rv.size 2 ++ sbytes rv⟩) := ok2.later ba2
            have X2 : Hid (BBox (w2.alloc (.cells #[.int .u8 1] 5)) w.heap.size kn (-1) en sn true (.slice (some ⟨bg, off, none⟩) len cap)) := (X1.out.later b2).later ba2
            have O2 : Hid (Own (w2.alloc (.cells #[.int .u8 1] 5)) w.heap.size (.slice (some ⟨g, 0, none⟩) n c) (hd ++ recsBs (rs.take j))) := (O1.out.later b2).later ba2
            have D2 : Hid (Part.ok (w2.alloc (.cells #[.int .u8 1] 5)) ⟨some ⟨w2.heap.size, 0, none⟩, 1, 1, [1]⟩) := ⟨rfl, fun e => (by cases e), one_row w2 1 (by omega)⟩
            have b02 : Below w.heap.size w w2 := b01.trans (b2.mono b01.size)
            have b03 : Below w.heap.size w (w2.alloc (.cells #[.int .u8 1] 5)) := b02.trans (ba2.mono b02.size)
            have sz3 := b03.size
            have HZ3 : Hid ((w2.alloc (.cells #[.int .u8 1] 5)).heap.size = w2.heap.size + 1) := by
              show _ = _
              simp
            obtain ⟨n3, hn3⟩ : ∃ m, n + 1 = m := ⟨_, rfl⟩
            obtain ⟨n4, hn4⟩ : ∃ m, n3 + m1 = m := ⟨_, rfl⟩
            obtain ⟨n5, hn5⟩ : ∃ m, n4 + m2 = m := ⟨_, rfl⟩
            have HN3 : Hid (n + 1 = n3) := hn3
            have HN4 : Hid (n3 + m1 = n4) := hn4
            have HN5 : Hid (n4 + m2 = n5) := hn5
            have l3 : n3 ≤ 400001 := by omega
            have l4 : n4 ≤ 401003 := by omega
            clear own2 ok2 b2 ba2 P1 X1 O1 R1 b01 b02 u1 hm2 hn3 hn4 hn5
            go_wp2_with (first
              | (at_builtin; refine app_at' rfl (.tmp 74) (.tmp 77) rfl w.heap.size g n c _ rfl O2.out HN.out (some ⟨w2.heap.size, 0, none⟩) 1 1 [1] rfl D2.out n3 HN3.out (by omega) sz3 ?_; intro g3 c3 w3 hg3 O3 hr3; have O3 : Hid (Own w3 w.heap.size (.slice (some ⟨g3, 0, none⟩) n3 c3) (hd ++ recsBs (rs.take j) ++ [1])) := O3; have HG3 : Hid (g3 = g ∨ g3 = w2.heap.size + 1) := (by rw [HZ3.out] at hg3; exact hg3); have P3 : Hid (Part.ok w3 ⟨k1, m1, d1, spellN rk.size 2 ++ sbytes rk⟩) := P2.out.grown hr3 (fun b off e => (by have h1 := (Z1.out b off e).1; have h2 := GA.out; omega)); have Q3 : Hid (Part.ok w3 ⟨k2, m2, d2, spellN rv.size 2 ++ sbytes rv⟩) := Q2.out.grown hr3 (fun b off e => (by have h1 := (Z2.out b off e).1; have h2 := GA.out; have h3 := y1.out; omega)); have X3 : Hid (BBox w3 w.heap.size kn (-1) en sn true (.slice (some ⟨bg, off, none⟩) len cap)) := X2.out.grown hr3 (fun e => own_typed O2.out.2 X2.out (by decide) e.symm); have b04 := b03.grown hr3 sz3 (fun k hk => (by cases hk; exact (own_base O2.out g 0 rfl).1)); have sz4 := b04.size; have HN3' : Hid ((hd ++ recsBs (rs.take j) ++ [1]).length = n3) := (by show _ = _; rw [List.length_append, HN.out]; exact HN3.out); clear hg3 hr3 P2 Q2 X2 O2 D2 b03 sz3)
              | (at_builtin; refine app_at' rfl (.tmp 78) (.tmp 79) rfl w.heap.size g3 n3 c3 _ rfl O3.out HN3'.out k1 m1 d1 _ rfl P3.out n4 HN4.out (by omega) sz4 ?_; intro g4 c4 w4 hg4 O4 hr4; have O4 : Hid (Own w4 w.heap.size (.slice (some ⟨g4, 0, none⟩) n4 c4) (hd ++ recsBs (rs.take j) ++ [1] ++ (spellN rk.size 2 ++ sbytes rk))) := O4; have Q4 : Hid (Part.ok w4 ⟨k2, m2, d2, spellN rv.size 2 ++ sbytes rv⟩) := Q3.out.grown hr4 (fun b off e => (by have h1 := Z2.out b off e; have h2 := GA.out; have h3 := y1.out; have h4 := HG3.out; omega)); have X4 : Hid (BBox w4 w.heap.size kn (-1) en sn true (.slice (some ⟨bg, off, none⟩) len cap)) := X3.out.grown hr4 (fun e => own_typed O3.out.2 X3.out (by decide) e.symm); have b05 := b04.grown hr4 sz4 (fun k hk => (by cases hk; exact (own_base O3.out g3 0 rfl).1)); have sz5 := b05.size; have HN4' : Hid ((hd ++ recsBs (rs.take j) ++ [1] ++ (spellN rk.size 2 ++ sbytes rk)).length = n4) := (by show _ = _; rw [List.length_append, HN3'.out]; have := P3.out.1; simp only at this; rw [this]; exact HN4.out); clear hg4 hr4 P3 Q3 X3 O3 b04 sz4)
              | (at_builtin; refine app_at' rfl (.tmp 80) (.tmp 81) rfl w.heap.size g4 n4 c4 _ rfl O4.out HN4'.out k2 m2 d2 _ rfl Q4.out n5 HN5.out (by omega) sz5 ?_; intro g5 c6 w5 hg5 O5 hr5; have O5 : Hid (Own w5 w.heap.size (.slice (some ⟨g5, 0, none⟩) n5 c6) (hd ++ recsBs (rs.take j) ++ [1] ++ (spellN rk.size 2 ++ sbytes rk) ++ (spellN rv.size 2 ++ sbytes rv))) := O5; have X5 : Hid (BBox w5 w.heap.size kn (-1) en sn true (.slice (some ⟨bg, off, none⟩) len cap)) := X4.out.grown hr5 (fun e => own_typed O4.out.2 X4.out (by decide) e.symm); have b06 := b05.grown hr5 sz5 (fun k hk => (by cases hk; exact (own_base O4.out g4 0 rfl).1)); have HN5' : Hid ((hd ++ recsBs (rs.take j) ++ [1] ++ (spellN rk.size 2 ++ sbytes rk) ++ (spellN rv.size 2 ++ sbytes rv)).length = n5) := (by show _ = _; rw [List.length_append, HN4'.out]; have := Q4.out.1; simp only at this; rw [this]; exact HN5.out); clear hg5 hr5 Q4 X4 O4 b05 sz5))
            have HE5 : Hid (hd ++ recsBs (rs.take j) ++ [1] ++ (spellN rk.size 2 ++ sbytes rk) ++ (spellN rv.size 2 ++ sbytes rv) = hd ++ recsBs (rs.take (j + 1))) := by
              show _ = _
              rw [← HS.out, recBs]
              simp [List.append_assoc]
            rw [HE5.out] at O5 HN5'
            go_roundw
            case rel => exact ⟨j + 1, g5, n5, c6, by omega, by go_num, rfl, HN5', O5, b06, X5⟩
            case measure => simp [intOf]; omega
        · obtain rfl : j = len := by omega
          have HV : Hid (rs.take j = rs) := List.take_of_length_le (by rw [HL.out]; omega)
          rw [HV.out, HW.out] at HO
          go_wp2
          go_ret
          exact ⟨_, rfl, HO.out, hb⟩
  · have hp3 : (p != -1) = true := by simpa using hp1
    obtain ⟨q, rfl⟩ := Int.eq_ofNat_of_zero_le (show 0 ≤ p by omega)
    have hp4 : ((q : Int) == -1) = false := by simp
    have hq : q < 281474976710656 := by omega
    cases t
    · have HF : flagsN ⟨kn, q, en, sn, false, rs⟩ = 1 := by unfold flagsN; simp only [hp4]; rfl
      have HQ : prodN ⟨kn, q, en, sn, false, rs⟩ = q := by unfold prodN; simp only [hp4]; rfl
      have HE : Hid ([kn, 1] ++ spellN q 6 ++ spellN en 4 ++ spellN sn 4 ++ spellN len 2 = headBs ⟨kn, q, en, sn, false, rs⟩) := by
        show _ = _
        rw [headBs, HF, HQ]
        simp only [Int.toNat_natCast, HL.out, List.append_assoc]
      have O0 : Hid (Own ((w.alloc (.cells #[.int .i64 kn, .int .i64 q, .int .i64 en, .int .i64 sn, .bool false, .slice ad len cap] 25)).alloc (.cells #[.int .u8 (kn : Int), .int .u8 ((1 : Nat) : Int)] 5)) w.heap.size (.slice (some ⟨w.heap.size + 1, 0, none⟩) 2 2) [kn, 1]) := two_own w kn q en sn false _ kn 1 (by omega) (by omega)
      have X0 : Hid (BBox ((w.alloc (.cells #[.int .i64 kn, .int .i64 q, .int .i64 en, .int .i64 sn, .bool false, .slice ad len cap] 25)).alloc (.cells #[.int .u8 (kn : Int), .int .u8 ((1 : Nat) : Int)] 5)) w.heap.size kn q en sn false (.slice ad len cap)) := (BBox.new w _ _ _ _ _ _).later ((Below.refl _ _).alloc (Nat.le_refl _) _)
      have b0 : Below w.heap.size w ((w.alloc (.cells #[.int .i64 kn, .int .i64 q, .int .i64 en, .int .i64 sn, .bool false, .slice ad len cap] 25)).alloc (.cells #[.int .u8 (kn : Int), .int .u8 ((1 : Nat) : Int)] 5)) := ((Below.refl _ _).alloc (Nat.le_refl _) _).alloc (by simp) _
      clear HF HQ
      go_enter Tryz.func43, Tryz.ntmps43
      go_wp2_with fail
      refine (bytes_any q 6 _ (by omega)).mono ?_
      rintro x w01 ⟨v01, rfl, own0, b01⟩
      obtain ⟨a01, c01, rfl, ok0, -⟩ := own0.slice 6 (spellN_length _ _)
      have S0 : Hid (Part.ok w01 ⟨a01, 6, c01, spellN q 6⟩) := ok0
      have O01 : Hid (Own w01 w.heap.size (.slice (some ⟨w.heap.size + 1, 0, none⟩) 2 2) ([kn, 1])) := O0.out.later b01
      have X01 : Hid (BBox w01 w.heap.size kn q en sn false (.slice ad len cap)) := X0.out.later b01
      have b001 : Below w.heap.size w w01 := b0.trans (b01.mono b0.size)
      have s0 := b001.size
      clear own0 ok0 b01 O0 X0 b0
      go_wp2_with (at_builtin; refine app_any rfl _ _ rfl w.heap.size (.slice (some ⟨w.heap.size + 1, 0, none⟩) 2 2) 2 ([kn, 1]) rfl (own_n O01.out (by simp)) a01 6 c01 (spellN q 6) rfl (spellN_length _ _) S0.out.2.1 S0.out.2.2 (by omega) s0 ?_; intro v02 w1 hown0 hg0; obtain ⟨a1, c1, rfl, O1, X1, b01⟩ := app_step O01.out s0 X01.out b001 (spellN_lt _ _) (by simp) (spellN_length _ _) hown0 hg0; have e20 := X1.out.c2; have e30 := X1.out.c3; have e50 := X1.out.c5; clear hown0 hg0 O01 X01 b001 S0 s0)
      go_wp2_with fail
      refine (bytes_any en 4 _ (by omega)).mono ?_
      rintro x w11 ⟨v11, rfl, own1, b11⟩
      obtain ⟨a11, c11, rfl, ok1, -⟩ := own1.slice 4 (spellN_length _ _)
      have S1 : Hid (Part.ok w11 ⟨a11, 4, c11, spellN en 4⟩) := ok1
      have O11 : Hid (Own w11 w.heap.size (.slice a1 8 c1) ([kn, 1] ++ spellN q 6)) := O1.out.later b11
      have X11 : Hid (BBox w11 w.heap.size kn q en sn false (.slice ad len cap)) := X1.out.later b11
      have b011 : Below w.heap.size w w11 := b01.trans (b11.mono b01.size)
      have s1 := b011.size
      clear own1 ok1 b11 O1 X1 b01
      go_wp2_with (at_builtin; refine app_any rfl _ _ rfl w.heap.size (.slice a1 8 c1) 8 ([kn, 1] ++ spellN q 6) rfl (own_n O11.out (by simp [spellN_length])) a11 4 c11 (spellN en 4) rfl (spellN_length _ _) S1.out.2.1 S1.out.2.2 (by omega) s1 ?_; intro v12 w2 hown1 hg1; obtain ⟨a2, c2, rfl, O2, X2, b02⟩ := app_step O11.out s1 X11.out b011 (spellN_lt _ _) (by simp [spellN_length]) (spellN_length _ _) hown1 hg1; have e21 := X2.out.c2; have e31 := X2.out.c3; have e51 := X2.out.c5; clear hown1 hg1 O11 X11 b011 S1 s1)
      go_wp2_with fail
      refine (bytes_any sn 4 _ (by omega)).mono ?_
      rintro x w21 ⟨v21, rfl, own2, b21⟩
      obtain ⟨a21, c21, rfl, ok2, -⟩ := own2.slice 4 (spellN_length _ _)
      have S2 : Hid (Part.ok w21 ⟨a21, 4, c21, spellN sn 4⟩) := ok2
      have O21 : Hid (Own w21 w.heap.size (.slice a2 12 c2) ([kn, 1] ++ spellN q 6 ++ spellN en 4)) := O2.out.later b21
      have X21 : Hid (BBox w21 w.heap.size kn q en sn false (.slice ad len cap)) := X2.out.later b21
      have b021 : Below w.heap.size w w21 := b02.trans (b21.mono b02.size)
      have s2 := b021.size
      clear own2 ok2 b21 O2 X2 b02
      go_wp2_with (at_builtin; refine app_any rfl _ _ rfl w.heap.size (.slice a2 12 c2) 12 ([kn, 1] ++ spellN q 6 ++ spellN en 4) rfl (own_n O21.out (by simp [spellN_length])) a21 4 c21 (spellN sn 4) rfl (spellN_length _ _) S2.out.2.1 S2.out.2.2 (by omega) s2 ?_; intro v22 w3 hown2 hg2; obtain ⟨a3, c3, rfl, O3, X3, b03⟩ := app_step O21.out s2 X21.out b021 (spellN_lt _ _) (by simp [spellN_length]) (spellN_length _ _) hown2 hg2; have e22 := X3.out.c2; have e32 := X3.out.c3; have e52 := X3.out.c5; clear hown2 hg2 O21 X21 b021 S2 s2)
      go_wp2_with fail
      refine (bytes_any len 2 _ (by omega)).mono ?_
      rintro x w31 ⟨v31, rfl, own3, b31⟩
      obtain ⟨a31, c31, rfl, ok3, -⟩ := own3.slice 2 (spellN_length _ _)
      have S3 : Hid (Part.ok w31 ⟨a31, 2, c31, spellN len 2⟩) := ok3
      have O31 : Hid (Own w31 w.heap.size (.slice a3 16 c3) ([kn, 1] ++ spellN q 6 ++ spellN en 4 ++ spellN sn 4)) := O3.out.later b31
      have X31 : Hid (BBox w31 w.heap.size kn q en sn false (.slice ad len cap)) := X3.out.later b31
      have b031 : Below w.heap.size w w31 := b03.trans (b31.mono b03.size)
      have s3 := b031.size
      clear own3 ok3 b31 O3 X3 b03
      go_wp2_with (at_builtin; refine app_any rfl _ _ rfl w.heap.size (.slice a3 16 c3) 16 ([kn, 1] ++ spellN q 6 ++ spellN en 4 ++ spellN sn 4) rfl (own_n O31.out (by simp [spellN_length])) a31 2 c31 (spellN len 2) rfl (spellN_length _ _) S3.out.2.1 S3.out.2.2 (by omega) s3 ?_; intro v32 w4 hown3 hg3; obtain ⟨a4, c4, rfl, O4, X4, b04⟩ := app_step O31.out s3 X31.out b031 (spellN_lt _ _) (by simp [spellN_length]) (spellN_length _ _) hown3 hg3; have e23 := X4.out.c2; have e33 := X4.out.c3; have e53 := X4.out.c5; clear hown3 hg3 O31 X31 b031 S3 s3)
      rw [HE.out] at O4
      have HH : Hid ((headBs ⟨kn, q, en, sn, false, rs⟩).length = 18) := headBs_length _
      have HW : Hid (headBs ⟨kn, q, en, sn, false, rs⟩ ++ recsBs rs = writeN ⟨kn, q, en, sn, false, rs⟩) := rfl
      have O4' : Hid (Own w4 w.heap.size (.slice a4 18 c4) (headBs ⟨kn, q, en, sn, false, rs⟩ ++ recsBs (rs.take 0))) := by
        show Own _ _ _ _
        rw [List.take_zero, recsBs, List.append_nil]; exact O4.out
      clear O4 HE
      generalize headBs ⟨kn, q, en, sn, false, rs⟩ = hd at *
      have HN4 : Hid ((hd ++ recsBs (rs.take 0)).length = 18) := by
        show _ = _
        rw [List.take_zero, recsBs, List.append_nil]; exact HH.out
      obtain ⟨g4, d4, e4, -, -⟩ := World.ownsRow.form (own_n O4'.out HN4.out) (by omega)
      cases e4
      go_loopw [5, 6] (fun o i wr => ∃ (j g n c : Nat), j ≤ len ∧ i = .int .i64 j ∧ o = .slice (some ⟨g, 0, none⟩) n c ∧ Hid ((hd ++ recsBs (rs.take j)).length = n) ∧ Hid (Own wr w.heap.size (.slice (some ⟨g, 0, none⟩) n c) (hd ++ recsBs (rs.take j))) ∧ Below w.heap.size w wr ∧ Hid (BBox wr w.heap.size kn q en sn false (.slice ad len cap))) (fun _ i _ => len - (intOf i).toNat)
      case atStart => exact ⟨0, g4, 18, _, Nat.zero_le _, rfl, rfl, HN4, O4', b04, X4⟩
      case round =>
        clear O4' b04 X4 HN4
        obtain ⟨j, g, n, c, hj, rfl, rfl, HN, HO, hb, hx⟩ := hrel
        have c5 := hx.out.c5
        by_cases hlt : j < len
        · obtain ⟨bg, off, rfl, hg, hc⟩ := HA.out.cells (by omega)
          obtain ⟨q0, q1, q2⟩ := hc j hlt
          have r0 : wr.cell? ⟨bg, off + j * 3, none⟩ = _ := (hb.cell (p := ⟨bg, off + j * 3, none⟩) hg).trans q0
          have r1 : wr.cell? ⟨bg, off + j * 3 + 1, none⟩ = _ := (hb.cell (p := ⟨bg, off + j * 3 + 1, none⟩) hg).trans q1
          have r2 : wr.cell? ⟨bg, off + j * 3 + 2, none⟩ = _ := (hb.cell (p := ⟨bg, off + j * 3 + 2, none⟩) hg).trans q2
          clear hc q0 q1 q2
          simp only at r0 r1 r2
          have hz := recsSize_take_le rs HOK.out j
          rw [HL.out] at hz
          have hn : n ≤ 400000 := by rw [← HN.out, List.length_append, HH.out, recsBs_length]; omega
          have HS : Hid (hd ++ recsBs (rs.take j) ++ recBs (rs.getD j rec0) = hd ++ recsBs (rs.take (j + 1))) := by
            show _ = _
            rw [take_snocR rs j (by rw [HL.out]; exact hlt), recsBs_append, recsBs_one, List.append_assoc]
          have HO2 : Hid ((rs.getD j rec0).key.size ≤ 1000 ∧ (rs.getD j rec0).val.size ≤ 4000) := recOk_parts (HOK.out _ (getD_mem rs j (by rw [HL.out]; exact hlt)))
          clear hz
          generalize rs.getD j rec0 = r at *
          obtain ⟨rk, rv, rd⟩ := r
          simp only at r0 r1 r2 HO2
          have GA : Hid (g < wr.heap.size) := (own_base HO.out g 0 rfl).2
          cases rd
          · have ba : Below wr.heap.size wr (wr.alloc (.cells #[.string rk, .string rv, .bool false] 88)) := (Below.refl _ _).alloc (Nat.le_refl _) _
            have XA : Hid (BBox (wr.alloc (.cells #[.string rk, .string rv, .bool false] 88)) w.heap.size kn q en sn false (.slice (some ⟨bg, off, none⟩) len cap)) := hx.out.later ba
            have OA : Hid (Own (wr.alloc (.cells #[.string rk, .string rv, .bool false] 88)) w.heap.size (.slice (some ⟨g, 0, none⟩) n c) (hd ++ recsBs (rs.take j))) := HO.out.later ba
            have RA : Hid (RBox (wr.alloc (.cells #[.string rk, .string rv, .bool false] 88)) wr.heap.size ⟨rk, rv, false⟩) := heap_alloc_new wr _
            have bA : Below w.heap.size w (wr.alloc (.cells #[.string rk, .string rv, .bool false] 88)) := hb.trans (ba.mono hb.size)
            have HZ : Hid ((wr.alloc (.cells #[.string rk, .string rv, .bool false] 88)).heap.size = wr.heap.size + 1) := by
              show _ = _
              simp
            clear ba hx HO hb
            have hk1 : rk.size ≤ 1000 := HO2.out.1
            have hv1 : rv.size ≤ 4000 := HO2.out.2
            go_wp2_with fail
            refine (refText_any rk _ (by unfold maxLen; omega)).mono ?_
            rintro x w1 ⟨v1, rfl, own1, b1⟩
            rw [textN_ok rk (by omega)] at own1 ⊢
            simp only at own1
            obtain ⟨m1, hm1⟩ : ∃ m, (spellN rk.size 2 ++ sbytes rk).length = m := ⟨_, rfl⟩
            have hm1' : m1 ≤ 1002 := by rw [← hm1, List.length_append, spellN_length, sbytes_length]; omega
            obtain ⟨k1, d1, rfl, ok1, -⟩ := own1.slice m1 hm1
            have P1 : Hid (Part.ok w1 ⟨k1, m1, d1, spellN rk.size 2 ++ sbytes rk⟩) := ok1
            have Z1 : Hid (∀ b off, k1 = some ⟨b, off, none⟩ → wr.heap.size + 1 ≤ b ∧ b < w1.heap.size) := fun b off e => (by have := own_base own1 b off e; rw [HZ.out] at this; exact this)
            have X1 : Hid (BBox w1 w.heap.size kn q en sn false (.slice (some ⟨bg, off, none⟩) len cap)) := XA.out.later b1
            have O1 : Hid (Own w1 w.heap.size (.slice (some ⟨g, 0, none⟩) n c) (hd ++ recsBs (rs.take j))) := OA.out.later b1
            have R1 : Hid (RBox w1 wr.heap.size ⟨rk, rv, false⟩) := RBox.later RA.out b1
            have b01 : Below w.heap.size w w1 := bA.trans (b1.mono bA.size)
            have u1 := R1.out.c1
            have y1 : Hid (wr.heap.size + 1 ≤ w1.heap.size) := by
              have := b1.size
              rw [HZ.out] at this
              exact this
            clear own1 ok1 b1 XA OA RA bA hm1
            go_wp2_with fail
            refine (refText_any rv _ (by unfold maxLen; omega)).mono ?_
            rintro x w2 ⟨v2, rfl, own2, b2⟩
            rw [textN_ok rv (by omega)] at own2 ⊢
            simp only at own2
            obtain ⟨m2, hm2⟩ : ∃ m, (spellN rv.size 2 ++ sbytes rv).length = m := ⟨_, rfl⟩
            have hm2' : m2 ≤ 4002 := by rw [← hm2, List.length_append, spellN_length, sbytes_length]; omega
            obtain ⟨k2, d2, rfl, ok2, -⟩ := own2.slice m2 hm2
            have ba2 : Below w2.heap.size w2 (w2.alloc (.cells #[.int .u8 0] 5)) := (Below.refl _ _).alloc (Nat.le_refl _) _
            have Z2 : Hid (∀ b off, k2 = some ⟨b, off, none⟩ → w1.heap.size ≤ b ∧ b < w2.heap.size) := own_base own2
            have P2 : Hid (Part.ok (w2.alloc (.cells #[.int .u8 0] 5)) ⟨k1, m1, d1, spellN rk.size 2 ++ sbytes rk⟩) := (P1.out.later b2).later ba2
            have Q2 : Hid (Part.ok (w2.alloc (.cells #[.int .u8 0] 5)) ⟨k2, m2, d2, spellN rv.size 2 ++ sbytes rv⟩) := ok2.later ba2
            have X2 : Hid (BBox (w2.alloc (.cells #[.int .u8 0] 5)) w.heap.size kn q en sn false (.slice (some ⟨bg, off, none⟩) len cap)) := (X1.out.later b2).later ba2
            have O2 : Hid (Own (w2.alloc (.cells #[.int .u8 0] 5)) w.heap.size (.slice (some ⟨g, 0, none⟩) n c) (hd ++ recsBs (rs.take j))) := (O1.out.later b2).later ba2
            have D2 : Hid (Part.ok (w2.alloc (.cells #[.int .u8 0] 5)) ⟨some ⟨w2.heap.size, 0, none⟩, 1, 1, [0]⟩) := ⟨rfl, fun e => (by cases e), one_row w2 0 (by omega)⟩
            have b02 : Below w.heap.size w w2 := b01.trans (b2.mono b01.size)
            have b03 : Below w.heap.size w (w2.alloc (.cells #[.int .u8 0] 5)) := b02.trans (ba2.mono b02.size)
            have sz3 := b03.size
            have HZ3 : Hid ((w2.alloc (.cells #[.int .u8 0] 5)).heap.size = w2.heap.size + 1) := by
              show _ = _
              simp
            obtain ⟨n3, hn3⟩ : ∃ m, n + 1 = m := ⟨_, rfl⟩
            obtain ⟨n4, hn4⟩ : ∃ m, n3 + m1 = m := ⟨_, rfl⟩
            obtain ⟨n5, hn5⟩ : ∃ m, n4 + m2 = m := ⟨_, rfl⟩
            have HN3 : Hid (n + 1 = n3) := hn3
            have HN4 : Hid (n3 + m1 = n4) := hn4
            have HN5 : Hid (n4 + m2 = n5) := hn5
            have l3 : n3 ≤ 400001 := by omega
            have l4 : n4 ≤ 401003 := by omega
            clear own2 ok2 b2 ba2 P1 X1 O1 R1 b01 b02 u1 hm2 hn3 hn4 hn5
            go_wp2_with (first
              | (at_builtin; refine app_at' rfl (.tmp 74) (.tmp 77) rfl w.heap.size g n c _ rfl O2.out HN.out (some ⟨w2.heap.size, 0, none⟩) 1 1 [0] rfl D2.out n3 HN3.out (by omega) sz3 ?_; intro g3 c3 w3 hg3 O3 hr3; have O3 : Hid (Own w3 w.heap.size (.slice (some ⟨g3, 0, none⟩) n3 c3) (hd ++ recsBs (rs.take j) ++ [0])) := O3; have HG3 : Hid (g3 = g ∨ g3 = w2.heap.size + 1) := (by rw [HZ3.out] at hg3; exact hg3); have P3 : Hid (Part.ok w3 ⟨k1, m1, d1, spellN rk.size 2 ++ sbytes rk⟩) := P2.out.grown hr3 (fun b off e => (by have h1 := (Z1.out b off e).1; have h2 := GA.out; omega)); have Q3 : Hid (Part.ok w3 ⟨k2, m2, d2, spellN rv.size 2 ++ sbytes rv⟩) := Q2.out.grown hr3 (fun b off e => (by have h1 := (Z2.out b off e).1; have h2 := GA.out; have h3 := y1.out; omega)); have X3 : Hid (BBox w3 w.heap.size kn q en sn false (.slice (some ⟨bg, off, none⟩) len cap)) := X2.out.grown hr3 (fun e => own_typed O2.out.2 X2.out (by decide) e.symm); have b04 := b03.grown hr3 sz3 (fun k hk => (by cases hk; exact (own_base O2.out g 0 rfl).1)); have sz4 := b04.size; have HN3' : Hid ((hd ++ recsBs (rs.take j) ++ [0]).length = n3) := (by show _ = _; rw [List.length_append, HN.out]; exact HN3.out); clear hg3 hr3 P2 Q2 X2 O2 D2 b03 sz3)
              | (at_builtin; refine app_at' rfl (.tmp 78) (.tmp 79) rfl w.heap.size g3 n3 c3 _ rfl O3.out HN3'.out k1 m1 d1 _ rfl P3.out n4 HN4.out (by omega) sz4 ?_; intro g4 c4 w4 hg4 O4 hr4; have O4 : Hid (Own w4 w.heap.size (.slice (some ⟨g4, 0, none⟩) n4 c4) (hd ++ recsBs (rs.take j) ++ [0] ++ (spellN rk.size 2 ++ sbytes rk))) := O4; have Q4 : Hid (Part.ok w4 ⟨k2, m2, d2, spellN rv.size 2 ++ sbytes rv⟩) := Q3.out.grown hr4 (fun b off e => (by have h1 := Z2.out b off e; have h2 := GA.out; have h3 := y1.out; have h4 := HG3.out; omega)); have X4 : Hid (BBox w4 w.heap.size kn q en sn false (.slice (some ⟨bg, off, none⟩) len cap)) := X3.out.grown hr4 (fun e => own_typed O3.out.2 X3.out (by decide) e.symm); have b05 := b04.grown hr4 sz4 (fun k hk => (by cases hk; exact (own_base O3.out g3 0 rfl).1)); have sz5 := b05.size; have HN4' : Hid ((hd ++ recsBs (rs.take j) ++ [0] ++ (spellN rk.size 2 ++ sbytes rk)).length = n4) := (by show _ = _; rw [List.length_append, HN3'.out]; have := P3.out.1; simp only at this; rw [this]; exact HN4.out); clear hg4 hr4 P3 Q3 X3 O3 b04 sz4)
              | (at_builtin; refine app_at' rfl (.tmp 80) (.tmp 81) rfl w.heap.size g4 n4 c4 _ rfl O4.out HN4'.out k2 m2 d2 _ rfl Q4.out n5 HN5.out (by omega) sz5 ?_; intro g5 c6 w5 hg5 O5 hr5; have O5 : Hid (Own w5 w.heap.size (.slice (some ⟨g5, 0, none⟩) n5 c6) (hd ++ recsBs (rs.take j) ++ [0] ++ (spellN rk.size 2 ++ sbytes rk) ++ (spellN rv.size 2 ++ sbytes rv))) := O5; have X5 : Hid (BBox w5 w.heap.size kn q en sn false (.slice (some ⟨bg, off, none⟩) len cap)) := X4.out.grown hr5 (fun e => own_typed O4.out.2 X4.out (by decide) e.symm); have b06 := b05.grown hr5 sz5 (fun k hk => (by cases hk; exact (own_base O4.out g4 0 rfl).1)); have HN5' : Hid ((hd ++ recsBs (rs.take j) ++ [0] ++ (spellN rk.size 2 ++ sbytes rk) ++ (spellN rv.size 2 ++ sbytes rv)).length = n5) := (by show _ = _; rw [List.length_append, HN4'.out]; have := Q4.out.1; simp only at this; rw [this]; exact HN5.out); clear hg5 hr5 Q4 X4 O4 b05 sz5))
            have HE5 : Hid (hd ++ recsBs (rs.take j) ++ [0] ++ (spellN rk.size 2 ++ sbytes rk) ++ (spellN rv.size 2 ++ sbytes rv) = hd ++ recsBs (rs.take (j + 1))) := by
              show _ = _
              rw [← HS.out, recBs]
              simp [List.append_assoc]
            rw [HE5.out] at O5 HN5'
            go_roundw
            case rel => exact ⟨j + 1, g5, n5, c6, by omega, by go_num, rfl, HN5', O5, b06, X5⟩
            case measure => simp [intOf]; omega
          · have ba : Below wr.heap.size wr (wr.alloc (.cells #[.string rk, .string rv, .bool true] 88)) := (Below.refl _ _).alloc (Nat.le_refl _) _
            have XA : Hid (BBox (wr.alloc (.cells #[.string rk, .string rv, .bool true] 88)) w.heap.size kn q en sn false (.slice (some ⟨bg, off, none⟩) len cap)) := hx.out.later ba
            have OA : Hid (Own (wr.alloc (.cells #[.string rk, .string rv, .bool true] 88)) w.heap.size (.slice (some ⟨g, 0, none⟩) n c) (hd ++ recsBs (rs.take j))) := HO.out.later ba
            have RA : Hid (RBox (wr.alloc (.cells #[.string rk, .string rv, .bool true] 88)) wr.heap.size ⟨rk, rv, true⟩) := heap_alloc_new wr _
            have bA : Below w.heap.size w (wr.alloc (.cells #[.string rk, .string rv, .bool true] 88)) := hb.trans (ba.mono hb.size)
            have HZ : Hid ((wr.alloc (.cells #[.string rk, .string rv, .bool true] 88)).heap.size = wr.heap.size + 1) := by
              show _ = _
              simp
            clear ba hx HO hb
            have hk1 : rk.size ≤ 1000 := HO2.out.1
            have hv1 : rv.size ≤ 4000 := HO2.out.2
            go_wp2_with fail
            refine (refText_any rk _ (by unfold maxLen; omega)).mono ?_
            rintro x w1 ⟨v1, rfl, own1, b1⟩
            rw [textN_ok rk (by omega)] at own1 ⊢
            simp only at own1
            obtain ⟨m1, hm1⟩ : ∃ m, (spellN rk.size 2 ++ sbytes rk).length = m := ⟨_, rfl⟩
            have hm1' : m1 ≤ 1002 := by rw [← hm1, List.length_append, spellN_length, sbytes_length]; omega
            obtain ⟨k1, d1, rfl, ok1, -⟩ := own1.slice m1 hm1
            have P1 : Hid (Part.ok w1 ⟨k1, m1, d1, spellN rk.size 2 ++ sbytes rk⟩) := ok1
            have Z1 : Hid (∀ b off, k1 = some ⟨b, off, none⟩ → wr.heap.size + 1 ≤ b ∧ b < w1.heap.size) := fun b off e => (by have := own_base own1 b off e; rw [HZ.out] at this; exact this)
            have X1 : Hid (BBox w1 w.heap.size kn q en sn false (.slice (some ⟨bg, off, none⟩) len cap)) := XA.out.later b1
            have O1 : Hid (Own w1 w.heap.size (.slice (some ⟨g, 0, none⟩) n c) (hd ++ recsBs (rs.take j))) := OA.out.later b1
            have R1 : Hid (RBox w1 wr.heap.size ⟨rk, rv, true⟩) := RBox.later RA.out b1
            have b01 : Below w.heap.size w w1 := bA.trans (b1.mono bA.size)
            have u1 := R1.out.c1
            have y1 : Hid (wr.heap.size + 1 ≤ w1.heap.size) := by
              have := b1.size
              rw [HZ.out] at this
              exact this
            clear own1 ok1 b1 XA OA RA bA hm1
            go_wp2_with fail
            refine (refText_any rv _ (by unfold maxLen; omega)).mono ?_
            rintro x w2 ⟨v2, rfl, own2, b2⟩
            rw [textN_ok rv (by omega)] at own2 ⊢
            simp only at own2
            obtain ⟨m2, hm2⟩ : ∃ m, (spellN rv.size 2 ++ sbytes rv).length = m := ⟨_, rfl⟩
            have hm2' : m2 ≤ 4002 := by rw [← hm2, List.length_append, spellN_length, sbytes_length]; omega
            obtain ⟨k2, d2, rfl, ok2, -⟩ := own2.slice m2 hm2
            have ba2 : Below w2.heap.size w2 (w2.alloc (.cells #[.int .u8 1] 5)) := (Below.refl _ _).alloc (Nat.le_refl _) _
            have Z2 : Hid (∀ b off, k2 = some ⟨b, off, none⟩ → w1.heap.size ≤ b ∧ b < w2.heap.size) := own_base own2
            have P2 : Hid (Part.ok (w2.alloc (.cells #[.int .u8 1] 5)) ⟨k1, m1, d1, spellN rk.size 2 ++ sbytes rk⟩) := (P1.out.later b2).later ba2
            have Q2 : Hid (Part.ok (w2.alloc (.cells #[.int .u8 1] 5)) ⟨k2, m2, d2, spellN rv.size 2 ++ sbytes rv⟩) := ok2.later ba2
            have X2 : Hid (BBox (w2.alloc (.cells #[.int .u8 1] 5)) w.heap.size kn q en sn false (.slice (some ⟨bg, off, none⟩) len cap)) := (X1.out.later b2).later ba2
            have O2 : Hid (Own (w2.alloc (.cells #[.int .u8 1] 5)) w.heap.size (.slice (some ⟨g, 0, none⟩) n c) (hd ++ recsBs (rs.take j))) := (O1.out.later b2).later ba2
            have D2 : Hid (Part.ok (w2.alloc (.cells #[.int .u8 1] 5)) ⟨some ⟨w2.heap.size, 0, none⟩, 1, 1, [1]⟩) := ⟨rfl, fun e => (by cases e), one_row w2 1 (by omega)⟩
            have b02 : Below w.heap.size w w2 := b01.trans (b2.mono b01.size)
            have b03 : Below w.heap.size w (w2.alloc (.cells #[.int .u8 1] 5)) := b02.trans (ba2.mono b02.size)
            have sz3 := b03.size
            have HZ3 : Hid ((w2.alloc (.cells #[.int .u8 1] 5)).heap.size = w2.heap.size + 1) := by
              show _ = _
              simp
            obtain ⟨n3, hn3⟩ : ∃ m, n + 1 = m := ⟨_, rfl⟩
            obtain ⟨n4, hn4⟩ : ∃ m, n3 + m1 = m := ⟨_, rfl⟩
            obtain ⟨n5, hn5⟩ : ∃ m, n4 + m2 = m := ⟨_, rfl⟩
            have HN3 : Hid (n + 1 = n3) := hn3
            have HN4 : Hid (n3 + m1 = n4) := hn4
            have HN5 : Hid (n4 + m2 = n5) := hn5
            have l3 : n3 ≤ 400001 := by omega
            have l4 : n4 ≤ 401003 := by omega
            clear own2 ok2 b2 ba2 P1 X1 O1 R1 b01 b02 u1 hm2 hn3 hn4 hn5
            go_wp2_with (first
              | (at_builtin; refine app_at' rfl (.tmp 74) (.tmp 77) rfl w.heap.size g n c _ rfl O2.out HN.out (some ⟨w2.heap.size, 0, none⟩) 1 1 [1] rfl D2.out n3 HN3.out (by omega) sz3 ?_; intro g3 c3 w3 hg3 O3 hr3; have O3 : Hid (Own w3 w.heap.size (.slice (some ⟨g3, 0, none⟩) n3 c3) (hd ++ recsBs (rs.take j) ++ [1])) := O3; have HG3 : Hid (g3 = g ∨ g3 = w2.heap.size + 1) := (by rw [HZ3.out] at hg3; exact hg3); have P3 : Hid (Part.ok w3 ⟨k1, m1, d1, spellN rk.size 2 ++ sbytes rk⟩) := P2.out.grown hr3 (fun b off e => (by have h1 := (Z1.out b off e).1; have h2 := GA.out; omega)); have Q3 : Hid (Part.ok w3 ⟨k2, m2, d2, spellN rv.size 2 ++ sbytes rv⟩) := Q2.out.grown hr3 (fun b off e => (by have h1 := (Z2.out b off e).1; have h2 := GA.out; have h3 := y1.out; omega)); have X3 : Hid (BBox w3 w.heap.size kn q en sn false (.slice (some ⟨bg, off, none⟩) len cap)) := X2.out.grown hr3 (fun e => own_typed O2.out.2 X2.out (by decide) e.symm); have b04 := b03.grown hr3 sz3 (fun k hk => (by cases hk; exact (own_base O2.out g 0 rfl).1)); have sz4 := b04.size; have HN3' : Hid ((hd ++ recsBs (rs.take j) ++ [1]).length = n3) := (by show _ = _; rw [List.length_append, HN.out]; exact HN3.out); clear hg3 hr3 P2 Q2 X2 O2 D2 b03 sz3)
              | (at_builtin; refine app_at' rfl (.tmp 78) (.tmp 79) rfl w.heap.size g3 n3 c3 _ rfl O3.out HN3'.out k1 m1 d1 _ rfl P3.out n4 HN4.out (by omega) sz4 ?_; intro g4 c4 w4 hg4 O4 hr4; have O4 : Hid (Own w4 w.heap.size (.slice (some ⟨g4, 0, none⟩) n4 c4) (hd ++ recsBs (rs.take j) ++ [1] ++ (spellN rk.size 2 ++ sbytes rk))) := O4; have Q4 : Hid (Part.ok w4 ⟨k2, m2, d2, spellN rv.size 2 ++ sbytes rv⟩) := Q3.out.grown hr4 (fun b off e => (by have h1 := Z2.out b off e; have h2 := GA.out; have h3 := y1.out; have h4 := HG3.out; omega)); have X4 : Hid (BBox w4 w.heap.size kn q en sn false (.slice (some ⟨bg, off, none⟩) len cap)) := X3.out.grown hr4 (fun e => own_typed O3.out.2 X3.out (by decide) e.symm); have b05 := b04.grown hr4 sz4 (fun k hk => (by cases hk; exact (own_base O3.out g3 0 rfl).1)); have sz5 := b05.size; have HN4' : Hid ((hd ++ recsBs (rs.take j) ++ [1] ++ (spellN rk.size 2 ++ sbytes rk)).length = n4) := (by show _ = _; rw [List.length_append, HN3'.out]; have := P3.out.1; simp only at this; rw [this]; exact HN4.out); clear hg4 hr4 P3 Q3 X3 O3 b04 sz4)
              | (at_builtin; refine app_at' rfl (.tmp 80) (.tmp 81) rfl w.heap.size g4 n4 c4 _ rfl O4.out HN4'.out k2 m2 d2 _ rfl Q4.out n5 HN5.out (by omega) sz5 ?_; intro g5 c6 w5 hg5 O5 hr5; have O5 : Hid (Own w5 w.heap.size (.slice (some ⟨g5, 0, none⟩) n5 c6) (hd ++ recsBs (rs.take j) ++ [1] ++ (spellN rk.size 2 ++ sbytes rk) ++ (spellN rv.size 2 ++ sbytes rv))) := O5; have X5 : Hid (BBox w5 w.heap.size kn q en sn false (.slice (some ⟨bg, off, none⟩) len cap)) := X4.out.grown hr5 (fun e => own_typed O4.out.2 X4.out (by decide) e.symm); have b06 := b05.grown hr5 sz5 (fun k hk => (by cases hk; exact (own_base O4.out g4 0 rfl).1)); have HN5' : Hid ((hd ++ recsBs (rs.take j) ++ [1] ++ (spellN rk.size 2 ++ sbytes rk) ++ (spellN rv.size 2 ++ sbytes rv)).length = n5) := (by show _ = _; rw [List.length_append, HN4'.out]; have := Q4.out.1; simp only at this; rw [this]; exact HN5.out); clear hg5 hr5 Q4 X4 O4 b05 sz5))
            have HE5 : Hid (hd ++ recsBs (rs.take j) ++ [1] ++ (spellN rk.size 2 ++ sbytes rk) ++ (spellN rv.size 2 ++ sbytes rv) = hd ++ recsBs (rs.take (j + 1))) := by
              show _ = _
              rw [← HS.out, recBs]
              simp [List.append_assoc]
            rw [HE5.out] at O5 HN5'
            go_roundw
            case rel => exact ⟨j + 1, g5, n5, c6, by omega, by go_num, rfl, HN5', O5, b06, X5⟩
            case measure => simp [intOf]; omega
        · obtain rfl : j = len := by omega
          have HV : Hid (rs.take j = rs) := List.take_of_length_le (by rw [HL.out]; omega)
          rw [HV.out, HW.out] at HO
          go_wp2
          go_ret
          exact ⟨_, rfl, HO.out, hb⟩
    · have HF : flagsN ⟨kn, q, en, sn, true, rs⟩ = 3 := by unfold flagsN; simp only [hp4]; rfl
      have HQ : prodN ⟨kn, q, en, sn, true, rs⟩ = q := by unfold prodN; simp only [hp4]; rfl
      have HE : Hid ([kn, 3] ++ spellN q 6 ++ spellN en 4 ++ spellN sn 4 ++ spellN len 2 = headBs ⟨kn, q, en, sn, true, rs⟩) := by
        show _ = _
        rw [headBs, HF, HQ]
        simp only [Int.toNat_natCast, HL.out, List.append_assoc]
      have O0 : Hid (Own ((w.alloc (.cells #[.int .i64 kn, .int .i64 q, .int .i64 en, .int .i64 sn, .bool true, .slice ad len cap] 25)).alloc (.cells #[.int .u8 (kn : Int), .int .u8 ((3 : Nat) : Int)] 5)) w.heap.size (.slice (some ⟨w.heap.size + 1, 0, none⟩) 2 2) [kn, 3]) := two_own w kn q en sn true _ kn 3 (by omega) (by omega)
      have X0 : Hid (BBox ((w.alloc (.cells #[.int .i64 kn, .int .i64 q, .int .i64 en, .int .i64 sn, .bool true, .slice ad len cap] 25)).alloc (.cells #[.int .u8 (kn : Int), .int .u8 ((3 : Nat) : Int)] 5)) w.heap.size kn q en sn true (.slice ad len cap)) := (BBox.new w _ _ _ _ _ _).later ((Below.refl _ _).alloc (Nat.le_refl _) _)
      have b0 : Below w.heap.size w ((w.alloc (.cells #[.int .i64 kn, .int .i64 q, .int .i64 en, .int .i64 sn, .bool true, .slice ad len cap] 25)).alloc (.cells #[.int .u8 (kn : Int), .int .u8 ((3 : Nat) : Int)] 5)) := ((Below.refl _ _).alloc (Nat.le_refl _) _).alloc (by simp) _
      clear HF HQ
      go_enter Tryz.func43, Tryz.ntmps43
      go_wp2_with fail
      refine (bytes_any q 6 _ (by omega)).mono ?_
      rintro x w01 ⟨v01, rfl, own0, b01⟩
      obtain ⟨a01, c01, rfl, ok0, -⟩ := own0.slice 6 (spellN_length _ _)
      have S0 : Hid (Part.ok w01 ⟨a01, 6, c01, spellN q 6⟩) := ok0
      have O01 : Hid (Own w01 w.heap.size (.slice (some ⟨w.heap.size + 1, 0, none⟩) 2 2) ([kn, 3])) := O0.out.later b01
      have X01 : Hid (BBox w01 w.heap.size kn q en sn true (.slice ad len cap)) := X0.out.later b01
      have b001 : Below w.heap.size w w01 := b0.trans (b01.mono b0.size)
      have s0 := b001.size
      clear own0 ok0 b01 O0 X0 b0
      go_wp2_with (at_builtin; refine app_any rfl _ _ rfl w.heap.size (.slice (some ⟨w.heap.size + 1, 0, none⟩) 2 2) 2 ([kn, 3]) rfl (own_n O01.out (by simp)) a01 6 c01 (spellN q 6) rfl (spellN_length _ _) S0.out.2.1 S0.out.2.2 (by omega) s0 ?_; intro v02 w1 hown0 hg0; obtain ⟨a1, c1, rfl, O1, X1, b01⟩ := app_step O01.out s0 X01.out b001 (spellN_lt _ _) (by simp) (spellN_length _ _) hown0 hg0; have e20 := X1.out.c2; have e30 := X1.out.c3; have e50 := X1.out.c5; clear hown0 hg0 O01 X01 b001 S0 s0)
      go_wp2_with fail
      refine (bytes_any en 4 _ (by omega)).mono ?_
      rintro x w11 ⟨v11, rfl, own1, b11⟩
      obtain ⟨a11, c11, rfl, ok1, -⟩ := own1.slice 4 (spellN_length _ _)
      have S1 : Hid (Part.ok w11 ⟨a11, 4, c11, spellN en 4⟩) := ok1
      have O11 : Hid (Own w11 w.heap.size (.slice a1 8 c1) ([kn, 3] ++ spellN q 6)) := O1.out.later b11
      have X11 : Hid (BBox w11 w.heap.size kn q en sn true (.slice ad len cap)) := X1.out.later b11
      have b011 : Below w.heap.size w w11 := b01.trans (b11.mono b01.size)
      have s1 := b011.size
      clear own1 ok1 b11 O1 X1 b01
      go_wp2_with (at_builtin; refine app_any rfl _ _ rfl w.heap.size (.slice a1 8 c1) 8 ([kn, 3] ++ spellN q 6) rfl (own_n O11.out (by simp [spellN_length])) a11 4 c11 (spellN en 4) rfl (spellN_length _ _) S1.out.2.1 S1.out.2.2 (by omega) s1 ?_; intro v12 w2 hown1 hg1; obtain ⟨a2, c2, rfl, O2, X2, b02⟩ := app_step O11.out s1 X11.out b011 (spellN_lt _ _) (by simp [spellN_length]) (spellN_length _ _) hown1 hg1; have e21 := X2.out.c2; have e31 := X2.out.c3; have e51 := X2.out.c5; clear hown1 hg1 O11 X11 b011 S1 s1)
      go_wp2_with fail
      refine (bytes_any sn 4 _ (by omega)).mono ?_
      rintro x w21 ⟨v21, rfl, own2, b21⟩
      obtain ⟨a21, c21, rfl, ok2, -⟩ := own2.slice 4 (spellN_length _ _)
      have S2 : Hid (Part.ok w21 ⟨a21, 4, c21, spellN sn 4⟩) := ok2
      have O21 : Hid (Own w21 w.heap.size (.slice a2 12 c2) ([kn, 3] ++ spellN q 6 ++ spellN en 4)) := O2.out.later b21
      have X21 : Hid (BBox w21 w.heap.size kn q en sn true (.slice ad len cap)) := X2.out.later b21
      have b021 : Below w.heap.size w w21 := b02.trans (b21.mono b02.size)
      have s2 := b021.size
      clear own2 ok2 b21 O2 X2 b02
      go_wp2_with (at_builtin; refine app_any rfl _ _ rfl w.heap.size (.slice a2 12 c2) 12 ([kn, 3] ++ spellN q 6 ++ spellN en 4) rfl (own_n O21.out (by simp [spellN_length])) a21 4 c21 (spellN sn 4) rfl (spellN_length _ _) S2.out.2.1 S2.out.2.2 (by omega) s2 ?_; intro v22 w3 hown2 hg2; obtain ⟨a3, c3, rfl, O3, X3, b03⟩ := app_step O21.out s2 X21.out b021 (spellN_lt _ _) (by simp [spellN_length]) (spellN_length _ _) hown2 hg2; have e22 := X3.out.c2; have e32 := X3.out.c3; have e52 := X3.out.c5; clear hown2 hg2 O21 X21 b021 S2 s2)
      go_wp2_with fail
      refine (bytes_any len 2 _ (by omega)).mono ?_
      rintro x w31 ⟨v31, rfl, own3, b31⟩
      obtain ⟨a31, c31, rfl, ok3, -⟩ := own3.slice 2 (spellN_length _ _)
      have S3 : Hid (Part.ok w31 ⟨a31, 2, c31, spellN len 2⟩) := ok3
      have O31 : Hid (Own w31 w.heap.size (.slice a3 16 c3) ([kn, 3] ++ spellN q 6 ++ spellN en 4 ++ spellN sn 4)) := O3.out.later b31
      have X31 : Hid (BBox w31 w.heap.size kn q en sn true (.slice ad len cap)) := X3.out.later b31
      have b031 : Below w.heap.size w w31 := b03.trans (b31.mono b03.size)
      have s3 := b031.size
      clear own3 ok3 b31 O3 X3 b03
      go_wp2_with (at_builtin; refine app_any rfl _ _ rfl w.heap.size (.slice a3 16 c3) 16 ([kn, 3] ++ spellN q 6 ++ spellN en 4 ++ spellN sn 4) rfl (own_n O31.out (by simp [spellN_length])) a31 2 c31 (spellN len 2) rfl (spellN_length _ _) S3.out.2.1 S3.out.2.2 (by omega) s3 ?_; intro v32 w4 hown3 hg3; obtain ⟨a4, c4, rfl, O4, X4, b04⟩ := app_step O31.out s3 X31.out b031 (spellN_lt _ _) (by simp [spellN_length]) (spellN_length _ _) hown3 hg3; have e23 := X4.out.c2; have e33 := X4.out.c3; have e53 := X4.out.c5; clear hown3 hg3 O31 X31 b031 S3 s3)
      rw [HE.out] at O4
      have HH : Hid ((headBs ⟨kn, q, en, sn, true, rs⟩).length = 18) := headBs_length _
      have HW : Hid (headBs ⟨kn, q, en, sn, true, rs⟩ ++ recsBs rs = writeN ⟨kn, q, en, sn, true, rs⟩) := rfl
      have O4' : Hid (Own w4 w.heap.size (.slice a4 18 c4) (headBs ⟨kn, q, en, sn, true, rs⟩ ++ recsBs (rs.take 0))) := by
        show Own _ _ _ _
        rw [List.take_zero, recsBs, List.append_nil]; exact O4.out
      clear O4 HE
      generalize headBs ⟨kn, q, en, sn, true, rs⟩ = hd at *
      have HN4 : Hid ((hd ++ recsBs (rs.take 0)).length = 18) := by
        show _ = _
        rw [List.take_zero, recsBs, List.append_nil]; exact HH.out
      obtain ⟨g4, d4, e4, -, -⟩ := World.ownsRow.form (own_n O4'.out HN4.out) (by omega)
      cases e4
      go_loopw [5, 6] (fun o i wr => ∃ (j g n c : Nat), j ≤ len ∧ i = .int .i64 j ∧ o = .slice (some ⟨g, 0, none⟩) n c ∧ Hid ((hd ++ recsBs (rs.take j)).length = n) ∧ Hid (Own wr w.heap.size (.slice (some ⟨g, 0, none⟩) n c) (hd ++ recsBs (rs.take j))) ∧ Below w.heap.size w wr ∧ Hid (BBox wr w.heap.size kn q en sn true (.slice ad len cap))) (fun _ i _ => len - (intOf i).toNat)
      case atStart => exact ⟨0, g4, 18, _, Nat.zero_le _, rfl, rfl, HN4, O4', b04, X4⟩
      case round =>
        clear O4' b04 X4 HN4
        obtain ⟨j, g, n, c, hj, rfl, rfl, HN, HO, hb, hx⟩ := hrel
        have c5 := hx.out.c5
        by_cases hlt : j < len
        · obtain ⟨bg, off, rfl, hg, hc⟩ := HA.out.cells (by omega)
          obtain ⟨q0, q1, q2⟩ := hc j hlt
          have r0 : wr.cell? ⟨bg, off + j * 3, none⟩ = _ := (hb.cell (p := ⟨bg, off + j * 3, none⟩) hg).trans q0
          have r1 : wr.cell? ⟨bg, off + j * 3 + 1, none⟩ = _ := (hb.cell (p := ⟨bg, off + j * 3 + 1, none⟩) hg).trans q1
          have r2 : wr.cell? ⟨bg, off + j * 3 + 2, none⟩ = _ := (hb.cell (p := ⟨bg, off + j * 3 + 2, none⟩) hg).trans q2
          clear hc q0 q1 q2
          simp only at r0 r1 r2
          have hz := recsSize_take_le rs HOK.out j
          rw [HL.out] at hz
          have hn : n ≤ 400000 := by rw [← HN.out, List.length_append, HH.out, recsBs_length]; omega
          have HS : Hid (hd ++ recsBs (rs.take j) ++ recBs (rs.getD j rec0) = hd ++ recsBs (rs.take (j + 1))) := by
            show _ = _
            rw [take_snocR rs j (by rw [HL.out]; exact hlt), recsBs_append, recsBs_one, List.append_assoc]
          have HO2 : Hid ((rs.getD j rec0).key.size ≤ 1000 ∧ (rs.getD j rec0).val.size ≤ 4000) := recOk_parts (HOK.out _ (getD_mem rs j (by rw [HL.out]; exact hlt)))
          clear hz
          generalize rs.getD j rec0 = r at *
          obtain ⟨rk, rv, rd⟩ := r
          simp only at r0 r1 r2 HO2
          have GA : Hid (g < wr.heap.size) := (own_base HO.out g 0 rfl).2
          cases rd
          · have ba : Below wr.heap.size wr (wr.alloc (.cells #[.string rk, .string rv, .bool false] 88)) := (Below.refl _ _).alloc (Nat.le_refl _) _
            have XA : Hid (BBox (wr.alloc (.cells #[.string rk, .string rv, .bool false] 88)) w.heap.size kn q en sn true (.slice (some ⟨bg, off, none⟩) len cap)) := hx.out.later ba
            have OA : Hid (Own (wr.alloc (.cells #[.string rk, .string rv, .bool false] 88)) w.heap.size (.slice (some ⟨g, 0, none⟩) n c) (hd ++ recsBs (rs.take j))) := HO.out.later ba
            have RA : Hid (RBox (wr.alloc (.cells #[.string rk, .string rv, .bool false] 88)) wr.heap.size ⟨rk, rv, false⟩) := heap_alloc_new wr _
            have bA : Below w.heap.size w (wr.alloc (.cells #[.string rk, .string rv, .bool false] 88)) := hb.trans (ba.mono hb.size)
            have HZ : Hid ((wr.alloc (.cells #[.string rk, .string rv, .bool false] 88)).heap.size = wr.heap.size + 1) := by
              show _ = _
              simp
            clear ba hx HO hb
            have hk1 : rk.size ≤ 1000 := HO2.out.1
            have hv1 : rv.size ≤ 4000 := HO2.out.2
            go_wp2_with fail
            refine (refText_any rk _ (by unfold maxLen; omega)).mono ?_
            rintro x w1 ⟨v1, rfl, own1, b1⟩
            rw [textN_ok rk (by omega)] at own1 ⊢
            simp only at own1
            obtain ⟨m1, hm1⟩ : ∃ m, (spellN rk.size 2 ++ sbytes rk).length = m := ⟨_, rfl⟩
            have hm1' : m1 ≤ 1002 := by rw [← hm1, List.length_append, spellN_length, sbytes_length]; omega
            obtain ⟨k1, d1, rfl, ok1, -⟩ := own1.slice m1 hm1
            have P1 : Hid (Part.ok w1 ⟨k1, m1, d1, spellN rk.size 2 ++ sbytes rk⟩) := ok1
            have Z1 : Hid (∀ b off, k1 = some ⟨b, off, none⟩ → wr.heap.size + 1 ≤ b ∧ b < w1.heap.size) := fun b off e => (by have := own_base own1 b off e; rw [HZ.out] at this; exact this)
            have X1 : Hid (BBox w1 w.heap.size kn q en sn true (.slice (some ⟨bg, off, none⟩) len cap)) := XA.out.later b1
            have O1 : Hid (Own w1 w.heap.size (.slice (some ⟨g, 0, none⟩) n c) (hd ++ recsBs (rs.take j))) := OA.out.later b1
            have R1 : Hid (RBox w1 wr.heap.size ⟨rk, rv, false⟩) := RBox.later RA.out b1
            have b01 : Below w.heap.size w w1 := bA.trans (b1.mono bA.size)
            have u1 := R1.out.c1
            have y1 : Hid (wr.heap.size + 1 ≤ w1.heap.size) := by
              have := b1.size
              rw [HZ.out] at this
              exact this
            clear own1 ok1 b1 XA OA RA bA hm1
            go_wp2_with fail
            refine (refText_any rv _ (by unfold maxLen; omega)).mono ?_
            rintro x w2 ⟨v2, rfl, own2, b2⟩
            rw [textN_ok rv (by omega)] at own2 ⊢
            simp only at own2
            obtain ⟨m2, hm2⟩ : ∃ m, (spellN rv.size 2 ++ sbytes rv).length = m := ⟨_, rfl⟩
            have hm2' : m2 ≤ 4002 := by rw [← hm2, List.length_append, spellN_length, sbytes_length]; omega
            obtain ⟨k2, d2, rfl, ok2, -⟩ := own2.slice m2 hm2
            have ba2 : Below w2.heap.size w2 (w2.alloc (.cells #[.int .u8 0] 5)) := (Below.refl _ _).alloc (Nat.le_refl _) _
            have Z2 : Hid (∀ b off, k2 = some ⟨b, off, none⟩ → w1.heap.size ≤ b ∧ b < w2.heap.size) := own_base own2
            have P2 : Hid (Part.ok (w2.alloc (.cells #[.int .u8 0] 5)) ⟨k1, m1, d1, spellN rk.size 2 ++ sbytes rk⟩) := (P1.out.later b2).later ba2
            have Q2 : Hid (Part.ok (w2.alloc (.cells #[.int .u8 0] 5)) ⟨k2, m2, d2, spellN rv.size 2 ++ sbytes rv⟩) := ok2.later ba2
            have X2 : Hid (BBox (w2.alloc (.cells #[.int .u8 0] 5)) w.heap.size kn q en sn true (.slice (some ⟨bg, off, none⟩) len cap)) := (X1.out.later b2).later ba2
            have O2 : Hid (Own (w2.alloc (.cells #[.int .u8 0] 5)) w.heap.size (.slice (some ⟨g, 0, none⟩) n c) (hd ++ recsBs (rs.take j))) := (O1.out.later b2).later ba2
            have D2 : Hid (Part.ok (w2.alloc (.cells #[.int .u8 0] 5)) ⟨some ⟨w2.heap.size, 0, none⟩, 1, 1, [0]⟩) := ⟨rfl, fun e => (by cases e), one_row w2 0 (by omega)⟩
            have b02 : Below w.heap.size w w2 := b01.trans (b2.mono b01.size)
            have b03 : Below w.heap.size w (w2.alloc (.cells #[.int .u8 0] 5)) := b02.trans (ba2.mono b02.size)
            have sz3 := b03.size
            have HZ3 : Hid ((w2.alloc (.cells #[.int .u8 0] 5)).heap.size = w2.heap.size + 1) := by
              show _ = _
              simp
            obtain ⟨n3, hn3⟩ : ∃ m, n + 1 = m := ⟨_, rfl⟩
            obtain ⟨n4, hn4⟩ : ∃ m, n3 + m1 = m := ⟨_, rfl⟩
            obtain ⟨n5, hn5⟩ : ∃ m, n4 + m2 = m := ⟨_, rfl⟩
            have HN3 : Hid (n + 1 = n3) := hn3
            have HN4 : Hid (n3 + m1 = n4) := hn4
            have HN5 : Hid (n4 + m2 = n5) := hn5
            have l3 : n3 ≤ 400001 := by omega
            have l4 : n4 ≤ 401003 := by omega
            clear own2 ok2 b2 ba2 P1 X1 O1 R1 b01 b02 u1 hm2 hn3 hn4 hn5
            go_wp2_with (first
              | (at_builtin; refine app_at' rfl (.tmp 74) (.tmp 77) rfl w.heap.size g n c _ rfl O2.out HN.out (some ⟨w2.heap.size, 0, none⟩) 1 1 [0] rfl D2.out n3 HN3.out (by omega) sz3 ?_; intro g3 c3 w3 hg3 O3 hr3; have O3 : Hid (Own w3 w.heap.size (.slice (some ⟨g3, 0, none⟩) n3 c3) (hd ++ recsBs (rs.take j) ++ [0])) := O3; have HG3 : Hid (g3 = g ∨ g3 = w2.heap.size + 1) := (by rw [HZ3.out] at hg3; exact hg3); have P3 : Hid (Part.ok w3 ⟨k1, m1, d1, spellN rk.size 2 ++ sbytes rk⟩) := P2.out.grown hr3 (fun b off e => (by have h1 := (Z1.out b off e).1; have h2 := GA.out; omega)); have Q3 : Hid (Part.ok w3 ⟨k2, m2, d2, spellN rv.size 2 ++ sbytes rv⟩) := Q2.out.grown hr3 (fun b off e => (by have h1 := (Z2.out b off e).1; have h2 := GA.out; have h3 := y1.out; omega)); have X3 : Hid (BBox w3 w.heap.size kn q en sn true (.slice (some ⟨bg, off, none⟩) len cap)) := X2.out.grown hr3 (fun e => own_typed O2.out.2 X2.out (by decide) e.symm); have b04 := b03.grown hr3 sz3 (fun k hk => (by cases hk; exact (own_base O2.out g 0 rfl).1)); have sz4 := b04.size; have HN3' : Hid ((hd ++ recsBs (rs.take j) ++ [0]).length = n3) := (by show _ = _; rw [List.length_append, HN.out]; exact HN3.out); clear hg3 hr3 P2 Q2 X2 O2 D2 b03 sz3)
              | (at_builtin; refine app_at' rfl (.tmp 78) (.tmp 79) rfl w.heap.size g3 n3 c3 _ rfl O3.out HN3'.out k1 m1 d1 _ rfl P3.out n4 HN4.out (by omega) sz4 ?_; intro g4 c4 w4 hg4 O4 hr4; have O4 : Hid (Own w4 w.heap.size (.slice (some ⟨g4, 0, none⟩) n4 c4) (hd ++ recsBs (rs.take j) ++ [0] ++ (spellN rk.size 2 ++ sbytes rk))) := O4; have Q4 : Hid (Part.ok w4 ⟨k2, m2, d2, spellN rv.size 2 ++ sbytes rv⟩) := Q3.out.grown hr4 (fun b off e => (by have h1 := Z2.out b off e; have h2 := GA.out; have h3 := y1.out; have h4 := HG3.out; omega)); have X4 : Hid (BBox w4 w.heap.size kn q en sn true (.slice (some ⟨bg, off, none⟩) len cap)) := X3.out.grown hr4 (fun e => own_typed O3.out.2 X3.out (by decide) e.symm); have b05 := b04.grown hr4 sz4 (fun k hk => (by cases hk; exact (own_base O3.out g3 0 rfl).1)); have sz5 := b05.size; have HN4' : Hid ((hd ++ recsBs (rs.take j) ++ [0] ++ (spellN rk.size 2 ++ sbytes rk)).length = n4) := (by show _ = _; rw [List.length_append, HN3'.out]; have := P3.out.1; simp only at this; rw [this]; exact HN4.out); clear hg4 hr4 P3 Q3 X3 O3 b04 sz4)
              | (at_builtin; refine app_at' rfl (.tmp 80) (.tmp 81) rfl w.heap.size g4 n4 c4 _ rfl O4.out HN4'.out k2 m2 d2 _ rfl Q4.out n5 HN5.out (by omega) sz5 ?_; intro g5 c6 w5 hg5 O5 hr5; have O5 : Hid (Own w5 w.heap.size (.slice (some ⟨g5, 0, none⟩) n5 c6) (hd ++ recsBs (rs.take j) ++ [0] ++ (spellN rk.size 2 ++ sbytes rk) ++ (spellN rv.size 2 ++ sbytes rv))) := O5; have X5 : Hid (BBox w5 w.heap.size kn q en sn true (.slice (some ⟨bg, off, none⟩) len cap)) := X4.out.grown hr5 (fun e => own_typed O4.out.2 X4.out (by decide) e.symm); have b06 := b05.grown hr5 sz5 (fun k hk => (by cases hk; exact (own_base O4.out g4 0 rfl).1)); have HN5' : Hid ((hd ++ recsBs (rs.take j) ++ [0] ++ (spellN rk.size 2 ++ sbytes rk) ++ (spellN rv.size 2 ++ sbytes rv)).length = n5) := (by show _ = _; rw [List.length_append, HN4'.out]; have := Q4.out.1; simp only at this; rw [this]; exact HN5.out); clear hg5 hr5 Q4 X4 O4 b05 sz5))
            have HE5 : Hid (hd ++ recsBs (rs.take j) ++ [0] ++ (spellN rk.size 2 ++ sbytes rk) ++ (spellN rv.size 2 ++ sbytes rv) = hd ++ recsBs (rs.take (j + 1))) := by
              show _ = _
              rw [← HS.out, recBs]
              simp [List.append_assoc]
            rw [HE5.out] at O5 HN5'
            go_roundw
            case rel => exact ⟨j + 1, g5, n5, c6, by omega, by go_num, rfl, HN5', O5, b06, X5⟩
            case measure => simp [intOf]; omega
          · have ba : Below wr.heap.size wr (wr.alloc (.cells #[.string rk, .string rv, .bool true] 88)) := (Below.refl _ _).alloc (Nat.le_refl _) _
            have XA : Hid (BBox (wr.alloc (.cells #[.string rk, .string rv, .bool true] 88)) w.heap.size kn q en sn true (.slice (some ⟨bg, off, none⟩) len cap)) := hx.out.later ba
            have OA : Hid (Own (wr.alloc (.cells #[.string rk, .string rv, .bool true] 88)) w.heap.size (.slice (some ⟨g, 0, none⟩) n c) (hd ++ recsBs (rs.take j))) := HO.out.later ba
            have RA : Hid (RBox (wr.alloc (.cells #[.string rk, .string rv, .bool true] 88)) wr.heap.size ⟨rk, rv, true⟩) := heap_alloc_new wr _
            have bA : Below w.heap.size w (wr.alloc (.cells #[.string rk, .string rv, .bool true] 88)) := hb.trans (ba.mono hb.size)
            have HZ : Hid ((wr.alloc (.cells #[.string rk, .string rv, .bool true] 88)).heap.size = wr.heap.size + 1) := by
              show _ = _
              simp
            clear ba hx HO hb
            have hk1 : rk.size ≤ 1000 := HO2.out.1
            have hv1 : rv.size ≤ 4000 := HO2.out.2
            go_wp2_with fail
            refine (refText_any rk _ (by unfold maxLen; omega)).mono ?_
            rintro x w1 ⟨v1, rfl, own1, b1⟩
            rw [textN_ok rk (by omega)] at own1 ⊢
            simp only at own1
            obtain ⟨m1, hm1⟩ : ∃ m, (spellN rk.size 2 ++ sbytes rk).length = m := ⟨_, rfl⟩
            have hm1' : m1 ≤ 1002 := by rw [← hm1, List.length_append, spellN_length, sbytes_length]; omega
            obtain ⟨k1, d1, rfl, ok1, -⟩ := own1.slice m1 hm1
            have P1 : Hid (Part.ok w1 ⟨k1, m1, d1, spellN rk.size 2 ++ sbytes rk⟩) := ok1
            have Z1 : Hid (∀ b off, k1 = some ⟨b, off, none⟩ → wr.heap.size + 1 ≤ b ∧ b < w1.heap.size) := fun b off e => (by have := own_base own1 b off e; rw [HZ.out] at this; exact this)
            have X1 : Hid (BBox w1 w.heap.size kn q en sn true (.slice (some ⟨bg, off, none⟩) len cap)) := XA.out.later b1
            have O1 : Hid (Own w1 w.heap.size (.slice (some ⟨g, 0, none⟩) n c) (hd ++ recsBs (rs.take j))) := OA.out.later b1
            have R1 : Hid (RBox w1 wr.heap.size ⟨rk, rv, true⟩) := RBox.later RA.out b1
            have b01 : Below w.heap.size w w1 := bA.trans (b1.mono bA.size)
            have u1 := R1.out.c1
            have y1 : Hid (wr.heap.size + 1 ≤ w1.heap.size) := by
              have := b1.size
              rw [HZ.out] at this
              exact this
            clear own1 ok1 b1 XA OA RA bA hm1
            go_wp2_with fail
            refine (refText_any rv _ (by unfold maxLen; omega)).mono ?_
            rintro x w2 ⟨v2, rfl, own2, b2⟩
            rw [textN_ok rv (by omega)] at own2 ⊢
            simp only at own2
            obtain ⟨m2, hm2⟩ : ∃ m, (spellN rv.size 2 ++ sbytes rv).length = m := ⟨_, rfl⟩
            have hm2' : m2 ≤ 4002 := by rw [← hm2, List.length_append, spellN_length, sbytes_length]; omega
            obtain ⟨k2, d2, rfl, ok2, -⟩ := own2.slice m2 hm2
            have ba2 : Below w2.heap.size w2 (w2.alloc (.cells #[.int .u8 1] 5)) := (Below.refl _ _).alloc (Nat.le_refl _) _
            have Z2 : Hid (∀ b off, k2 = some ⟨b, off, none⟩ → w1.heap.size ≤ b ∧ b < w2.heap.size) := own_base own2
            have P2 : Hid (Part.ok (w2.alloc (.cells #[.int .u8 1] 5)) ⟨k1, m1, d1, spellN rk.size 2 ++ sbytes rk⟩) := (P1.out.later b2).later ba2
            have Q2 : Hid (Part.ok (w2.alloc (.cells #[.int .u8 1] 5)) ⟨k2, m2, d2, spellN rv.size 2 ++ sbytes rv⟩) := ok2.later ba2
            have X2 : Hid (BBox (w2.alloc (.cells #[.int .u8 1] 5)) w.heap.size kn q en sn true (.slice (some ⟨bg, off, none⟩) len cap)) := (X1.out.later b2).later ba2
            have O2 : Hid (Own (w2.alloc (.cells #[.int .u8 1] 5)) w.heap.size (.slice (some ⟨g, 0, none⟩) n c) (hd ++ recsBs (rs.take j))) := (O1.out.later b2).later ba2
            have D2 : Hid (Part.ok (w2.alloc (.cells #[.int .u8 1] 5)) ⟨some ⟨w2.heap.size, 0, none⟩, 1, 1, [1]⟩) := ⟨rfl, fun e => (by cases e), one_row w2 1 (by omega)⟩
            have b02 : Below w.heap.size w w2 := b01.trans (b2.mono b01.size)
            have b03 : Below w.heap.size w (w2.alloc (.cells #[.int .u8 1] 5)) := b02.trans (ba2.mono b02.size)
            have sz3 := b03.size
            have HZ3 : Hid ((w2.alloc (.cells #[.int .u8 1] 5)).heap.size = w2.heap.size + 1) := by
              show _ = _
              simp
            obtain ⟨n3, hn3⟩ : ∃ m, n + 1 = m := ⟨_, rfl⟩
            obtain ⟨n4, hn4⟩ : ∃ m, n3 + m1 = m := ⟨_, rfl⟩
            obtain ⟨n5, hn5⟩ : ∃ m, n4 + m2 = m := ⟨_, rfl⟩
            have HN3 : Hid (n + 1 = n3) := hn3
            have HN4 : Hid (n3 + m1 = n4) := hn4
            have HN5 : Hid (n4 + m2 = n5) := hn5
            have l3 : n3 ≤ 400001 := by omega
            have l4 : n4 ≤ 401003 := by omega
            clear own2 ok2 b2 ba2 P1 X1 O1 R1 b01 b02 u1 hm2 hn3 hn4 hn5
            go_wp2_with (first
              | (at_builtin; refine app_at' rfl (.tmp 74) (.tmp 77) rfl w.heap.size g n c _ rfl O2.out HN.out (some ⟨w2.heap.size, 0, none⟩) 1 1 [1] rfl D2.out n3 HN3.out (by omega) sz3 ?_; intro g3 c3 w3 hg3 O3 hr3; have O3 : Hid (Own w3 w.heap.size (.slice (some ⟨g3, 0, none⟩) n3 c3) (hd ++ recsBs (rs.take j) ++ [1])) := O3; have HG3 : Hid (g3 = g ∨ g3 = w2.heap.size + 1) := (by rw [HZ3.out] at hg3; exact hg3); have P3 : Hid (Part.ok w3 ⟨k1, m1, d1, spellN rk.size 2 ++ sbytes rk⟩) := P2.out.grown hr3 (fun b off e => (by have h1 := (Z1.out b off e).1; have h2 := GA.out; omega)); have Q3 : Hid (Part.ok w3 ⟨k2, m2, d2, spellN rv.size 2 ++ sbytes rv⟩) := Q2.out.grown hr3 (fun b off e => (by have h1 := (Z2.out b off e).1; have h2 := GA.out; have h3 := y1.out; omega)); have X3 : Hid (BBox w3 w.heap.size kn q en sn true (.slice (some ⟨bg, off, none⟩) len cap)) := X2.out.grown hr3 (fun e => own_typed O2.out.2 X2.out (by decide) e.symm); have b04 := b03.grown hr3 sz3 (fun k hk => (by cases hk; exact (own_base O2.out g 0 rfl).1)); have sz4 := b04.size; have HN3' : Hid ((hd ++ recsBs (rs.take j) ++ [1]).length = n3) := (by show _ = _; rw [List.length_append, HN.out]; exact HN3.out); clear hg3 hr3 P2 Q2 X2 O2 D2 b03 sz3)
              | (at_builtin; refine app_at' rfl (.tmp 78) (.tmp 79) rfl w.heap.size g3 n3 c3 _ rfl O3.out HN3'.out k1 m1 d1 _ rfl P3.out n4 HN4.out (by omega) sz4 ?_; intro g4 c4 w4 hg4 O4 hr4; have O4 : Hid (Own w4 w.heap.size (.slice (some ⟨g4, 0, none⟩) n4 c4) (hd ++ recsBs (rs.take j) ++ [1] ++ (spellN rk.size 2 ++ sbytes rk))) := O4; have Q4 : Hid (Part.ok w4 ⟨k2, m2, d2, spellN rv.size 2 ++ sbytes rv⟩) := Q3.out.grown hr4 (fun b off e => (by have h1 := Z2.out b off e; have h2 := GA.out; have h3 := y1.out; have h4 := HG3.out; omega)); have X4 : Hid (BBox w4 w.heap.size kn q en sn true (.slice (some ⟨bg, off, none⟩) len cap)) := X3.out.grown hr4 (fun e => own_typed O3.out.2 X3.out (by decide) e.symm); have b05 := b04.grown hr4 sz4 (fun k hk => (by cases hk; exact (own_base O3.out g3 0 rfl).1)); have sz5 := b05.size; have HN4' : Hid ((hd ++ recsBs (rs.take j) ++ [1] ++ (spellN rk.size 2 ++ sbytes rk)).length = n4) := (by show _ = _; rw [List.length_append, HN3'.out]; have := P3.out.1; simp only at this; rw [this]; exact HN4.out); clear hg4 hr4 P3 Q3 X3 O3 b04 sz4)
              | (at_builtin; refine app_at' rfl (.tmp 80) (.tmp 81) rfl w.heap.size g4 n4 c4 _ rfl O4.out HN4'.out k2 m2 d2 _ rfl Q4.out n5 HN5.out (by omega) sz5 ?_; intro g5 c6 w5 hg5 O5 hr5; have O5 : Hid (Own w5 w.heap.size (.slice (some ⟨g5, 0, none⟩) n5 c6) (hd ++ recsBs (rs.take j) ++ [1] ++ (spellN rk.size 2 ++ sbytes rk) ++ (spellN rv.size 2 ++ sbytes rv))) := O5; have X5 : Hid (BBox w5 w.heap.size kn q en sn true (.slice (some ⟨bg, off, none⟩) len cap)) := X4.out.grown hr5 (fun e => own_typed O4.out.2 X4.out (by decide) e.symm); have b06 := b05.grown hr5 sz5 (fun k hk => (by cases hk; exact (own_base O4.out g4 0 rfl).1)); have HN5' : Hid ((hd ++ recsBs (rs.take j) ++ [1] ++ (spellN rk.size 2 ++ sbytes rk) ++ (spellN rv.size 2 ++ sbytes rv)).length = n5) := (by show _ = _; rw [List.length_append, HN4'.out]; have := Q4.out.1; simp only at this; rw [this]; exact HN5.out); clear hg5 hr5 Q4 X4 O4 b05 sz5))
            have HE5 : Hid (hd ++ recsBs (rs.take j) ++ [1] ++ (spellN rk.size 2 ++ sbytes rk) ++ (spellN rv.size 2 ++ sbytes rv) = hd ++ recsBs (rs.take (j + 1))) := by
              show _ = _
              rw [← HS.out, recBs]
              simp [List.append_assoc]
            rw [HE5.out] at O5 HN5'
            go_roundw
            case rel => exact ⟨j + 1, g5, n5, c6, by omega, by go_num, rfl, HN5', O5, b06, X5⟩
            case measure => simp [intOf]; omega
        · obtain rfl : j = len := by omega
          have HV : Hid (rs.take j = rs) := List.take_of_length_le (by rw [HL.out]; omega)
          rw [HV.out, HW.out] at HO
          go_wp2
          go_ret
          exact ⟨_, rfl, HO.out, hb⟩
end Go.Proofs.YtgihmkgbkffgbaaGreat
