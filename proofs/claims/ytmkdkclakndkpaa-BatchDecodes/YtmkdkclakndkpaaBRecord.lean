/- What the method record of package batch's reader does. -/
import Derived.Test.YtmkdkclakndkpaaBReader
import Derived.Deep.RegionLaw
import Derived.Test.YtmkdkclakndkpaaReadN1
import Derived.Test.YtmkdkclakndkpaaPack
namespace Go.Proofs.Ytmkdkclakndkpaa
open Go.RowKit

/-- The reader's cells. -/
def rdV (P : Part) (q fl k p e s : Int) (t : Bool) (v : Value) : Array Value := #[.slice P.ad P.len P.cap, .int .i64 q, .int .i64 fl, .int .i64 k, .int .i64 p, .int .i64 e, .int .i64 s, .bool t, v]
theorem rdV_at (P : Part) (q fl k p e s : Int) (t : Bool) (v : Value) (q' : Int) : (rdV P q fl k p e s t v).setIfInBounds 1 (.int .i64 q') = rdV P q' fl k p e s t v := rfl
/-- Where recAt finds a Record. -/
theorem recAt_some {l : List Nat} {p : Nat} (h1 : p + 3 + lenAt l (p + 1) ≤ l.length) (h2 : p + 3 + lenAt l (p + 1) + 2 + lenAt l (p + 3 + lenAt l (p + 1)) ≤ l.length) :
    recAt1 l p = some (⟨bstr ((l.drop (p + 3)).take (lenAt l (p + 1))), bstr ((l.drop (p + 3 + lenAt l (p + 1) + 2)).take (lenAt l (p + 3 + lenAt l (p + 1)))), l.getD p 0 == 1⟩, p + 3 + lenAt l (p + 1) + 2 + lenAt l (p + 3 + lenAt l (p + 1))) := by
  unfold recAt1 recAt; rw [if_pos h1, if_pos h2]; rfl
theorem recAt_none1 {l : List Nat} {p : Nat} (h1 : ¬ p + 3 + lenAt l (p + 1) ≤ l.length) : recAt1 l p = none := by unfold recAt1 recAt; rw [if_neg h1]; rfl
theorem recAt_none2 {l : List Nat} {p : Nat} (h2 : ¬ p + 3 + lenAt l (p + 1) + 2 + lenAt l (p + 3 + lenAt l (p + 1)) ≤ l.length) : recAt1 l p = none := by
  unfold recAt1 recAt
  by_cases h1 : p + 3 + lenAt l (p + 1) ≤ l.length
  · rw [if_pos h1, if_neg h2]; rfl
  · rw [if_neg h1]; rfl
theorem getN_one (l : List Nat) (p : Nat) (h : p + 1 ≤ l.length) : getN l p (1 : Nat) = (((l.getD p 0 : Nat) : Int), ((p + 1 : Nat) : Int), 0) := by
  have h1 := getN_ok l p 1 (by omega) h
  rw [h1]
  have e : (l.drop p).take 1 = [l.getD p 0] := by
    have h2 := drop_take_snoc l p 0 (by omega)
    simpa using h2
  rw [e]
  rfl
/-- What record begins with: a byte's variable, a Record's variable. -/
theorem two_boxes (w : World) : Blk ((w.alloc (.cells #[.int .i64 0] 3)).alloc (.cells #[.string ⟨#[]⟩, .string ⟨#[]⟩, .bool false] 51)) w.heap.size #[.int .i64 0] 3 ∧ Blk ((w.alloc (.cells #[.int .i64 0] 3)).alloc (.cells #[.string ⟨#[]⟩, .string ⟨#[]⟩, .bool false] 51)) (w.heap.size + 1) #[.string ⟨#[]⟩, .string ⟨#[]⟩, .bool false] 51 :=
  ⟨(heap_alloc2_old _ _ _), heap_alloc2_new _ _ _⟩
/-- 'append(v, x...)' of Records as one step of a region that draws its order. -/
theorem step_app_recs {w : World} {ops : Array Oper} {o : Oper} {a : Act} {K : Act → World → Prop} {Q : Exit → Act → World → Prop} {E : Prop} (hgd : o.guard = none) (s x : Operand)
    (ho : o.op = .call { callee := .builtin .append, args := #[s, x], argTypes := #[22, 22] })
    (base : Nat) (v : Value) (L : List Rec) (hs : a.eval s = v) (hown : OwnR w base v L)
    (ad : Addr) (m c : Nat) (l : List Rec) (hx : a.eval x = .slice (some ad) m c) (hl : l.length = m) (hrow : RRow w (some ad) l)
    (hbytes : (L.length + m) * 40 ≤ 140737488355328) (hbase : base ≤ w.heap.size)
    (h : ∀ v' w', OwnR w' base v' (L ++ l) → w.grownBy w' v.ownBlock → K (a.put o.dst v') w') :
    if Region.wanted o (yielded ops a.tmps) = true then Oper.wp Try.prog o a w K Q else E := by
  have hw : Region.wanted o (yielded ops a.tmps) = true := by simp [Region.wanted, hgd]
  rw [if_pos hw]
  obtain ⟨i0, hi, hz0, hz1, hz2⟩ := info_parts Try.infoR
  refine wp_append_own w s x 22 ho base 51 i0 _ 3 40 Try.underlying22 hi hz0 hz1 hz2 rfl (by decide) v L.length _ hs hown ad m c (recsV l) hx (by rw [recsV_length, hl]) (rrow_cells hrow ad rfl) (recsV_one l) (by unfold maxLen; omega) hbytes hbase ?_
  intro v' w' h1 h2 _
  rw [← recsV_append] at h1
  exact h v' w' (by unfold OwnR; rw [List.length_append, hl]; exact h1) h2
theorem one_rec (w : World) (r : Rec) : RRow (w.alloc (.cells #[.string r.key, .string r.val, .bool r.dead] 51)) (some ⟨w.heap.size, 0, none⟩) [r] := by
  refine Or.inr ⟨w.heap.size, 0, rfl, by simp, ?_⟩
  intro i hi
  have hi' : i < 1 := hi
  obtain rfl : i = 0 := by omega
  refine ⟨?_, ?_, ?_⟩
  all_goals rw [cell_of_row _ w.heap.size _ _ 51 (0, 0) (heap_alloc_new w _)]; rfl
theorem drew_alloc (w : World) (o : Obj) : Below w.heap.size w (w.drew.alloc o) :=
  Below.alloc (B := w.heap.size) (a := w) (w := w.drew) ((Below.refl w.heap.size w).drew) (Nat.le_refl _) o
theorem Blk.grown {w w' : World} {B : Nat} {cs : Array Value} {T : TypeId} {row : Option Nat} (h : Blk w B cs T) (hg : w.grownBy w' row) (hne : some B ≠ row) : Blk w' B cs T := (hg.block B h.lt hne).trans h
theorem int_one (n : Nat) : ((n : Int) == 1) = (n == 1) := by
  rw [Bool.eq_iff_iff]; simp; omega
theorem ownR_set {w : World} {N B : Nat} {v : Value} {rs : List Rec} (h : OwnR w N v rs) (hne : v.ownBlock ≠ some B) (i : Nat) (u : Value) : OwnR (w.setCell ⟨B, i, none⟩ u) N v rs := by
  refine ⟨h.1, ?_⟩
  rcases h.2 with h2 | ⟨g, cap, cur, hv, hgb, hg, r⟩
  · exact Or.inl h2
  · refine Or.inr ⟨g, cap, cur, hv, hgb, ?_, r⟩
    rw [Below.heap_setCell _ _ _ _ (by show g ≠ B; intro e; apply hne; rw [hv, e]; rfl)]
    exact hg
theorem OwnR.but {w w' : World} {N : Nat} {v : Value} {rs : List Rec} {ks : List Nat} (h : OwnR w N v rs) (hb : But ks w w') (hk : ∀ g, v.ownBlock = some g → g ∉ ks) : OwnR w' N v rs := by
  refine ⟨h.1, ?_⟩
  rcases h.2 with h2 | ⟨g, cap, cur, hv, hgb, hg, r⟩
  · exact Or.inl h2
  · refine Or.inr ⟨g, cap, cur, hv, hgb, ?_, r⟩
    have hlt : g < w.heap.size := by
      rcases Nat.lt_or_ge g w.heap.size with hlt | hge
      · exact hlt
      · rw [Array.getElem?_eq_none hge] at hg; cases hg
    rw [hb.block g hlt (hk g (by rw [hv]; rfl))]
    exact hg
theorem ownR_typed {w : World} {N B : Nat} {v : Value} {rs : List Rec} (h : OwnR w N v rs) {cs : Array Value} {T : TypeId} (hb : Blk w B cs T) (hT : T ≠ 51) : v.ownBlock ≠ some B := by
  intro e
  rcases h.2 with ⟨rfl, _⟩ | ⟨g, cap, cur, rfl, _, hg, _⟩
  · simp [Value.ownBlock] at e
  · simp [Value.ownBlock] at e
    subst e
    unfold Blk at hb
    rw [hg] at hb
    cases hb
    exact hT rfl
theorem ownR_lt {w : World} {N : Nat} {v : Value} {rs : List Rec} (h : OwnR w N v rs) : ∀ g, v.ownBlock = some g → N ≤ g ∧ g < w.heap.size := fun g e => World.ownsRow.lt h g e
theorem Part.below {w w' : World} {P : Part} {N : Nat} (h : P.ok w) (hb : Below N w w') (hP : ∀ b off, P.ad = some ⟨b, off, none⟩ → b < N) : P.ok w' := by
  obtain ⟨ad, n, c, l⟩ := P
  refine ⟨h.1, h.2.1, ?_⟩
  have hr : Row w ad l := h.2.2
  refine ⟨hr.1, ?_⟩
  rcases hr.2 with h0 | ⟨b, off, e, hs, hc⟩
  · exact Or.inl h0
  · refine Or.inr ⟨b, off, e, Nat.lt_of_lt_of_le hs hb.size, fun i hi => ?_⟩
    rw [hb.cell (p := ⟨b, off + i, none⟩) (hP b off e)]
    exact hc i hi
set_option maxRecDepth 100000 in
set_option maxHeartbeats 2000000 in
theorem brecord_end (R : Nat) (P : Part) (q : Nat) (fl k p e s : Int) (t : Bool) (v : Value) (w : World) (N : Nat) (hR : Blk w R (rdV P q fl k p e s t v) 69) (hN : N ≤ R) (hp : P.ok w) (hPb : ∀ b off, P.ad = some ⟨b, off, none⟩ → b < N) (hlc : P.len ≤ P.cap) (hm : P.len ≤ 1000000000000000) (hq : q ≤ P.len) (h : recAt1 P.l q = none) :
    Calls Try.prog 59 #[.pointer (some ⟨R, 0, none⟩)] w fun x w' => x = .returned (.int .i64 20) ∧ Below N w w' := by
  obtain ⟨ad, len, cap, l⟩ := P
  simp only at hlc hm hq h hPb
  have HLn : Hid (l.length = len) := hp.1
  have hlR := hR.lt
  have b0 : Below w.heap.size w ((w.alloc (.cells #[.int .i64 0] 3)).alloc (.cells #[.string ⟨#[]⟩, .string ⟨#[]⟩, .bool false] 51)) := ((Below.refl _ _).alloc (Nat.le_refl _) _).alloc (by simp) _
  have R0 : Hid (Blk ((w.alloc (.cells #[.int .i64 0] 3)).alloc (.cells #[.string ⟨#[]⟩, .string ⟨#[]⟩, .bool false] 51)) R (rdV ⟨ad, len, cap, l⟩ q fl k p e s t v) 69) := hR.later b0
  have C0 : Hid (Blk ((w.alloc (.cells #[.int .i64 0] 3)).alloc (.cells #[.string ⟨#[]⟩, .string ⟨#[]⟩, .bool false] 51)) w.heap.size #[.int .i64 0] 3) := (two_boxes w).1
  have D0 : Hid (Blk ((w.alloc (.cells #[.int .i64 0] 3)).alloc (.cells #[.string ⟨#[]⟩, .string ⟨#[]⟩, .bool false] 51)) (w.heap.size + 1) #[.string ⟨#[]⟩, .string ⟨#[]⟩, .bool false] 51) := (two_boxes w).2
  have P0 : Hid (Part.ok ((w.alloc (.cells #[.int .i64 0] 3)).alloc (.cells #[.string ⟨#[]⟩, .string ⟨#[]⟩, .bool false] 51)) ⟨ad, len, cap, l⟩) := hp.later b0
  have B0 : Hid (Below N w ((w.alloc (.cells #[.int .i64 0] 3)).alloc (.cells #[.string ⟨#[]⟩, .string ⟨#[]⟩, .bool false] 51))) := b0.mono (by omega)
  have HB : Hid (∀ w', But [R, w.heap.size, w.heap.size + 1] ((w.alloc (.cells #[.int .i64 0] 3)).alloc (.cells #[.string ⟨#[]⟩, .string ⟨#[]⟩, .bool false] 51)) w' → Below N ((w.alloc (.cells #[.int .i64 0] 3)).alloc (.cells #[.string ⟨#[]⟩, .string ⟨#[]⟩, .bool false] 51)) w') := fun w' hb => hb.below (by intro k hk; simp at hk; omega) (by simp; omega)
  have HPb : Hid (∀ b off, ad = some ⟨b, off, none⟩ → b < N) := hPb
  have nR : w.heap.size ≠ R := by omega
  have nR2 : w.heap.size + 1 ≠ R := by omega
  clear hR hp hPb
  by_cases h1 : q + 1 ≤ len
  · have g1 := getN_one l q (by rw [HLn.out]; exact h1)
    have HC1 := bnumber_out R w.heap.size (rdV ⟨ad, len, cap, l⟩ q fl k p e s t v) #[.int .i64 0] 3 ad len cap l q 1 0 ((w.alloc (.cells #[.int .i64 0] 3)).alloc (.cells #[.string ⟨#[]⟩, .string ⟨#[]⟩, .bool false] 51)) R0.out rfl rfl C0.out rfl nR P0.out hlc hm (by omega)
    rw [g1] at HC1
    go_enter Try.func59, Try.ntmps59
    go_wp2_with fail
    refine HC1.mono ?_
    rintro x w1 ⟨rfl, R1, C1, K1⟩
    have K1' : Hid (But [R, w.heap.size, w.heap.size + 1] ((w.alloc (.cells #[.int .i64 0] 3)).alloc (.cells #[.string ⟨#[]⟩, .string ⟨#[]⟩, .bool false] 51)) w1) := K1.mono (by intro k hk; simp at hk ⊢; omega)
    have R1' : Hid (Blk w1 R (rdV ⟨ad, len, cap, l⟩ ((q + 1 : Nat) : Int) fl k p e s t v) 69) := R1
    have D1 : Hid (Blk w1 (w.heap.size + 1) #[.string ⟨#[]⟩, .string ⟨#[]⟩, .bool false] 51) := D0.out.but K1 (by simp; omega)
    have P1 : Hid (Part.ok w1 ⟨ad, len, cap, l⟩) := Part.below P0.out (HB.out _ K1'.out) HPb.out
    clear R1 C1 K1 HC1 g1
    by_cases h2 : q + 3 + lenAt l (q + 1) ≤ len
    · have h3 : ¬ q + 3 + lenAt l (q + 1) + 2 + lenAt l (q + 3 + lenAt l (q + 1)) ≤ len := fun h3 => by
        rw [recAt_some (by rw [HLn.out]; exact h2) (by rw [HLn.out]; exact h3)] at h; cases h
      have g2 := getTextN_ok l (q + 1) (by rw [HLn.out]; omega)
      obtain ⟨q2, hq2⟩ : ∃ q2, q + 1 + 2 + lenAt l (q + 1) = q2 := ⟨_, rfl⟩
      have hq2' : q2 ≤ len := by omega
      rw [show q + 3 + lenAt l (q + 1) = q2 by omega] at h3
      rw [hq2] at g2
      have g3 := getTextN_end l q2 (by rw [HLn.out]; omega)
      have HC2 := btext_out R (w.heap.size + 1) 0 _ _ 51 ad len cap l (q + 1) _ w1 R1'.out rfl rfl D1.out rfl nR2 P1.out hlc hm (by omega)
      rw [g2] at HC2
      go_wp2_with fail
      refine HC2.mono ?_
      rintro x w2 ⟨rfl, R2, D2, K2⟩
      have K2' : Hid (But [R, w.heap.size, w.heap.size + 1] ((w.alloc (.cells #[.int .i64 0] 3)).alloc (.cells #[.string ⟨#[]⟩, .string ⟨#[]⟩, .bool false] 51)) w2) := K1'.out.trans (K2.mono (by intro k hk; simp at hk ⊢; omega))
      have P2 : Hid (Part.ok w2 ⟨ad, len, cap, l⟩) := Part.below P0.out (HB.out _ K2'.out) HPb.out
      have HC3 := btext_out R (w.heap.size + 1) 1 _ _ 51 ad len cap l q2 _ w2 R2 rfl rfl D2 rfl nR2 P2.out hlc hm (by omega)
      rw [g3] at HC3
      clear HC2 R2 D2 K2 g2 g3 K1' R1' D1 P1
      go_wp2_with fail
      refine HC3.mono ?_
      rintro x w3 ⟨rfl, R3, D3, K3⟩
      have K3' : Hid (But [R, w.heap.size, w.heap.size + 1] ((w.alloc (.cells #[.int .i64 0] 3)).alloc (.cells #[.string ⟨#[]⟩, .string ⟨#[]⟩, .bool false] 51)) w3) := K2'.out.trans (K3.mono (by intro k hk; simp at hk ⊢; omega))
      clear R3 D3 K3 HC3 K2' P2
      go_wp2
      go_ret
      exact ⟨rfl, B0.out.trans (HB.out _ K3'.out)⟩
    · have g2 := getTextN_end l (q + 1) (by rw [HLn.out]; omega)
      have HC2 := btext_out R (w.heap.size + 1) 0 _ _ 51 ad len cap l (q + 1) _ w1 R1'.out rfl rfl D1.out rfl nR2 P1.out hlc hm (by omega)
      rw [g2] at HC2
      go_wp2_with fail
      refine HC2.mono ?_
      rintro x w2 ⟨rfl, R2, D2, K2⟩
      have K2' : Hid (But [R, w.heap.size, w.heap.size + 1] ((w.alloc (.cells #[.int .i64 0] 3)).alloc (.cells #[.string ⟨#[]⟩, .string ⟨#[]⟩, .bool false] 51)) w2) := K1'.out.trans (K2.mono (by intro k hk; simp at hk ⊢; omega))
      clear HC2 R2 D2 K2 g2 K1' R1' D1 P1
      go_wp2
      go_ret
      exact ⟨rfl, B0.out.trans (HB.out _ K2'.out)⟩
  · have g1 := getN_end l q 1 (by omega) (by rw [HLn.out]; omega)
    have HC1 := bnumber_out R w.heap.size (rdV ⟨ad, len, cap, l⟩ q fl k p e s t v) #[.int .i64 0] 3 ad len cap l q 1 0 ((w.alloc (.cells #[.int .i64 0] 3)).alloc (.cells #[.string ⟨#[]⟩, .string ⟨#[]⟩, .bool false] 51)) R0.out rfl rfl C0.out rfl nR P0.out hlc hm (by omega)
    rw [show getN l (q : Int) ((1 : Nat) : Int) = (0, 0, 20) from g1] at HC1
    go_enter Try.func59, Try.ntmps59
    go_wp2_with fail
    refine HC1.mono ?_
    rintro x w1 ⟨rfl, R1, C1, K1⟩
    have K1' : Hid (But [R, w.heap.size, w.heap.size + 1] ((w.alloc (.cells #[.int .i64 0] 3)).alloc (.cells #[.string ⟨#[]⟩, .string ⟨#[]⟩, .bool false] 51)) w1) := K1.mono (by intro k hk; simp at hk ⊢; omega)
    clear R1 C1 K1 HC1 g1
    go_wp2
    go_ret
    exact ⟨rfl, B0.out.trans (HB.out _ K1'.out)⟩
set_option maxRecDepth 100000 in
set_option maxHeartbeats 2000000 in
theorem brecord_ok (R : Nat) (P : Part) (q : Nat) (fl k p e s : Int) (t : Bool) (v : Value) (w : World) (N : Nat) (hR : Blk w R (rdV P q fl k p e s t v) 69) (hN : N ≤ R) (hp : P.ok w) (hPb : ∀ b off, P.ad = some ⟨b, off, none⟩ → b < N) (hlc : P.len ≤ P.cap) (hm : P.len ≤ 1000000000000000) (hq : q ≤ P.len) (rs : List Rec) (hown : OwnR w N v rs) (hrs : rs.length ≤ 65536) (r : Rec) (q2 : Nat) (h : recAt1 P.l q = some (r, q2)) :
    Calls Try.prog 59 #[.pointer (some ⟨R, 0, none⟩)] w fun x w' => ∃ v', x = .returned (.int .i64 0) ∧ Blk w' R (rdV P q2 fl k p e s t v') 69 ∧ OwnR w' N v' (rs ++ [r]) ∧ Below N w w' := by
  obtain ⟨ad, len, cap, l⟩ := P
  simp only at hlc hm hq h hPb
  have HLn : Hid (l.length = len) := hp.1
  have hlR := hR.lt
  have b0 : Below w.heap.size w ((w.alloc (.cells #[.int .i64 0] 3)).alloc (.cells #[.string ⟨#[]⟩, .string ⟨#[]⟩, .bool false] 51)) := ((Below.refl _ _).alloc (Nat.le_refl _) _).alloc (by simp) _
  have R0 : Hid (Blk ((w.alloc (.cells #[.int .i64 0] 3)).alloc (.cells #[.string ⟨#[]⟩, .string ⟨#[]⟩, .bool false] 51)) R (rdV ⟨ad, len, cap, l⟩ q fl k p e s t v) 69) := hR.later b0
  have C0 : Hid (Blk ((w.alloc (.cells #[.int .i64 0] 3)).alloc (.cells #[.string ⟨#[]⟩, .string ⟨#[]⟩, .bool false] 51)) w.heap.size #[.int .i64 0] 3) := (two_boxes w).1
  have D0 : Hid (Blk ((w.alloc (.cells #[.int .i64 0] 3)).alloc (.cells #[.string ⟨#[]⟩, .string ⟨#[]⟩, .bool false] 51)) (w.heap.size + 1) #[.string ⟨#[]⟩, .string ⟨#[]⟩, .bool false] 51) := (two_boxes w).2
  have P0 : Hid (Part.ok ((w.alloc (.cells #[.int .i64 0] 3)).alloc (.cells #[.string ⟨#[]⟩, .string ⟨#[]⟩, .bool false] 51)) ⟨ad, len, cap, l⟩) := hp.later b0
  have B0 : Hid (Below N w ((w.alloc (.cells #[.int .i64 0] 3)).alloc (.cells #[.string ⟨#[]⟩, .string ⟨#[]⟩, .bool false] 51))) := b0.mono (by omega)
  have HB : Hid (∀ w', But [R, w.heap.size, w.heap.size + 1] ((w.alloc (.cells #[.int .i64 0] 3)).alloc (.cells #[.string ⟨#[]⟩, .string ⟨#[]⟩, .bool false] 51)) w' → Below N ((w.alloc (.cells #[.int .i64 0] 3)).alloc (.cells #[.string ⟨#[]⟩, .string ⟨#[]⟩, .bool false] 51)) w') := fun w' hb => hb.below (by intro k hk; simp at hk; omega) (by simp; omega)
  have HPb : Hid (∀ b off, ad = some ⟨b, off, none⟩ → b < N) := hPb
  have nR : w.heap.size ≠ R := by omega
  have nR2 : w.heap.size + 1 ≠ R := by omega
  have O0 : Hid (OwnR ((w.alloc (.cells #[.int .i64 0] 3)).alloc (.cells #[.string ⟨#[]⟩, .string ⟨#[]⟩, .bool false] 51)) N v rs) := hown.later b0
  have G0 : Hid (∀ g, v.ownBlock = some g → g ∉ [R, w.heap.size, w.heap.size + 1]) := fun g hg => by
    have h1 := ownR_lt hown g hg
    have h2 : g ≠ R := fun e => ownR_typed hown hR (by decide) (by rw [hg, e])
    simp; omega
  clear hR hp hPb hown
  have h1 : q + 3 + lenAt l (q + 1) ≤ len := Classical.byContradiction fun h1 => by
    rw [recAt_none1 (by rw [HLn.out]; exact h1)] at h; cases h
  have h2 : q + 3 + lenAt l (q + 1) + 2 + lenAt l (q + 3 + lenAt l (q + 1)) ≤ len := Classical.byContradiction fun h2 => by
    rw [recAt_none2 (by rw [HLn.out]; exact h2)] at h; cases h
  rw [recAt_some (by rw [HLn.out]; exact h1) (by rw [HLn.out]; exact h2)] at h
  obtain ⟨hr, hq2⟩ := Prod.mk.inj (Option.some.inj h)
  clear h
  obtain ⟨q1, hq1⟩ : ∃ q1, q + 1 + 2 + lenAt l (q + 1) = q1 := ⟨_, rfl⟩
  rw [show q + 3 + lenAt l (q + 1) = q1 by omega] at h1 h2 hr hq2
  have g1 := getN_one l q (by rw [HLn.out]; omega)
  have g2 := getTextN_ok l (q + 1) (by rw [HLn.out]; omega)
  have g3 := getTextN_ok l q1 (by rw [HLn.out]; omega)
  rw [hq1] at g2
  rw [hq2] at g3
  have hq2' : q2 ≤ len := by omega
  have HC1 := bnumber_out R w.heap.size (rdV ⟨ad, len, cap, l⟩ q fl k p e s t v) #[.int .i64 0] 3 ad len cap l q 1 0 ((w.alloc (.cells #[.int .i64 0] 3)).alloc (.cells #[.string ⟨#[]⟩, .string ⟨#[]⟩, .bool false] 51)) R0.out rfl rfl C0.out rfl nR P0.out hlc hm (by omega)
  rw [g1] at HC1
  rw [show q + 1 + 2 = q + 3 by omega] at g2
  generalize bstr ((l.drop (q + 3)).take (lenAt l (q + 1))) = tk at *
  generalize bstr ((l.drop (q1 + 2)).take (lenAt l q1)) = tv at *
  generalize l.getD q 0 = by_ at *
  subst hr
  clear g1 hq2 h2 hq1
  go_enter Try.func59, Try.ntmps59
  go_wp2_with fail
  refine HC1.mono ?_
  rintro x w1 ⟨rfl, R1, C1, K1⟩
  have K1' : Hid (But [R, w.heap.size, w.heap.size + 1] ((w.alloc (.cells #[.int .i64 0] 3)).alloc (.cells #[.string ⟨#[]⟩, .string ⟨#[]⟩, .bool false] 51)) w1) := K1.mono (by intro k hk; simp at hk ⊢; omega)
  have R1' : Hid (Blk w1 R (rdV ⟨ad, len, cap, l⟩ ((q + 1 : Nat) : Int) fl k p e s t v) 69) := R1
  have C1' : Hid (Blk w1 w.heap.size #[.int .i64 by_] 3) := C1
  have D1 : Hid (Blk w1 (w.heap.size + 1) #[.string ⟨#[]⟩, .string ⟨#[]⟩, .bool false] 51) := D0.out.but K1 (by simp; omega)
  have P1 : Hid (Part.ok w1 ⟨ad, len, cap, l⟩) := Part.below P0.out (HB.out _ K1'.out) HPb.out
  have HC2 := btext_out R (w.heap.size + 1) 0 _ _ 51 ad len cap l (q + 1) _ w1 R1'.out rfl rfl D1.out rfl nR2 P1.out hlc hm (by omega)
  rw [g2] at HC2
  clear R1 C1 K1 HC1 g2
  go_wp2_with fail
  refine HC2.mono ?_
  rintro x w2 ⟨rfl, R2, D2, K2⟩
  have K2' : Hid (But [R, w.heap.size, w.heap.size + 1] ((w.alloc (.cells #[.int .i64 0] 3)).alloc (.cells #[.string ⟨#[]⟩, .string ⟨#[]⟩, .bool false] 51)) w2) := K1'.out.trans (K2.mono (by intro k hk; simp at hk ⊢; omega))
  have R2' : Hid (Blk w2 R (rdV ⟨ad, len, cap, l⟩ (q1 : Int) fl k p e s t v) 69) := R2
  have C2' : Hid (Blk w2 w.heap.size #[.int .i64 by_] 3) := C1'.out.but K2 (by simp; omega)
  have D2' : Hid (Blk w2 (w.heap.size + 1) #[.string tk, .string ⟨#[]⟩, .bool false] 51) := D2
  have P2 : Hid (Part.ok w2 ⟨ad, len, cap, l⟩) := Part.below P0.out (HB.out _ K2'.out) HPb.out
  have HC3 := btext_out R (w.heap.size + 1) 1 _ _ 51 ad len cap l q1 _ w2 R2'.out rfl rfl D2'.out rfl nR2 P2.out hlc hm (by omega)
  rw [g3] at HC3
  clear R2 D2 K2 HC2 g3 K1' R1' C1' D1 P1
  go_wp2_with fail
  refine HC3.mono ?_
  rintro x w3 ⟨rfl, R3, D3, K3⟩
  have K3' : Hid (But [R, w.heap.size, w.heap.size + 1] ((w.alloc (.cells #[.int .i64 0] 3)).alloc (.cells #[.string ⟨#[]⟩, .string ⟨#[]⟩, .bool false] 51)) w3) := K2'.out.trans (K3.mono (by intro k hk; simp at hk ⊢; omega))
  have R3' : Hid (Blk w3 R (rdV ⟨ad, len, cap, l⟩ (q2 : Int) fl k p e s t v) 69) := R3
  have C3' : Hid (Blk w3 w.heap.size #[.int .i64 by_] 3) := C2'.out.but K3 (by simp; omega)
  have D3' : Hid (Blk w3 (w.heap.size + 1) #[.string tk, .string tv, .bool false] 51) := D3
  have O3 : Hid (OwnR w3 N v rs) := O0.out.but K3'.out G0.out
  have y0 := C3'.out.cell 0
  have z0 := D3'.out.cell 0
  have z1 := D3'.out.cell 1
  have z2 := D3'.out.cell 2
  have f2 := D3'.out.free 2
  have x83 := (R3'.out.cell 8).trans (show _ = some v from rfl)
  have hRlt : R < w3.heap.size := R3'.out.lt
  have nR3 : R ≠ w.heap.size + 1 := by omega
  simp at y0 z0 z1 z2
  have hne2 : v.ownBlock ≠ some (w.heap.size + 1) := fun e => G0.out _ e (by simp)
  have hneR : v.ownBlock ≠ some R := fun e => G0.out _ e (by simp)
  have K4 : Hid (But [R, w.heap.size, w.heap.size + 1] ((w.alloc (.cells #[.int .i64 0] 3)).alloc (.cells #[.string ⟨#[]⟩, .string ⟨#[]⟩, .bool false] 51)) (w3.setCell ⟨w.heap.size + 1, 2, none⟩ (.bool ((by_ : Int) == 1)))) := K3'.out.set (by simp) 2 _
  have R4 : Hid (Blk (w3.setCell ⟨w.heap.size + 1, 2, none⟩ (.bool ((by_ : Int) == 1))) R (rdV ⟨ad, len, cap, l⟩ (q2 : Int) fl k p e s t v) 69) := R3'.out.other (by omega) 2 _
  have D4 : Hid (Blk (w3.setCell ⟨w.heap.size + 1, 2, none⟩ (.bool ((by_ : Int) == 1))) (w.heap.size + 1) #[.string tk, .string tv, .bool ((by_ : Int) == 1)] 51) := D3'.out.set 2 _
  have O4 : Hid (OwnR (w3.setCell ⟨w.heap.size + 1, 2, none⟩ (.bool ((by_ : Int) == 1))) N v rs) := ownR_set O3.out hne2 2 _
  have x8 := R4.out.cell 8
  have u0 := D4.out.cell 0
  have u1 := D4.out.cell 1
  have u2 := D4.out.cell 2
  simp [rdV] at x8 u0 u1 u2
  have hsz4 : Hid ((w3.setCell ⟨w.heap.size + 1, 2, none⟩ (.bool ((by_ : Int) == 1))).heap.size = w3.heap.size) := by
    show _ = _
    simp [World.setCell]
  have hN3 : N ≤ w3.heap.size := Nat.le_trans (Nat.le_trans hN (Nat.le_of_lt hlR)) (by have := K3'.out.size; simp at this; omega)
  have ba5 : Below (w3.setCell ⟨w.heap.size + 1, 2, none⟩ (.bool ((by_ : Int) == 1))).heap.size (w3.setCell ⟨w.heap.size + 1, 2, none⟩ (.bool ((by_ : Int) == 1))) ((w3.setCell ⟨w.heap.size + 1, 2, none⟩ (.bool ((by_ : Int) == 1))).drew.alloc (.cells #[.string tk, .string tv, .bool ((by_ : Int) == 1)] 51)) := drew_alloc _ _
  have O5 : Hid (OwnR ((w3.setCell ⟨w.heap.size + 1, 2, none⟩ (.bool ((by_ : Int) == 1))).drew.alloc (.cells #[.string tk, .string tv, .bool ((by_ : Int) == 1)] 51)) N v rs) := O4.out.later ba5
  have K5 : Hid (But [R, w.heap.size, w.heap.size + 1] ((w.alloc (.cells #[.int .i64 0] 3)).alloc (.cells #[.string ⟨#[]⟩, .string ⟨#[]⟩, .bool false] 51)) ((w3.setCell ⟨w.heap.size + 1, 2, none⟩ (.bool ((by_ : Int) == 1))).drew.alloc (.cells #[.string tk, .string tv, .bool ((by_ : Int) == 1)] 51))) := K4.out.trans (But.of ba5)
  have R5 : Hid (Blk ((w3.setCell ⟨w.heap.size + 1, 2, none⟩ (.bool ((by_ : Int) == 1))).drew.alloc (.cells #[.string tk, .string tv, .bool ((by_ : Int) == 1)] 51)) R (rdV ⟨ad, len, cap, l⟩ (q2 : Int) fl k p e s t v) 69) := R4.out.later ba5
  have S5 : Hid (RRow ((w3.setCell ⟨w.heap.size + 1, 2, none⟩ (.bool ((by_ : Int) == 1))).drew.alloc (.cells #[.string tk, .string tv, .bool ((by_ : Int) == 1)] 51)) (some ⟨w3.heap.size, 0, none⟩) [⟨tk, tv, (by_ : Int) == 1⟩]) := by
    have h := one_rec (w3.setCell ⟨w.heap.size + 1, 2, none⟩ (.bool ((by_ : Int) == 1))).drew ⟨tk, tv, (by_ : Int) == 1⟩
    rw [show (w3.setCell ⟨w.heap.size + 1, 2, none⟩ (.bool ((by_ : Int) == 1))).drew.heap.size = w3.heap.size from hsz4.out] at h
    exact h
  clear ba5 K3' R3' C3' D3' O3
  have D5 : Hid (Blk ((w3.setCell ⟨w.heap.size + 1, 2, none⟩ (.bool ((by_ : Int) == 1))).drew.alloc (.cells #[.string tk, .string tv, .bool ((by_ : Int) == 1)] 51)) (w.heap.size + 1) #[.string tk, .string tv, .bool ((by_ : Int) == 1)] 51) := D4.out.later (drew_alloc _ _)
  have x85 := (R5.out.cell 8).trans (show _ = some v from rfl)
  have hk1 := And.intro ((D5.out.cell 0).trans (show _ = some (Value.string tk) from rfl)) (And.intro ((D5.out.cell 1).trans (show _ = some (Value.string tv) from rfl)) ((D5.out.cell 2).trans (show _ = some (Value.bool ((by_ : Int) == 1)) from rfl)))
  go_wp2_with fail
  go_region_law ((refine step_app_recs (by rfl) _ _ (by rfl) N v rs (by rfl) O5.out ⟨w3.heap.size, 0, none⟩ 1 1 [⟨tk, tv, (by_ : Int) == 1⟩] (by rfl) rfl S5.out (by omega) (by simp [World.setCell]; omega) ?_; intro v6 w6 O6 hg6; obtain ⟨a6, c6, hv6, -⟩ := O6.form; obtain ⟨m6, hm6⟩ : ∃ m, (rs ++ [⟨tk, tv, (by_ : Int) == 1⟩] : List Rec).length = m := ⟨_, rfl⟩; rw [hm6] at hv6; clear hm6; subst hv6; have D6 : Hid (Blk w6 (w.heap.size + 1) #[.string tk, .string tv, .bool ((by_ : Int) == 1)] 51) := D5.out.grown hg6 (fun e => hne2 e.symm); have R6 : Hid (Blk w6 R (rdV ⟨ad, len, cap, l⟩ (q2 : Int) fl k p e s t v) 69) := R5.out.grown hg6 (fun e => hneR e.symm); have hk2 := And.intro ((D6.out.cell 0).trans (show _ = some (Value.string tk) from rfl)) (And.intro ((D6.out.cell 1).trans (show _ = some (Value.string tv) from rfl)) ((D6.out.cell 2).trans (show _ = some (Value.bool ((by_ : Int) == 1)) from rfl))); have D7 := D6.out.other (C := R) (by omega) 8 (.slice a6 m6 c6); have hk3 := And.intro ((D7.cell 0).trans (show _ = some (Value.string tk) from rfl)) (And.intro ((D7.cell 1).trans (show _ = some (Value.string tv) from rfl)) ((D7.cell 2).trans (show _ = some (Value.bool ((by_ : Int) == 1)) from rfl))); have f8 := R6.out.free 8; have x86 := (R6.out.cell 8).trans (show _ = some v from rfl); have B6 : Hid (Below N w w6) := B0.out.trans ((HB.out _ K5.out).grown hg6 (by simp; omega) (fun k hk => (ownR_lt O5.out k hk).1)); have O6' : Hid (OwnR w6 N (.slice a6 m6 c6) (rs ++ [⟨tk, tv, (by_ : Int) == 1⟩])) := O6; clear D7 hg6 O6))
  all_goals go_wp2
  all_goals go_ret
  all_goals exact ⟨_, rfl, R6.out.set 8 _, by rw [← int_one]; exact ownR_set O6'.out (ownR_typed O6'.out R6.out (by decide)) 8 _, B6.out.setCell (p := ⟨R, 8, none⟩) hN _⟩
end Go.Proofs.Ytmkdkclakndkpaa
