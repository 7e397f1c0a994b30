/- What the methods number and text of package batch's reader do. What the method record of package batch's reader does. What the methods kind, flag, producer, epoch and seq of package batch's reader do. What the method records of package batch's reader does. -/
import Derived.Test.YtfgamkcnnijloaaGreatPZRec
import Derived.Test.YtfgamkcnnijloaaGreatPZRange
import Derived.Test.YtfgamkcnnijloaaGreatPZRead
import Derived.Deep.RegionLaw
import Derived.Test.YtfgamkcnnijloaaGreatPZBM
namespace Go.Proofs.YtfgamkcnnijloaaGreat
open Go.RowKit

/-- What lies elsewhere is as it was. -/
structure But (ks : List Nat) (w w' : World) : Prop where
  os : w'.os = w.os
  tape : w'.tape = w.tape
  output : w'.output = w.output
  size : w.heap.size ≤ w'.heap.size
  block : ∀ k, k < w.heap.size → k ∉ ks → w'.heap[k]? = w.heap[k]?
variable {w w' : World}
theorem But.of {ks : List Nat} (h : Below w.heap.size w w') : But ks w w' := ⟨h.os, h.tape, h.output, h.size, fun k hk _ => h.block k hk⟩
theorem But.trans {ks : List Nat} {w'' : World} (h : But ks w w') (h' : But ks w' w'') : But ks w w'' :=
  ⟨h'.os.trans h.os, h'.tape.trans h.tape, h'.output.trans h.output, Nat.le_trans h.size h'.size, fun k hk hn => (h'.block k (Nat.lt_of_lt_of_le hk h.size) hn).trans (h.block k hk hn)⟩
theorem But.set {ks : List Nat} (h : But ks w w') {g : Nat} (hg : g ∈ ks) (i : Nat) (u : Value) : But ks w (w'.setCell ⟨g, i, none⟩ u) :=
  ⟨h.os, h.tape, h.output, by simpa [World.setCell] using h.size, fun k hk hn => (Below.heap_setCell _ _ _ _ (fun e => hn (by rw [e]; exact hg))).trans (h.block k hk hn)⟩
theorem But.below {ks : List Nat} (h : But ks w w') {N : Nat} (hk : ∀ k ∈ ks, N ≤ k) (hN : N ≤ w.heap.size) : Below N w w' :=
  ⟨h.os, h.tape, h.output, h.size, fun k h1 => h.block k (Nat.lt_of_lt_of_le h1 hN) (fun hm => absurd (hk k hm) (by omega))⟩
theorem But.mono {ks ls : List Nat} (h : But ks w w') (hs : ∀ k ∈ ks, k ∈ ls) : But ls w w' := ⟨h.os, h.tape, h.output, h.size, fun k hk hn => h.block k hk (fun hm => hn (hs k hm))⟩
theorem Blk.but {B : Nat} {cs : Array Value} {T : TypeId} {ks : List Nat} (h : Blk w B cs T) (hb : But ks w w') (hn : B ∉ ks) : Blk w' B cs T := (hb.block B h.lt hn).trans h
theorem Blk.drewN {B : Nat} {cs : Array Value} {T : TypeId} (h : Blk w B cs T) (m : Nat) : Blk (w.drewN m) B cs T := by
  induction m with
  | zero => exact h
  | succ m ih => exact ih
theorem But.drewN {ks : List Nat} (h : But ks w w') (m : Nat) : But ks w (w'.drewN m) := by
  induction m with
  | zero => exact h
  | succ m ih => exact ⟨ih.os, ih.tape, ih.output, ih.size, ih.block⟩
set_option maxHeartbeats 1000000 in
/-- number, into a field of the reader itself. -/
theorem bnumber_in (R i : Nat) (cs : Array Value) (ad : Option Addr) (len cap : Nat) (l : List Nat) (p s : Nat) (o : Int) (w : World) (hR : Blk w R cs 161) (h0 : cs[0]? = some (.slice ad len cap)) (h1 : cs[1]? = some (.int .i64 p)) (hi : cs[i]? = some (.int .i64 o)) (h2 : 2 ≤ i)
    (hp : Part.ok w ⟨ad, len, cap, l⟩) (hlc : len ≤ cap) (hm : len ≤ 1000000000000000) (hp2 : p ≤ 9223372036854775807) :
    Calls Tryz.prog 120 #[.pointer (some ⟨R, 0, none⟩), .pointer (some ⟨R, i, none⟩), .int .i64 s] w fun e w' => e = .returned (.int .i64 (getN l p s).2.2) ∧ Blk w' R ((cs.setIfInBounds i (.int .i64 (getN l p s).1)).setIfInBounds 1 (.int .i64 (getN l p s).2.1)) 161 ∧ But [R] w w' := by
  have c0 := (hR.cell 0).trans h0
  have c1 := (hR.cell 1).trans h1
  have HR : Hid (Blk w R cs 161) := hR
  have HP : Hid (Part.ok w ⟨ad, len, cap, l⟩) := hp
  clear hR hp
  go_enter Tryz.func120, Tryz.ntmps120
  go_wp2_with fail
  have BD : Hid (Below w.heap.size w w.drew) := (Below.refl _ _).drew
  go_region_with (go_at_call 68; refine (get_any ad len cap l p s _ (HP.out.later BD.out) hlc hm (by omega)).mono ?_; rintro e w1 ⟨rfl, b1⟩; have B1 : Hid (Below w.heap.size w w1) := BD.out.trans (b1.mono BD.out.size); have R1 : Hid (Blk w1 R cs 161) := HR.out.later B1.out; have k1 := (R1.out.cell 1).trans h1; have ki := (R1.out.cell i).trans hi; have f1 := R1.out.free 1; have fi := R1.out.free i; clear b1)
  all_goals go_wp2
  all_goals go_ret
  all_goals exact ⟨rfl, (R1.out.set i _).set 1 _, ((But.of B1.out).set (by simp) i _).set (by simp) 1 _⟩
set_option maxHeartbeats 1000000 in
/-- number, into a variable elsewhere. -/
theorem bnumber_out (R C : Nat) (cs ds : Array Value) (T : TypeId) (ad : Option Addr) (len cap : Nat) (l : List Nat) (p s : Nat) (o : Int) (w : World) (hR : Blk w R cs 161) (h0 : cs[0]? = some (.slice ad len cap)) (h1 : cs[1]? = some (.int .i64 p)) (hC : Blk w C ds T) (hi : ds[0]? = some (.int .i64 o)) (hne : C ≠ R)
    (hp : Part.ok w ⟨ad, len, cap, l⟩) (hlc : len ≤ cap) (hm : len ≤ 1000000000000000) (hp2 : p ≤ 9223372036854775807) :
    Calls Tryz.prog 120 #[.pointer (some ⟨R, 0, none⟩), .pointer (some ⟨C, 0, none⟩), .int .i64 s] w fun e w' => e = .returned (.int .i64 (getN l p s).2.2) ∧ Blk w' R (cs.setIfInBounds 1 (.int .i64 (getN l p s).2.1)) 161 ∧ Blk w' C (ds.setIfInBounds 0 (.int .i64 (getN l p s).1)) T ∧ But [R, C] w w' := by
  have c0 := (hR.cell 0).trans h0
  have c1 := (hR.cell 1).trans h1
  have HR : Hid (Blk w R cs 161) := hR
  have HC : Hid (Blk w C ds T) := hC
  have HP : Hid (Part.ok w ⟨ad, len, cap, l⟩) := hp
  clear hR hC hp
  go_enter Tryz.func120, Tryz.ntmps120
  go_wp2_with fail
  have BD : Hid (Below w.heap.size w w.drew) := (Below.refl _ _).drew
  go_region_with (go_at_call 68; refine (get_any ad len cap l p s _ (HP.out.later BD.out) hlc hm (by omega)).mono ?_; rintro e w1 ⟨rfl, b1⟩; have B1 : Hid (Below w.heap.size w w1) := BD.out.trans (b1.mono BD.out.size); have R1 : Hid (Blk w1 R cs 161) := HR.out.later B1.out; have C1 : Hid (Blk w1 C ds T) := HC.out.later B1.out; have k1 := (R1.out.cell 1).trans h1; have ki := (C1.out.cell 0).trans hi; have f1 := R1.out.free 1; have fi := C1.out.free 0; clear b1)
  all_goals go_wp2
  all_goals go_ret
  all_goals exact ⟨rfl, (R1.out.other (fun e => hne e.symm) 0 _).set 1 _, (C1.out.set 0 _).other hne 1 _, ((But.of B1.out).set (by simp) 0 _).set (by simp) 1 _⟩
set_option maxHeartbeats 1000000 in
/-- text, into a field of a Record elsewhere. -/
theorem btext_out (R C i : Nat) (cs ds : Array Value) (T : TypeId) (ad : Option Addr) (len cap : Nat) (l : List Nat) (p : Nat) (o : ByteArray) (w : World) (hR : Blk w R cs 161) (h0 : cs[0]? = some (.slice ad len cap)) (h1 : cs[1]? = some (.int .i64 p)) (hC : Blk w C ds T) (hi : ds[i]? = some (.string o)) (hne : C ≠ R)
    (hp : Part.ok w ⟨ad, len, cap, l⟩) (hlc : len ≤ cap) (hm : len ≤ 1000000000000000) (hp2 : p ≤ 9223372036854775807) :
    Calls Tryz.prog 128 #[.pointer (some ⟨R, 0, none⟩), .pointer (some ⟨C, i, none⟩)] w fun e w' => e = .returned (.int .i64 (getTextN l p).2.2) ∧ Blk w' R (cs.setIfInBounds 1 (.int .i64 (getTextN l p).2.1)) 161 ∧ Blk w' C (ds.setIfInBounds i (.string (getTextN l p).1)) T ∧ But [R, C] w w' := by
  have c0 := (hR.cell 0).trans h0
  have c1 := (hR.cell 1).trans h1
  have HR : Hid (Blk w R cs 161) := hR
  have HC : Hid (Blk w C ds T) := hC
  have HP : Hid (Part.ok w ⟨ad, len, cap, l⟩) := hp
  clear hR hC hp
  go_enter Tryz.func128, Tryz.ntmps128
  go_wp2_with fail
  have BD : Hid (Below w.heap.size w w.drew) := (Below.refl _ _).drew
  go_region_with (go_at_call 132; refine (getText_any ad len cap l p _ (HP.out.later BD.out) hlc hm (by omega)).mono ?_; rintro e w1 ⟨rfl, b1⟩; have B1 : Hid (Below w.heap.size w w1) := BD.out.trans (b1.mono BD.out.size); have R1 : Hid (Blk w1 R cs 161) := HR.out.later B1.out; have C1 : Hid (Blk w1 C ds T) := HC.out.later B1.out; have k1 := (R1.out.cell 1).trans h1; have ki := (C1.out.cell i).trans hi; have f1 := R1.out.free 1; have fi := C1.out.free i; clear b1)
  all_goals go_wp2
  all_goals go_ret
  all_goals exact ⟨rfl, (R1.out.other (fun e => hne e.symm) i _).set 1 _, (C1.out.set i _).other hne 1 _, ((But.of B1.out).set (by simp) i _).set (by simp) 1 _⟩
end Go.Proofs.YtfgamkcnnijloaaGreat
namespace Go.Proofs.YtfgamkcnnijloaaGreat
open Go.RowKit

/-- The reader's cells. -/
def rdV (P : Part) (q fl k p e s : Int) (t : Bool) (v : Value) : Array Value := #[.slice P.ad P.len P.cap, .int .i64 q, .int .i64 fl, .int .i64 k, .int .i64 p, .int .i64 e, .int .i64 s, .bool t, v]
/-- Where recAt finds a Record. -/
theorem recAt_some {l : List Nat} {p : Nat} (h1 : p + 3 + lenAt l (p + 1) ≤ l.length) (h2 : p + 3 + lenAt l (p + 1) + 2 + lenAt l (p + 3 + lenAt l (p + 1)) ≤ l.length) :
    recAt1 l p = some (⟨bstr ((l.drop (p + 3)).take (lenAt l (p + 1))), bstr ((l.drop (p + 3 + lenAt l (p + 1) + 2)).take (lenAt l (p + 3 + lenAt l (p + 1)))), l.getD p 0 == 1⟩, p + 3 + lenAt l (p + 1) + 2 + lenAt l (p + 3 + lenAt l (p + 1))) := by
  unfold recAt1 recAt; rw [if_pos h1, if_pos h2]; rfl
theorem recAt_none1 {l : List Nat} {p : Nat} (h1 : ¬ p + 3 + lenAt l (p + 1) ≤ l.length) : recAt1 l p = none := by unfold recAt1 recAt; rw [if_neg h1]; rfl
theorem recAt_none2 {l : List Nat} {p : Nat} (h2 : ¬ p + 3 + lenAt l (p + 1) + 2 + lenAt l (p + 3 + lenAt l (p + 1)) ≤ l.length) : recAt1 l p = none := by
  unfold recAt1 recAt
  by_cases h1 : p + 3 + lenAt l (p + 1) ≤ l.length
  · rw [if_pos h1, if_neg h2]; rfl
  · rw [if_neg h1]; rfl
theorem getN_one (l : List Nat) (p : Nat) (h : p + 1 ≤ l.length) : getN l p (1 : Nat) = (((l.getD p 0 : Nat) : Int), ((p + 1 : Nat) : Int), 0) := by
  have h1 := getN_ok l p 1 (by omega) h
  rw [h1]
  have e : (l.drop p).take 1 = [l.getD p 0] := by
    have h2 := drop_take_snoc l p 0 (by omega)
    simpa using h2
  rw [e]
  rfl
/-- What record begins with: a byte's variable, a Record's variable. -/
theorem two_boxes (w : World) : Blk ((w.alloc (.cells #[.int .i64 0] 3)).alloc (.cells #[.string ⟨#[]⟩, .string ⟨#[]⟩, .bool false] 43)) w.heap.size #[.int .i64 0] 3 ∧ Blk ((w.alloc (.cells #[.int .i64 0] 3)).alloc (.cells #[.string ⟨#[]⟩, .string ⟨#[]⟩, .bool false] 43)) (w.heap.size + 1) #[.string ⟨#[]⟩, .string ⟨#[]⟩, .bool false] 43 :=
  ⟨(heap_alloc2_old _ _ _), heap_alloc2_new _ _ _⟩
/-- 'append(v, x...)' of Records as one step of a region that draws its order. -/
theorem step_app_recs {w : World} {ops : Array Oper} {o : Oper} {a : Act} {K : Act → World → Prop} {Q : Exit → Act → World → Prop} {E : Prop} (hgd : o.guard = none) (s x : Operand)
    (ho : o.op = .call { callee := .builtin .append, args := #[s, x], argTypes := #[28, 28] })
    (base : Nat) (v : Value) (L : List Rec) (hs : a.eval s = v) (hown : OwnR w base v L)
    (ad : Addr) (m c : Nat) (l : List Rec) (hx : a.eval x = .slice (some ad) m c) (hl : l.length = m) (hrow : RRow w (some ad) l)
    (hbytes : (L.length + m) * 40 ≤ 140737488355328) (hbase : base ≤ w.heap.size)
    (h : ∀ v' w', OwnR w' base v' (L ++ l) → w.grownBy w' v.ownBlock → K (a.put o.dst v') w') :
    if Region.wanted o (yielded ops a.tmps) = true then Oper.wp Tryz.prog o a w K Q else E := by
  have hw : Region.wanted o (yielded ops a.tmps) = true := by simp [Region.wanted, hgd]
  rw [if_pos hw]
  obtain ⟨i0, hi, hz0, hz1, hz2⟩ := info_parts Tryz.infoR
  refine wp_append_own w s x 28 ho base 43 i0 _ 3 40 Tryz.underlying28 hi hz0 hz1 hz2 rfl (by decide) v L.length _ hs hown ad m c (recsV l) hx (by rw [recsV_length, hl]) (rrow_cells hrow ad rfl) (recsV_one l) (by unfold maxLen; omega) hbytes hbase ?_
  intro v' w' h1 h2 _
  rw [← recsV_append] at h1
  exact h v' w' (by unfold OwnR; rw [List.length_append, hl]; exact h1) h2
theorem one_rec (w : World) (r : Rec) : RRow (w.alloc (.cells #[.string r.key, .string r.val, .bool r.dead] 43)) (some ⟨w.heap.size, 0, none⟩) [r] := by
  refine Or.inr ⟨w.heap.size, 0, rfl, by simp, ?_⟩
  intro i hi
  have hi' : i < 1 := hi
  obtain rfl : i = 0 := by omega
  refine ⟨?_, ?_, ?_⟩
  all_goals rw [cell_of_row _ w.heap.size _ _ 43 (0, 0) (heap_alloc_new w _)]; rfl
theorem drew_alloc (w : World) (o : Obj) : Below w.heap.size w (w.drew.alloc o) :=
  Below.alloc (B := w.heap.size) (a := w) (w := w.drew) ((Below.refl w.heap.size w).drew) (Nat.le_refl _) o
theorem Blk.grown {w w' : World} {B : Nat} {cs : Array Value} {T : TypeId} {row : Option Nat} (h : Blk w B cs T) (hg : w.grownBy w' row) (hne : some B ≠ row) : Blk w' B cs T := (hg.block B h.lt hne).trans h
theorem int_one (n : Nat) : ((n : Int) == 1) = (n == 1) := by
  rw [Bool.eq_iff_iff]; simp; omega
theorem ownR_set {w : World} {N B : Nat} {v : Value} {rs : List Rec} (h : OwnR w N v rs) (hne : v.ownBlock ≠ some B) (i : Nat) (u : Value) : OwnR (w.setCell ⟨B, i, none⟩ u) N v rs := by
  refine ⟨h.1, ?_⟩
  rcases h.2 with h2 | ⟨g, cap, cur, hv, hgb, hg, r⟩
  · exact Or.inl h2
  · refine Or.inr ⟨g, cap, cur, hv, hgb, ?_, r⟩
    rw [Below.heap_setCell _ _ _ _ (by show g ≠ B; intro e; apply hne; rw [hv, e]; rfl)]
    exact hg
theorem OwnR.but {w w' : World} {N : Nat} {v : Value} {rs : List Rec} {ks : List Nat} (h : OwnR w N v rs) (hb : But ks w w') (hk : ∀ g, v.ownBlock = some g → g ∉ ks) : OwnR w' N v rs := by
  refine ⟨h.1, ?_⟩
  rcases h.2 with h2 | ⟨g, cap, cur, hv, hgb, hg, r⟩
  · exact Or.inl h2
  · refine Or.inr ⟨g, cap, cur, hv, hgb, ?_, r⟩
    have hlt : g < w.heap.size := by
      rcases Nat.lt_or_ge g w.heap.size with hlt | hge
      · exact hlt
      · rw [Array.getElem?_eq_none hge] at hg; cases hg
    rw [hb.block g hlt (hk g (by rw [hv]; rfl))]
    exact hg
theorem ownR_typed {w : World} {N B : Nat} {v : Value} {rs : List Rec} (h : OwnR w N v rs) {cs : Array Value} {T : TypeId} (hb : Blk w B cs T) (hT : T ≠ 43) : v.ownBlock ≠ some B := by
  intro e
  rcases h.2 with ⟨rfl, _⟩ | ⟨g, cap, cur, rfl, _, hg, _⟩
  · simp [Value.ownBlock] at e
  · simp [Value.ownBlock] at e
    subst e
    unfold Blk at hb
    rw [hg] at hb
    cases hb
    exact hT rfl
theorem ownR_lt {w : World} {N : Nat} {v : Value} {rs : List Rec} (h : OwnR w N v rs) : ∀ g, v.ownBlock = some g → N ≤ g ∧ g < w.heap.size := fun g e => World.ownsRow.lt h g e
theorem Part.below {w w' : World} {P : Part} {N : Nat} (h : P.ok w) (hb : Below N w w') (hP : ∀ b off, P.ad = some ⟨b, off, none⟩ → b < N) : P.ok w' := by
  obtain ⟨ad, n, c, l⟩ := P
  refine ⟨h.1, h.2.1, ?_⟩
  have hr : Row w ad l := h.2.2
  refine ⟨hr.1, ?_⟩
  rcases hr.2 with h0 | ⟨b, off, e, hs, hc⟩
  · exact Or.inl h0
  · refine Or.inr ⟨b, off, e, Nat.lt_of_lt_of_le hs hb.size, fun i hi => ?_⟩
    rw [hb.cell (p := ⟨b, off + i, none⟩) (hP b off e)]
    exact hc i hi
set_option maxRecDepth 100000 in
set_option maxHeartbeats 2000000 in
theorem brecord_end (R : Nat) (P : Part) (q : Nat) (fl k p e s : Int) (t : Bool) (v : Value) (w : World) (N : Nat) (hR : Blk w R (rdV P q fl k p e s t v) 161) (hN : N ≤ R) (hp : P.ok w) (hPb : ∀ b off, P.ad = some ⟨b, off, none⟩ → b < N) (hlc : P.len ≤ P.cap) (hm : P.len ≤ 1000000000000000) (hq : q ≤ P.len) (h : recAt1 P.l q = none) :
    Calls Tryz.prog 121 #[.pointer (some ⟨R, 0, none⟩)] w fun x w' => x = .returned (.int .i64 20) ∧ Below N w w' := by
  obtain ⟨ad, len, cap, l⟩ := P
  simp only at hlc hm hq h hPb
  have HLn : Hid (l.length = len) := hp.1
  have hlR := hR.lt
  have b0 : Below w.heap.size w ((w.alloc (.cells #[.int .i64 0] 3)).alloc (.cells #[.string ⟨#[]⟩, .string ⟨#[]⟩, .bool false] 43)) := ((Below.refl _ _).alloc (Nat.le_refl _) _).alloc (by simp) _
  have R0 : Hid (Blk ((w.alloc (.cells #[.int .i64 0] 3)).alloc (.cells #[.string ⟨#[]⟩, .string ⟨#[]⟩, .bool false] 43)) R (rdV ⟨ad, len, cap, l⟩ q fl k p e s t v) 161) := hR.later b0
  have C0 : Hid (Blk ((w.alloc (.cells #[.int .i64 0] 3)).alloc (.cells #[.string ⟨#[]⟩, .string ⟨#[]⟩, .bool false] 43)) w.heap.size #[.int .i64 0] 3) := (two_boxes w).1
  have D0 : Hid (Blk ((w.alloc (.cells #[.int .i64 0] 3)).alloc (.cells #[.string ⟨#[]⟩, .string ⟨#[]⟩, .bool false] 43)) (w.heap.size + 1) #[.string ⟨#[]⟩, .string ⟨#[]⟩, .bool false] 43) := (two_boxes w).2
  have P0 : Hid (Part.ok ((w.alloc (.cells #[.int .i64 0] 3)).alloc (.cells #[.string ⟨#[]⟩, .string ⟨#[]⟩, .bool false] 43)) ⟨ad, len, cap, l⟩) := hp.later b0
  have B0 : Hid (Below N w ((w.alloc (.cells #[.int .i64 0] 3)).alloc (.cells #[.string ⟨#[]⟩, .string ⟨#[]⟩, .bool false] 43))) := b0.mono (by omega)
  have HB : Hid (∀ w', But [R, w.heap.size, w.heap.size + 1] ((w.alloc (.cells #[.int .i64 0] 3)).alloc (.cells #[.string ⟨#[]⟩, .string ⟨#[]⟩, .bool false] 43)) w' → Below N ((w.alloc (.cells #[.int .i64 0] 3)).alloc (.cells #[.string ⟨#[]⟩, .string ⟨#[]⟩, .bool false] 43)) w') := fun w' hb => hb.below (by intro k hk; simp at hk; omega) (by simp; omega)
  have HPb : Hid (∀ b off, ad = some ⟨b, off, none⟩ → b < N) := hPb
  have nR : w.heap.size ≠ R := by omega
  have nR2 : w.heap.size + 1 ≠ R := by omega
  clear hR hp hPb
  by_cases h1 : q + 1 ≤ len
  · have g1 := getN_one l q (by rw [HLn.out]; exact h1)
    have HC1 := bnumber_out R w.heap.size (rdV ⟨ad, len, cap, l⟩ q fl k p e s t v) #[.int .i64 0] 3 ad len cap l q 1 0 ((w.alloc (.cells #[.int .i64 0] 3)).alloc (.cells #[.string ⟨#[]⟩, .string ⟨#[]⟩, .bool false] 43)) R0.out rfl rfl C0.out rfl nR P0.out hlc hm (by omega)
    rw [g1] at HC1
    go_enter Tryz.func121, Tryz.ntmps121
    go_wp2_with fail
    refine HC1.mono ?_
    rintro x w1 ⟨rfl, R1, C1, K1⟩
    have K1' : Hid (But [R, w.heap.size, w.heap.size + 1] ((w.alloc (.cells #[.int .i64 0] 3)).alloc (.cells #[.string ⟨#[]⟩, .string ⟨#[]⟩, .bool false] 43)) w1) := K1.mono (by intro k hk; simp at hk ⊢; omega)
    have R1' : Hid (Blk w1 R (rdV ⟨ad, len, cap, l⟩ ((q + 1 : Nat) : Int) fl k p e s t v) 161) := R1
    have D1 : Hid (Blk w1 (w.heap.size + 1) #[.string ⟨#[]⟩, .string ⟨#[]⟩, .bool false] 43) := D0.out.but K1 (by simp; omega)
    have P1 : Hid (Part.ok w1 ⟨ad, len, cap, l⟩) := Part.below P0.out (HB.out _ K1'.out) HPb.out
    clear R1 C1 K1 HC1 g1
    by_cases h2 : q + 3 + lenAt l (q + 1) ≤ len
    · have h3 : ¬ q + 3 + lenAt l (q + 1) + 2 + lenAt l (q + 3 + lenAt l (q + 1)) ≤ len := fun h3 => by
        rw [recAt_some (by rw [HLn.out]; exact h2) (by rw [HLn.out]; exact h3)] at h; cases h
      have g2 := getTextN_ok l (q + 1) (by rw [HLn.out]; omega)
      obtain ⟨q2, hq2⟩ : ∃ q2, q + 1 + 2 + lenAt l (q + 1) = q2 := ⟨_, rfl⟩
      have hq2' : q2 ≤ len := by omega
      rw [show q + 3 + lenAt l (q + 1) = q2 by omega] at h3
      rw [hq2] at g2
      have g3 := getTextN_end l q2 (by rw [HLn.out]; omega)
      have HC2 := btext_out R (w.heap.size + 1) 0 _ _ 43 ad len cap l (q + 1) _ w1 R1'.out rfl rfl D1.out rfl nR2 P1.out hlc hm (by omega)
      rw [g2] at HC2
      go_wp2_with fail
      refine HC2.mono ?_
      rintro x w2 ⟨rfl, R2, D2, K2⟩
      have K2' : Hid (But [R, w.heap.size, w.heap.size + 1] ((w.alloc (.cells #[.int .i64 0] 3)).alloc (.cells #[.string ⟨#[]⟩, .string ⟨#[]⟩, .bool false] 43)) w2) := K1'.out.trans (K2.mono (by intro k hk; simp at hk ⊢; omega))
      have P2 : Hid (Part.ok w2 ⟨ad, len, cap, l⟩) := Part.below P0.out (HB.out _ K2'.out) HPb.out
      have HC3 := btext_out R (w.heap.size + 1) 1 _ _ 43 ad len cap l q2 _ w2 R2 rfl rfl D2 rfl nR2 P2.out hlc hm (by omega)
      rw [g3] at HC3
      clear HC2 R2 D2 K2 g2 g3 K1' R1' D1 P1
      go_wp2_with fail
      refine HC3.mono ?_
      rintro x w3 ⟨rfl, R3, D3, K3⟩
      have K3' : Hid (But [R, w.heap.size, w.heap.size + 1] ((w.alloc (.cells #[.int .i64 0] 3)).alloc (.cells #[.string ⟨#[]⟩, .string ⟨#[]⟩, .bool false] 43)) w3) := K2'.out.trans (K3.mono (by intro k hk; simp at hk ⊢; omega))
      clear R3 D3 K3 HC3 K2' P2
      go_wp2
      go_ret
      exact ⟨rfl, B0.out.trans (HB.out _ K3'.out)⟩
    · have g2 := getTextN_end l (q + 1) (by rw [HLn.out]; omega)
      have HC2 := btext_out R (w.heap.size + 1) 0 _ _ 43 ad len cap l (q + 1) _ w1 R1'.out rfl rfl D1.out rfl nR2 P1.out hlc hm (by omega)
      rw [g2] at HC2
      go_wp2_with fail
      refine HC2.mono ?_
      rintro x w2 ⟨rfl, R2, D2, K2⟩
      have K2' : Hid (But [R, w.heap.size, w.heap.size + 1] ((w.alloc (.cells #[.int .i64 0] 3)).alloc (.cells #[.string ⟨#[]⟩, .string ⟨#[]⟩, .bool false] 43)) w2) := K1'.out.trans (K2.mono (by intro k hk; simp at hk ⊢; omega))
      clear HC2 R2 D2 K2 g2 K1' R1' D1 P1
      go_wp2
      go_ret
      exact ⟨rfl, B0.out.trans (HB.out _ K2'.out)⟩
  · have g1 := getN_end l q 1 (by omega) (by rw [HLn.out]; omega)
    have HC1 := bnumber_out R w.heap.size (rdV ⟨ad, len, cap, l⟩ q fl k p e s t v) #[.int .i64 0] 3 ad len cap l q 1 0 ((w.alloc (.cells #[.int .i64 0] 3)).alloc (.cells #[.string ⟨#[]⟩, .string ⟨#[]⟩, .bool false] 43)) R0.out rfl rfl C0.out rfl nR P0.out hlc hm (by omega)
    rw [show getN l (q : Int) ((1 : Nat) : Int) = (0, 0, 20) from g1] at HC1
    go_enter Tryz.func121, Tryz.ntmps121
    go_wp2_with fail
    refine HC1.mono ?_
    rintro x w1 ⟨rfl, R1, C1, K1⟩
    have K1' : Hid (But [R, w.heap.size, w.heap.size + 1] ((w.alloc (.cells #[.int .i64 0] 3)).alloc (.cells #[.string ⟨#[]⟩, .string ⟨#[]⟩, .bool false] 43)) w1) := K1.mono (by intro k hk; simp at hk ⊢; omega)
    clear R1 C1 K1 HC1 g1
    go_wp2
    go_ret
    exact ⟨rfl, B0.out.trans (HB.out _ K1'.out)⟩
set_option maxRecDepth 100000 in
set_option maxHeartbeats 2000000 in
theorem brecord_ok (R : Nat) (P : Part) (q : Nat) (fl k p e s : Int) (t : Bool) (v : Value) (w : World) (N : Nat) (hR : Blk w R (rdV P q fl k p e s t v) 161) (hN : N ≤ R) (hp : P.ok w) (hPb : ∀ b off, P.ad = some ⟨b, off, none⟩ → b < N) (hlc : P.len ≤ P.cap) (hm : P.len ≤ 1000000000000000) (hq : q ≤ P.len) (rs : List Rec) (hown : OwnR w N v rs) (hrs : rs.length ≤ 65536) (r : Rec) (q2 : Nat) (h : recAt1 P.l q = some (r, q2)) :
    Calls Tryz.prog 121 #[.pointer (some ⟨R, 0, none⟩)] w fun x w' => ∃ v', x = .returned (.int .i64 0) ∧ Blk w' R (rdV P q2 fl k p e s t v') 161 ∧ OwnR w' N v' (rs ++ [r]) ∧ Below N w w' := by
  obtain ⟨ad, len, cap, l⟩ := P
  simp only at hlc hm hq h hPb
  have HLn : Hid (l.length = len) := hp.1
  have hlR := hR.lt
  have b0 : Below w.heap.size w ((w.alloc (.cells #[.int .i64 0] 3)).alloc (.cells #[.string ⟨#[]⟩, .string ⟨#[]⟩, .bool false] 43)) := ((Below.refl _ _).alloc (Nat.le_refl _) _).alloc (by simp) _
  have R0 : Hid (Blk ((w.alloc (.cells #[.int .i64 0] 3)).alloc (.cells #[.string ⟨#[]⟩, .string ⟨#[]⟩, .bool false] 43)) R (rdV ⟨ad, len, cap, l⟩ q fl k p e s t v) 161) := hR.later b0
  have C0 : Hid (Blk ((w.alloc (.cells #[.int .i64 0] 3)).alloc (.cells #[.string ⟨#[]⟩, .string ⟨#[]⟩, .bool false] 43)) w.heap.size #[.int .i64 0] 3) := (two_boxes w).1
  have D0 : Hid (Blk ((w.alloc (.cells #[.int .i64 0] 3)).alloc (.cells #[.string ⟨#[]⟩, .string ⟨#[]⟩, .bool false] 43)) (w.heap.size + 1) #[.string ⟨#[]⟩, .string ⟨#[]⟩, .bool false] 43) := (two_boxes w).2
  have P0 : Hid (Part.ok ((w.alloc (.cells #[.int .i64 0] 3)).alloc (.cells #[.string ⟨#[]⟩, .string ⟨#[]⟩, .bool false] 43)) ⟨ad, len, cap, l⟩) := hp.later b0
  have B0 : Hid (Below N w ((w.alloc (.cells #[.int .i64 0] 3)).alloc (.cells #[.string ⟨#[]⟩, .string ⟨#[]⟩, .bool false] 43))) := b0.mono (by omega)
  have HB : Hid (∀ w', But [R, w.heap.size, w.heap.size + 1] ((w.alloc (.cells #[.int .i64 0] 3)).alloc (.cells #[.string ⟨#[]⟩, .string ⟨#[]⟩, .bool false] 43)) w' → Below N ((w.alloc (.cells #[.int .i64 0] 3)).alloc (.cells #[.string ⟨#[]⟩, .string ⟨#[]⟩, .bool false] 43)) w') := fun w' hb => hb.below (by intro k hk; simp at hk; omega) (by simp; omega)
  have HPb : Hid (∀ b off, ad = some ⟨b, off, none⟩ → b < N) := hPb
  have nR : w.heap.size ≠ R := by omega
  have nR2 : w.heap.size + 1 ≠ R := by omega
  have O0 : Hid (OwnR ((w.alloc (.cells #[.int .i64 0] 3)).alloc (.cells #[.string ⟨#[]⟩, .string ⟨#[]⟩, .bool false] 43)) N v rs) := hown.later b0
  have G0 : Hid (∀ g, v.ownBlock = some g → g ∉ [R, w.heap.size, w.heap.size + 1]) := fun g hg => by
    have h1 := ownR_lt hown g hg
    have h2 : g ≠ R := fun e => ownR_typed hown hR (by decide) (by rw [hg, e])
    simp; omega
  clear hR hp hPb hown
  have h1 : q + 3 + lenAt l (q + 1) ≤ len := Classical.byContradiction fun h1 => by
    rw [recAt_none1 (by rw [HLn.out]; exact h1)] at h; cases h
  have h2 : q + 3 + lenAt l (q + 1) + 2 + lenAt l (q + 3 + lenAt l (q + 1)) ≤ len := Classical.byContradiction fun h2 => by
    rw [recAt_none2 (by rw [HLn.out]; exact h2)] at h; cases h
  rw [recAt_some (by rw [HLn.out]; exact h1) (by rw [HLn.out]; exact h2)] at h
  obtain ⟨hr, hq2⟩ := Prod.mk.inj (Option.some.inj h)
  clear h
  obtain ⟨q1, hq1⟩ : ∃ q1, q + 1 + 2 + lenAt l (q + 1) = q1 := ⟨_, rfl⟩
  rw [show q + 3 + lenAt l (q + 1) = q1 by omega] at h1 h2 hr hq2
  have g1 := getN_one l q (by rw [HLn.out]; omega)
  have g2 := getTextN_ok l (q + 1) (by rw [HLn.out]; omega)
  have g3 := getTextN_ok l q1 (by rw [HLn.out]; omega)
  rw [hq1] at g2
  rw [hq2] at g3
  have hq2' : q2 ≤ len := by omega
  have HC1 := bnumber_out R w.heap.size (rdV ⟨ad, len, cap, l⟩ q fl k p e s t v) #[.int .i64 0] 3 ad len cap l q 1 0 ((w.alloc (.cells #[.int .i64 0] 3)).alloc (.cells #[.string ⟨#[]⟩, .string ⟨#[]⟩, .bool false] 43)) R0.out rfl rfl C0.out rfl nR P0.out hlc hm (by omega)
  rw [g1] at HC1
  rw [show q + 1 + 2 = q + 3 by omega] at g2
  generalize bstr ((l.drop (q + 3)).take (lenAt l (q + 1))) = tk at *
  generalize bstr ((l.drop (q1 + 2)).take (lenAt l q1)) = tv at *
  generalize l.getD q 0 = by_ at *
  subst hr
  clear g1 hq2 h2 hq1
  go_enter Tryz.func121, Tryz.ntmps121
  go_wp2_with fail
  refine HC1.mono ?_
  rintro x w1 ⟨rfl, R1, C1, K1⟩
  have K1' : Hid (But [R, w.heap.size, w.heap.size + 1] ((w.alloc (.cells #[.int .i64 0] 3)).alloc (.cells #[.string ⟨#[]⟩, .string ⟨#[]⟩, .bool false] 43)) w1) := K1.mono (by intro k hk; simp at hk ⊢; omega)
  have R1' : Hid (Blk w1 R (rdV ⟨ad, len, cap, l⟩ ((q + 1 : Nat) : Int) fl k p e s t v) 161) := R1
  have C1' : Hid (Blk w1 w.heap.size #[.int .i64 by_] 3) := C1
  have D1 : Hid (Blk w1 (w.heap.size + 1) #[.string ⟨#[]⟩, .string ⟨#[]⟩, .bool false] 43) := D0.out.but K1 (by simp; omega)
  have P1 : Hid (Part.ok w1 ⟨ad, len, cap, l⟩) := Part.below P0.out (HB.out _ K1'.out) HPb.out
  have HC2 := btext_out R (w.heap.size + 1) 0 _ _ 43 ad len cap l (q + 1) _ w1 R1'.out rfl rfl D1.out rfl nR2 P1.out hlc hm (by omega)
  rw [g2] at HC2
  clear R1 C1 K1 HC1 g2
  go_wp2_with fail
  refine HC2.mono ?_
  rintro x w2 ⟨rfl, R2, D2, K2⟩
  have K2' : Hid (But [R, w.heap.size, w.heap.size + 1] ((w.alloc (.cells #[.int .i64 0] 3)).alloc (.cells #[.string ⟨#[]⟩, .string ⟨#[]⟩, .bool false] 43)) w2) := K1'.out.trans (K2.mono (by intro k hk; simp at hk ⊢; omega))
  have R2' : Hid (Blk w2 R (rdV ⟨ad, len, cap, l⟩ (q1 : Int) fl k p e s t v) 161) := R2
  have C2' : Hid (Blk w2 w.heap.size #[.int .i64 by_] 3) := C1'.out.but K2 (by simp; omega)
  have D2' : Hid (Blk w2 (w.heap.size + 1) #[.string tk, .string ⟨#[]⟩, .bool false] 43) := D2
  have P2 : Hid (Part.ok w2 ⟨ad, len, cap, l⟩) := Part.below P0.out (HB.out _ K2'.out) HPb.out
  have HC3 := btext_out R (w.heap.size + 1) 1 _ _ 43 ad len cap l q1 _ w2 R2'.out rfl rfl D2'.out rfl nR2 P2.out hlc hm (by omega)
  rw [g3] at HC3
  clear R2 D2 K2 HC2 g3 K1' R1' C1' D1 P1
  go_wp2_with fail
  refine HC3.mono ?_
  rintro x w3 ⟨rfl, R3, D3, K3⟩
  have K3' : Hid (But [R, w.heap.size, w.heap.size + 1] ((w.alloc (.cells #[.int .i64 0] 3)).alloc (.cells #[.string ⟨#[]⟩, .string ⟨#[]⟩, .bool false] 43)) w3) := K2'.out.trans (K3.mono (by intro k hk; simp at hk ⊢; omega))
  have R3' : Hid (Blk w3 R (rdV ⟨ad, len, cap, l⟩ (q2 : Int) fl k p e s t v) 161) := R3
  have C3' : Hid (Blk w3 w.heap.size #[.int .i64 by_] 3) := C2'.out.but K3 (by simp; omega)
  have D3' : Hid (Blk w3 (w.heap.size + 1) #[.string tk, .string tv, .bool false] 43) := D3
  have O3 : Hid (OwnR w3 N v rs) := O0.out.but K3'.out G0.out
  have y0 := C3'.out.cell 0
  have z0 := D3'.out.cell 0
  have z1 := D3'.out.cell 1
  have z2 := D3'.out.cell 2
  have f2 := D3'.out.free 2
  have x83 := (R3'.out.cell 8).trans (show _ = some v from rfl)
  have hRlt : R < w3.heap.size := R3'.out.lt
  have nR3 : R ≠ w.heap.size + 1 := by omega
  simp at y0 z0 z1 z2
  have hne2 : v.ownBlock ≠ some (w.heap.size + 1) := fun e => G0.out _ e (by simp)
  have hneR : v.ownBlock ≠ some R := fun e => G0.out _ e (by simp)
  have K4 : Hid (But [R, w.heap.size, w.heap.size + 1] ((w.alloc (.cells #[.int .i64 0] 3)).alloc (.cells #[.string ⟨#[]⟩, .string ⟨#[]⟩, .bool false] 43)) (w3.setCell ⟨w.heap.size + 1, 2, none⟩ (.bool ((by_ : Int) == 1)))) := K3'.out.set (by simp) 2 _
  have R4 : Hid (Blk (w3.setCell ⟨w.heap.size + 1, 2, none⟩ (.bool ((by_ : Int) == 1))) R (rdV ⟨ad, len, cap, l⟩ (q2 : Int) fl k p e s t v) 161) := R3'.out.other (by omega) 2 _
  have D4 : Hid (Blk (w3.setCell ⟨w.heap.size + 1, 2, none⟩ (.bool ((by_ : Int) == 1))) (w.heap.size + 1) #[.string tk, .string tv, .bool ((by_ : Int) == 1)] 43) := D3'.out.set 2 _
  have O4 : Hid (OwnR (w3.setCell ⟨w.heap.size + 1, 2, none⟩ (.bool ((by_ : Int) == 1))) N v rs) := ownR_set O3.out hne2 2 _
  have x8 := R4.out.cell 8
  have u0 := D4.out.cell 0
  have u1 := D4.out.cell 1
  have u2 := D4.out.cell 2
  simp [rdV] at x8 u0 u1 u2
  have hsz4 : Hid ((w3.setCell ⟨w.heap.size + 1, 2, none⟩ (.bool ((by_ : Int) == 1))).heap.size = w3.heap.size) := by
    show _ = _
    simp [World.setCell]
  have hN3 : N ≤ w3.heap.size := Nat.le_trans (Nat.le_trans hN (Nat.le_of_lt hlR)) (by have := K3'.out.size; simp at this; omega)
  have ba5 : Below (w3.setCell ⟨w.heap.size + 1, 2, none⟩ (.bool ((by_ : Int) == 1))).heap.size (w3.setCell ⟨w.heap.size + 1, 2, none⟩ (.bool ((by_ : Int) == 1))) ((w3.setCell ⟨w.heap.size + 1, 2, none⟩ (.bool ((by_ : Int) == 1))).drew.alloc (.cells #[.string tk, .string tv, .bool ((by_ : Int) == 1)] 43)) := drew_alloc _ _
  have O5 : Hid (OwnR ((w3.setCell ⟨w.heap.size + 1, 2, none⟩ (.bool ((by_ : Int) == 1))).drew.alloc (.cells #[.string tk, .string tv, .bool ((by_ : Int) == 1)] 43)) N v rs) := O4.out.later ba5
  have K5 : Hid (But [R, w.heap.size, w.heap.size + 1] ((w.alloc (.cells #[.int .i64 0] 3)).alloc (.cells #[.string ⟨#[]⟩, .string ⟨#[]⟩, .bool false] 43)) ((w3.setCell ⟨w.heap.size + 1, 2, none⟩ (.bool ((by_ : Int) == 1))).drew.alloc (.cells #[.string tk, .string tv, .bool ((by_ : Int) == 1)] 43))) := K4.out.trans (But.of ba5)
  have R5 : Hid (Blk ((w3.setCell ⟨w.heap.size + 1, 2, none⟩ (.bool ((by_ : Int) == 1))).drew.alloc (.cells #[.string tk, .string tv, .bool ((by_ : Int) == 1)] 43)) R (rdV ⟨ad, len, cap, l⟩ (q2 : Int) fl k p e s t v) 161) := R4.out.later ba5
  have S5 : Hid (RRow ((w3.setCell ⟨w.heap.size + 1, 2, none⟩ (.bool ((by_ : Int) == 1))).drew.alloc (.cells #[.string tk, .string tv, .bool ((by_ : Int) == 1)] 43)) (some ⟨w3.heap.size, 0, none⟩) [⟨tk, tv, (by_ : Int) == 1⟩]) := by
    have h := one_rec (w3.setCell ⟨w.heap.size + 1, 2, none⟩ (.bool ((by_ : Int) == 1))).drew ⟨tk, tv, (by_ : Int) == 1⟩
    rw [show (w3.setCell ⟨w.heap.size + 1, 2, none⟩ (.bool ((by_ : Int) == 1))).drew.heap.size = w3.heap.size from hsz4.out] at h
    exact h
  clear ba5 K3' R3' C3' D3' O3
  have D5 : Hid (Blk ((w3.setCell ⟨w.heap.size + 1, 2, none⟩ (.bool ((by_ : Int) == 1))).drew.alloc (.cells #[.string tk, .string tv, .bool ((by_ : Int) == 1)] 43)) (w.heap.size + 1) #[.string tk, .string tv, .bool ((by_ : Int) == 1)] 43) := D4.out.later (drew_alloc _ _)
  have x85 := (R5.out.cell 8).trans (show _ = some v from rfl)
  have hk1 := And.intro ((D5.out.cell 0).trans (show _ = some (Value.string tk) from rfl)) (And.intro ((D5.out.cell 1).trans (show _ = some (Value.string tv) from rfl)) ((D5.out.cell 2).trans (show _ = some (Value.bool ((by_ : Int) == 1)) from rfl)))
  go_wp2_with fail
  go_region_law ((refine step_app_recs (by rfl) _ _ (by rfl) N v rs (by rfl) O5.out ⟨w3.heap.size, 0, none⟩ 1 1 [⟨tk, tv, (by_ : Int) == 1⟩] (by rfl) rfl S5.out (by omega) (by simp [World.setCell]; omega) ?_; intro v6 w6 O6 hg6; obtain ⟨a6, c6, hv6, -⟩ := O6.form; obtain ⟨m6, hm6⟩ : ∃ m, (rs ++ [⟨tk, tv, (by_ : Int) == 1⟩] : List Rec).length = m := ⟨_, rfl⟩; rw [hm6] at hv6; clear hm6; subst hv6; have D6 : Hid (Blk w6 (w.heap.size + 1) #[.string tk, .string tv, .bool ((by_ : Int) == 1)] 43) := D5.out.grown hg6 (fun e => hne2 e.symm); have R6 : Hid (Blk w6 R (rdV ⟨ad, len, cap, l⟩ (q2 : Int) fl k p e s t v) 161) := R5.out.grown hg6 (fun e => hneR e.symm); have hk2 := And.intro ((D6.out.cell 0).trans (show _ = some (Value.string tk) from rfl)) (And.intro ((D6.out.cell 1).trans (show _ = some (Value.string tv) from rfl)) ((D6.out.cell 2).trans (show _ = some (Value.bool ((by_ : Int) == 1)) from rfl))); have D7 := D6.out.other (C := R) (by omega) 8 (.slice a6 m6 c6); have hk3 := And.intro ((D7.cell 0).trans (show _ = some (Value.string tk) from rfl)) (And.intro ((D7.cell 1).trans (show _ = some (Value.string tv) from rfl)) ((D7.cell 2).trans (show _ = some (Value.bool ((by_ : Int) == 1)) from rfl))); have f8 := R6.out.free 8; have x86 := (R6.out.cell 8).trans (show _ = some v from rfl); have B6 : Hid (Below N w w6) := B0.out.trans ((HB.out _ K5.out).grown hg6 (by simp; omega) (fun k hk => (ownR_lt O5.out k hk).1)); have O6' : Hid (OwnR w6 N (.slice a6 m6 c6) (rs ++ [⟨tk, tv, (by_ : Int) == 1⟩])) := O6; clear D7 hg6 O6))
  all_goals go_wp2
  all_goals go_ret
  all_goals exact ⟨_, rfl, R6.out.set 8 _, by rw [← int_one]; exact ownR_set O6'.out (ownR_typed O6'.out R6.out (by decide)) 8 _, B6.out.setCell (p := ⟨R, 8, none⟩) hN _⟩
end Go.Proofs.YtfgamkcnnijloaaGreat
namespace Go.Proofs.YtfgamkcnnijloaaGreat
open Go.RowKit

variable {R : Nat} {P : Part} {q : Nat} {fl k p e s : Int} {t : Bool} {v : Value} {w : World}
theorem bkind_any (hR : Blk w R (rdV P q fl k p e s t v) 161) (hp : P.ok w) (hlc : P.len ≤ P.cap) (hm : P.len ≤ 1000000000000000) (hq : q ≤ P.len) :
    Calls Tryz.prog 93 #[.pointer (some ⟨R, 0, none⟩)] w fun x w' => x = .returned (.int .i64 (getN P.l q (1 : Nat)).2.2) ∧ Blk w' R (rdV P (getN P.l q (1 : Nat)).2.1 fl (getN P.l q (1 : Nat)).1 p e s t v) 161 ∧ But [R] w w' := by
  obtain ⟨ad, len, cap, l⟩ := P
  have HC := bnumber_in R 3 _ ad len cap l q 1 k w hR rfl rfl rfl (by omega) hp hlc hm (by simp only at hq hm; omega)
  clear hR hp
  go_enter Tryz.func93, Tryz.ntmps93
  go_wp2_with (go_at_call 120; refine HC.mono ?_; rintro x w1 ⟨rfl, R1, K1⟩)
  go_ret
  exact ⟨rfl, R1, K1⟩
theorem bepoch_any (hR : Blk w R (rdV P q fl k p e s t v) 161) (hp : P.ok w) (hlc : P.len ≤ P.cap) (hm : P.len ≤ 1000000000000000) (hq : q ≤ P.len) :
    Calls Tryz.prog 96 #[.pointer (some ⟨R, 0, none⟩)] w fun x w' => x = .returned (.int .i64 (getN P.l q (4 : Nat)).2.2) ∧ Blk w' R (rdV P (getN P.l q (4 : Nat)).2.1 fl k p (getN P.l q (4 : Nat)).1 s t v) 161 ∧ But [R] w w' := by
  obtain ⟨ad, len, cap, l⟩ := P
  have HC := bnumber_in R 5 _ ad len cap l q 4 e w hR rfl rfl rfl (by omega) hp hlc hm (by simp only at hq hm; omega)
  clear hR hp
  go_enter Tryz.func96, Tryz.ntmps96
  go_wp2_with (go_at_call 120; refine HC.mono ?_; rintro x w1 ⟨rfl, R1, K1⟩)
  go_ret
  exact ⟨rfl, R1, K1⟩
theorem bseq_any (hR : Blk w R (rdV P q fl k p e s t v) 161) (hp : P.ok w) (hlc : P.len ≤ P.cap) (hm : P.len ≤ 1000000000000000) (hq : q ≤ P.len) :
    Calls Tryz.prog 97 #[.pointer (some ⟨R, 0, none⟩)] w fun x w' => x = .returned (.int .i64 (getN P.l q (4 : Nat)).2.2) ∧ Blk w' R (rdV P (getN P.l q (4 : Nat)).2.1 fl k p e (getN P.l q (4 : Nat)).1 t v) 161 ∧ But [R] w w' := by
  obtain ⟨ad, len, cap, l⟩ := P
  have HC := bnumber_in R 6 _ ad len cap l q 4 s w hR rfl rfl rfl (by omega) hp hlc hm (by simp only at hq hm; omega)
  clear hR hp
  go_enter Tryz.func97, Tryz.ntmps97
  go_wp2_with (go_at_call 120; refine HC.mono ?_; rintro x w1 ⟨rfl, R1, K1⟩)
  go_ret
  exact ⟨rfl, R1, K1⟩
theorem bflag_any (hR : Blk w R (rdV P q fl k p e s t v) 161) (hp : P.ok w) (hlc : P.len ≤ P.cap) (hm : P.len ≤ 1000000000000000) (hq : q ≤ P.len) :
    Calls Tryz.prog 94 #[.pointer (some ⟨R, 0, none⟩)] w fun x w' => x = .returned (.int .i64 (getN P.l q (1 : Nat)).2.2) ∧ Blk w' R (rdV P (getN P.l q (1 : Nat)).2.1 (getN P.l q (1 : Nat)).1 k p e s (bits .and .i64 (getN P.l q (1 : Nat)).1 2 != 0) v) 161 ∧ But [R] w w' := by
  obtain ⟨ad, len, cap, l⟩ := P
  have HC := bnumber_in R 2 _ ad len cap l q 1 fl w hR rfl rfl rfl (by omega) hp hlc hm (by simp only at hq hm; omega)
  clear hR hp
  simp only at HC ⊢
  generalize getN l q ((1 : Nat) : Int) = g at *
  obtain ⟨g1, g2, g3⟩ := g
  simp only at HC ⊢
  go_enter Tryz.func94, Tryz.ntmps94
  go_wp2_with (go_at_call 120; refine HC.mono ?_; rintro x w1 ⟨rfl, R1, K1⟩; have R1' : Hid (Blk w1 R (rdV ⟨ad, len, cap, l⟩ g2 g1 k p e s t v) 161) := R1; have c2 := R1'.out.cell 2; have c7 := R1'.out.cell 7; have f7 := R1'.out.free 7; simp [rdV] at c2 c7; clear R1)
  go_ret
  exact ⟨rfl, R1'.out.set 7 _, K1.set (by simp) 7 _⟩
theorem bproducer_any (hR : Blk w R (rdV P q fl k p e s t v) 161) (hp : P.ok w) (hlc : P.len ≤ P.cap) (hm : P.len ≤ 1000000000000000) (hq : q ≤ P.len) :
    Calls Tryz.prog 95 #[.pointer (some ⟨R, 0, none⟩)] w fun x w' => x = .returned (.int .i64 (getN P.l q (6 : Nat)).2.2) ∧ Blk w' R (rdV P (getN P.l q (6 : Nat)).2.1 fl k (if bits .and .i64 fl 1 == 0 then -1 else (getN P.l q (6 : Nat)).1) e s t v) 161 ∧ But [R] w w' := by
  obtain ⟨ad, len, cap, l⟩ := P
  have HC := bnumber_in R 4 _ ad len cap l q 6 p w hR rfl rfl rfl (by omega) hp hlc hm (by simp only at hq hm; omega)
  clear hR hp
  simp only at HC ⊢
  generalize getN l q ((6 : Nat) : Int) = g at *
  obtain ⟨g1, g2, g3⟩ := g
  simp only at HC ⊢
  cases hb : bits .and .i64 fl 1 == 0
  all_goals
    go_enter Tryz.func95, Tryz.ntmps95
    go_wp2_with (go_at_call 120; refine HC.mono ?_; rintro x w1 ⟨rfl, R1, K1⟩; have R1' : Hid (Blk w1 R (rdV ⟨ad, len, cap, l⟩ g2 fl k g1 e s t v) 161) := R1; have c2 := R1'.out.cell 2; have c4 := R1'.out.cell 4; have f4 := R1'.out.free 4; simp [rdV] at c2 c4; clear R1)
    go_ret
    first | exact ⟨rfl, R1'.out, K1⟩ | exact ⟨rfl, R1'.out.set 4 _, K1.set (by simp) 4 _⟩
end Go.Proofs.YtfgamkcnnijloaaGreat
namespace Go.Proofs.YtfgamkcnnijloaaGreat
open Go.RowKit

theorem one_box (w : World) : Blk (w.alloc (.cells #[.int .i64 0] 3)) w.heap.size #[.int .i64 0] 3 := heap_alloc_new _ _
/-- What has been read so far: a prefix of what is to be read. -/
theorem readN1_le (l : List Nat) (p n m : Nat) (h : n ≤ m) (hm : (readN1 l p m).isSome = true) : (readN1 l p n).isSome = true := by
  induction m with
  | zero =>
    obtain rfl : n = 0 := by omega
    exact hm
  | succ m ih =>
    by_cases e : n = m + 1
    · subst e; exact hm
    · apply ih (by omega)
      rw [readN1] at hm
      cases h1 : readN1 l p m with
      | none => rw [h1] at hm; cases hm
      | some x => rfl
theorem readN1_none_le (l : List Nat) (p n m : Nat) (h : n ≤ m) (hn : readN1 l p n = none) : readN1 l p m = none := by
  cases hm : readN1 l p m with
  | none => rfl
  | some x =>
    have h2 := readN1_le l p n m h (by rw [hm]; rfl)
    rw [hn] at h2; cases h2
theorem recAt1_bound {l : List Nat} {p q : Nat} {r : Rec} (h : recAt1 l p = some (r, q)) : q ≤ l.length := by
  by_cases h1 : p + 3 + lenAt l (p + 1) ≤ l.length
  · by_cases h2 : p + 3 + lenAt l (p + 1) + 2 + lenAt l (p + 3 + lenAt l (p + 1)) ≤ l.length
    · rw [recAt_some h1 h2] at h
      have e := (Prod.mk.inj (Option.some.inj h)).2
      omega
    · rw [recAt_none2 h2] at h; cases h
  · rw [recAt_none1 h1] at h; cases h
theorem readN1_bound {l : List Nat} {p n q : Nat} {rs : List Rec} (hp : p ≤ l.length) (h : readN1 l p n = some (rs, q)) : q ≤ l.length ∧ rs.length = n := by
  induction n generalizing rs q with
  | zero =>
    rw [readN1] at h
    cases h
    exact ⟨hp, rfl⟩
  | succ n ih =>
    rw [readN1] at h
    cases h1 : readN1 l p n with
    | none => rw [h1] at h; cases h
    | some x =>
      obtain ⟨ss, q1⟩ := x
      rw [h1] at h
      simp only at h
      cases h2 : recAt1 l q1 with
      | none => rw [h2] at h; cases h
      | some y =>
        obtain ⟨r, q2⟩ := y
        rw [h2] at h
        simp only [Option.some.injEq, Prod.mk.injEq] at h
        obtain ⟨rfl, rfl⟩ := h
        exact ⟨recAt1_bound h2, by simp [(ih h1).2]⟩
theorem told_lt (l : List Nat) (h : ∀ x ∈ l, x < 256) : toldRecs l < 65536 := by
  unfold toldRecs
  have h1 : ∀ x ∈ (l.drop 16).take 2, x < 256 := drop_take_lt h 16 2
  have h2 : ((l.drop 16).take 2).length ≤ 2 := by simp; omega
  generalize (l.drop 16).take 2 = m at *
  rcases m with _ | ⟨a, _ | ⟨b, _ | ⟨c, m⟩⟩⟩
  · simp [valN]
  · have := h1 a (by simp)
    simp [valN]; omega
  · have ha := h1 a (by simp)
    have hb := h1 b (by simp)
    simp [valN]; omega
  · simp at h2
set_option maxRecDepth 100000 in
set_option maxHeartbeats 2000000 in
theorem brecords_any (R : Nat) (P : Part) (fl k p e s : Int) (t : Bool) (w : World) (N : Nat) (hR : Blk w R (rdV P 16 fl k p e s t (.slice none 0 0)) 161) (hN : N ≤ R) (hp : P.ok w) (hPb : ∀ b off, P.ad = some ⟨b, off, none⟩ → b < N) (hlc : P.len ≤ P.cap) (hm : P.len ≤ 1000000000000000) (hq : 18 ≤ P.len) :
    Calls Tryz.prog 98 #[.pointer (some ⟨R, 0, none⟩)] w fun x w' => (readN1 P.l 18 (toldRecs P.l) = none ∧ x = .returned (.int .i64 20) ∧ Below N w w') ∨ ∃ rs q v', readN1 P.l 18 (toldRecs P.l) = some (rs, q) ∧ x = .returned (.int .i64 0) ∧ Blk w' R (rdV P (q : Nat) fl k p e s t v') 161 ∧ OwnR w' N v' rs ∧ Below N w w' := by
  obtain ⟨ad, len, cap, l⟩ := P
  simp only at hlc hm hq hPb
  have HLn : Hid (l.length = len) := hp.1
  have hlR := hR.lt
  have b0 : Below w.heap.size w (w.alloc (.cells #[.int .i64 0] 3)) := (Below.refl _ _).alloc (Nat.le_refl _) _
  have R0 : Hid (Blk (w.alloc (.cells #[.int .i64 0] 3)) R (rdV ⟨ad, len, cap, l⟩ ((16 : Nat) : Int) fl k p e s t (.slice none 0 0)) 161) := hR.later b0
  have C0 : Hid (Blk (w.alloc (.cells #[.int .i64 0] 3)) w.heap.size #[.int .i64 0] 3) := one_box w
  have P0 : Hid (Part.ok (w.alloc (.cells #[.int .i64 0] 3)) ⟨ad, len, cap, l⟩) := hp.later b0
  have B0 : Hid (Below N w (w.alloc (.cells #[.int .i64 0] 3))) := b0.mono (by omega)
  have HPb : Hid (∀ b off, ad = some ⟨b, off, none⟩ → b < N) := hPb
  have nR : w.heap.size ≠ R := by omega
  have ht : toldRecs l < 65536 := told_lt l hp.2.2.1
  have g1 := getN_ok l 16 2 (by omega) (by rw [HLn.out]; omega)
  have HC1 := bnumber_out R w.heap.size (rdV ⟨ad, len, cap, l⟩ ((16 : Nat) : Int) fl k p e s t (.slice none 0 0)) #[.int .i64 0] 3 ad len cap l 16 2 0 (w.alloc (.cells #[.int .i64 0] 3)) R0.out rfl rfl C0.out rfl nR P0.out hlc hm (by omega)
  rw [g1] at HC1
  have HT : Hid (valN ((l.drop 16).take 2) = toldRecs l) := rfl
  rw [HT.out] at HC1
  simp only at HC1
  obtain ⟨M, hM⟩ : ∃ M, toldRecs l = M := ⟨_, rfl⟩
  rw [hM] at HC1 ht ⊢
  have HP : Hid (Part.ok w ⟨ad, len, cap, l⟩) := hp
  clear hR hp hPb g1 hM HT
  go_enter Tryz.func98, Tryz.ntmps98
  go_wp2_with fail
  refine HC1.mono ?_
  rintro x w1 ⟨rfl, R1, C1, K1⟩
  have R1' : Hid (Blk w1 R (rdV ⟨ad, len, cap, l⟩ ((18 : Nat) : Int) fl k p e s t (.slice none 0 0)) 161) := R1
  have C1' : Hid (Blk w1 w.heap.size #[.int .i64 M] 3) := C1
  have B1 : Hid (Below N w w1) := B0.out.trans (K1.below (by intro k hk; simp at hk; omega) (by simp; omega))
  have y0 := C1'.out.cell 0
  simp at y0
  clear R1 C1 K1 HC1
  go_wp2_with fail
  clear y0 C1'
  go_loopw [12] (fun i wr => ∃ (j : Nat) (rs : List Rec) (q : Nat) (v : Value), j ≤ M ∧ i = .int .i64 j ∧ Hid (readN1 l 18 j = some (rs, q)) ∧ Hid (Blk wr R (rdV ⟨ad, len, cap, l⟩ (q : Int) fl k p e s t v) 161) ∧ Hid (OwnR wr N v rs) ∧ Hid (Below N w wr)) (fun i _ => M - (intOf i).toNat)
  case atStart => exact ⟨0, [], 18, .slice none 0 0, Nat.zero_le _, rfl, (show Hid _ from rfl), R1', (show Hid _ from World.ownsRow_nil _ _ _ _), B1⟩
  case round =>
    clear R1' B1
    obtain ⟨j, rs, q, v, hj, rfl, HD, HR, HO, HB⟩ := hrel
    have hbd := readN1_bound (by rw [HLn.out]; exact hq) HD.out
    rw [HLn.out] at hbd
    have PP : Hid (Part.ok wr ⟨ad, len, cap, l⟩) := Part.below HP.out HB.out HPb.out
    by_cases hlt : j < M
    · cases h2 : recAt1 l q with
      | none =>
        have HC := brecord_end R ⟨ad, len, cap, l⟩ q fl k p e s t v wr N HR.out hN PP.out HPb.out hlc hm hbd.1 h2
        have HX : Hid (readN1 l 18 M = none) := readN1_none_le l 18 (j + 1) M hlt (by rw [readN1, HD.out]; simp only [h2])
        go_wp2_with (go_at_call 121; refine HC.mono ?_; rintro x w2 ⟨rfl, b2⟩)
        go_ret
        exact Or.inl ⟨HX.out, rfl, HB.out.trans b2⟩
      | some y =>
        obtain ⟨r, q2⟩ := y
        have HC := brecord_ok R ⟨ad, len, cap, l⟩ q fl k p e s t v wr N HR.out hN PP.out HPb.out hlc hm hbd.1 rs HO.out (by omega) r q2 h2
        have HX : Hid (readN1 l 18 (j + 1) = some (rs ++ [r], q2)) := by
          show _ = _
          rw [readN1, HD.out]; simp only [h2]
        go_wp2_with (go_at_call 121; refine HC.mono ?_; rintro x w2 ⟨v2, rfl, R2, O2, b2⟩; have R2' : Hid (Blk w2 R (rdV ⟨ad, len, cap, l⟩ (q2 : Int) fl k p e s t v2) 161) := R2; have O2' : Hid (OwnR w2 N v2 (rs ++ [r])) := O2; have B2 : Hid (Below N w w2) := HB.out.trans b2; clear R2 O2 b2)
        go_roundw
        case rel => exact ⟨j + 1, rs ++ [r], q2, v2, by omega, by go_num, HX, R2', O2', B2⟩
        case measure => simp [intOf]; omega
    · obtain rfl : j = M := by omega
      go_wp2
      go_ret
      exact Or.inr ⟨rs, q, v, HD.out, rfl, HR.out, HO.out, HB.out⟩
theorem brecords_none (R : Nat) (P : Part) (fl k p e s : Int) (t : Bool) (w : World) (N : Nat) (hR : Blk w R (rdV P 16 fl k p e s t (.slice none 0 0)) 161) (hN : N ≤ R) (hp : P.ok w) (hPb : ∀ b off, P.ad = some ⟨b, off, none⟩ → b < N) (hlc : P.len ≤ P.cap) (hm : P.len ≤ 1000000000000000) (hq : 18 ≤ P.len) (h : readN1 P.l 18 (toldRecs P.l) = none) :
    Calls Tryz.prog 98 #[.pointer (some ⟨R, 0, none⟩)] w fun x w' => x = .returned (.int .i64 20) ∧ Below N w w' := by
  refine (brecords_any R P fl k p e s t w N hR hN hp hPb hlc hm hq).mono ?_
  rintro x w' (⟨-, rfl, hb⟩ | ⟨rs, q, v', h2, -⟩)
  · exact ⟨rfl, hb⟩
  · rw [h] at h2; cases h2
theorem brecords_some (R : Nat) (P : Part) (fl k p e s : Int) (t : Bool) (w : World) (N : Nat) (hR : Blk w R (rdV P 16 fl k p e s t (.slice none 0 0)) 161) (hN : N ≤ R) (hp : P.ok w) (hPb : ∀ b off, P.ad = some ⟨b, off, none⟩ → b < N) (hlc : P.len ≤ P.cap) (hm : P.len ≤ 1000000000000000) (hq : 18 ≤ P.len) (rs : List Rec) (q : Nat) (h : readN1 P.l 18 (toldRecs P.l) = some (rs, q)) :
    Calls Tryz.prog 98 #[.pointer (some ⟨R, 0, none⟩)] w fun x w' => ∃ v', x = .returned (.int .i64 0) ∧ Blk w' R (rdV P (q : Nat) fl k p e s t v') 161 ∧ OwnR w' N v' rs ∧ Below N w w' := by
  refine (brecords_any R P fl k p e s t w N hR hN hp hPb hlc hm hq).mono ?_
  rintro x w' (⟨h2, -⟩ | ⟨rs2, q2, v', h2, rfl, h3, h4, h5⟩)
  · rw [h] at h2; cases h2
  · rw [h] at h2
    cases h2
    exact ⟨v', rfl, h3, h4, h5⟩
set_option maxRecDepth 100000 in
theorem brecords_short (R : Nat) (P : Part) (fl k p e s : Int) (t : Bool) (w : World) (N : Nat) (hR : Blk w R (rdV P 16 fl k p e s t (.slice none 0 0)) 161) (hN : N ≤ R) (hp : P.ok w) (hlc : P.len ≤ P.cap) (hm : P.len ≤ 1000000000000000) (hq : ¬ 18 ≤ P.len) :
    Calls Tryz.prog 98 #[.pointer (some ⟨R, 0, none⟩)] w fun x w' => x = .returned (.int .i64 20) ∧ Below N w w' := by
  obtain ⟨ad, len, cap, l⟩ := P
  simp only at hlc hm hq
  have HLn : Hid (l.length = len) := hp.1
  have hlR := hR.lt
  have b0 : Below w.heap.size w (w.alloc (.cells #[.int .i64 0] 3)) := (Below.refl _ _).alloc (Nat.le_refl _) _
  have R0 : Hid (Blk (w.alloc (.cells #[.int .i64 0] 3)) R (rdV ⟨ad, len, cap, l⟩ ((16 : Nat) : Int) fl k p e s t (.slice none 0 0)) 161) := hR.later b0
  have C0 : Hid (Blk (w.alloc (.cells #[.int .i64 0] 3)) w.heap.size #[.int .i64 0] 3) := one_box w
  have P0 : Hid (Part.ok (w.alloc (.cells #[.int .i64 0] 3)) ⟨ad, len, cap, l⟩) := hp.later b0
  have B0 : Hid (Below N w (w.alloc (.cells #[.int .i64 0] 3))) := b0.mono (by omega)
  have nR : w.heap.size ≠ R := by omega
  have g1 := getN_end l 16 2 (by omega) (by rw [HLn.out]; omega)
  have HC1 := bnumber_out R w.heap.size (rdV ⟨ad, len, cap, l⟩ ((16 : Nat) : Int) fl k p e s t (.slice none 0 0)) #[.int .i64 0] 3 ad len cap l 16 2 0 (w.alloc (.cells #[.int .i64 0] 3)) R0.out rfl rfl C0.out rfl nR P0.out hlc hm (by omega)
  rw [show getN l ((16 : Nat) : Int) ((2 : Nat) : Int) = (0, 0, 20) from g1] at HC1
  clear hR hp g1
  go_enter Tryz.func98, Tryz.ntmps98
  go_wp2_with (go_at_call 120; refine HC1.mono ?_; rintro x w1 ⟨rfl, R1, C1, K1⟩; have B1 : Hid (Below N w w1) := B0.out.trans (K1.below (by intro k hk; simp at hk; omega) (by simp; omega)); clear R1 C1 K1)
  go_ret
  exact ⟨rfl, B1.out⟩
end Go.Proofs.YtfgamkcnnijloaaGreat
