/- own of the statements of layer 14: shares as the program has them (by genown14.py). -/
import Derived.Test.YtopbmopfahjhlaaASame
import Derived.Deep.RegionHeld3
import Derived.OrdersHeld
namespace Go.Proofs.Ytopbmopfahjhlaa
open Go.RowKit
variable {w w' : World} {ra : Option Addr} {rm rc : Nat} {B : List ShA} {Q : List (List Int)}

theorem emptyZ_own (W : World) : OwnK kZ (W.alloc (.cells #[] 3)).drew W.heap.size (.slice (some ⟨W.heap.size, 0, none⟩) 0 0) [] :=
  ⟨rfl, Or.inr ⟨W.heap.size, 0, #[], rfl, Nat.le_refl _, (show (W.alloc (.cells #[] 3)).heap[W.heap.size]? = _ from heap_alloc_new W _), Nat.le_refl _, by unfold maxLen; omega, rfl, rfl⟩⟩
theorem own_step {W W3 : World} {v : Value} (h : OwnK kZ (W.alloc (.cells #[] 3)).drew W.heap.size v []) (hg : ((W.alloc (.cells #[] 3)).drew).grownBy W3 v.ownBlock) : Below W.heap.size W W3 := by
  refine (((Below.refl _ W).alloc (Nat.le_refl _) (.cells #[] 3)).drew).grown hg (by simp [World.drew]) (fun k hk => (h.block k hk).1)
theorem share_row (Y : World) (nm : Nm) (ns : ByteArray) (h : nmS nm = ns) (s : Sl) : RowK kSh (Y.alloc (.cells #[.string ns, .slice s.ad s.m s.c] 39)) (some ⟨Y.heap.size, 0, none⟩) [(nm, s)] := by
  subst h
  refine Or.inr ⟨_, 0, rfl, by simp, fun i hi c hc => ?_⟩
  obtain rfl : i = 0 := by simp at hi; omega
  have hb : Blk (Y.alloc (.cells #[.string (nmS nm), .slice s.ad s.m s.c] 39)) Y.heap.size _ _ := heap_alloc_new Y _
  have : kSh.sz = 2 := rfl
  rw [Nat.zero_mul, Nat.zero_add, hb.cell c]
  rcases (show c = 0 ∨ c = 1 by omega) with rfl | rfl <;> rfl
/-- 'append(v, x...)', v of the call's own, x anywhere, as one step of a region that draws its order. -/
theorem step_app_arg {ops : Array Oper} {o : Oper} {a : Act} {Kn : Act → World → Prop} {Qx : Exit → Act → World → Prop} {E : Prop} (hgd : o.guard = none) (s x : Operand)
    (ho : o.op = .call { callee := .builtin .append, args := #[s, x], argTypes := #[37, 37] })
    (base : Nat) (v : Value) (L got : List Int) (hs : a.eval s = v) (hown : OwnK kZ w base v L) {ad : Option Addr} {m c : Nat} (hx : a.eval x = .slice ad m c) (hgot : ArgK kZ w got ad m c)
    (hlen : (L.length + m) * 8 ≤ 140737488355328) (hbase : base ≤ w.heap.size)
    (h : ∀ (s' : Sl) w', s'.m = L.length + m → OwnK kZ w' base s'.v (L ++ got) → w.grownBy w' v.ownBlock → (∀ g, s'.v.ownBlock = some g → v.ownBlock = some g ∨ w.heap.size ≤ g) → Kn (a.put o.dst s'.v) w') :
    if Region.wanted o (yielded ops a.tmps) = true then Oper.wp Try.prog o a w Kn Qx else E := by
  have hw : Region.wanted o (yielded ops a.tmps) = true := by simp [Region.wanted, hgd]
  rw [if_pos hw]
  obtain ⟨i0, hi, hz0, hz1, hz2⟩ := info_parts kZ_ok.info
  have hund : Try.prog.underlying 37 = some (.slice 3) := kZ_ok.und
  have hgl := hgot.len
  have hsame : m = 0 → (Builtin.append_ #[37, 37] o.type #[v, .slice ad m c]).run Try.prog w = .ok v w → Oper.wp Try.prog o a w Kn Qx := fun h0 hr => by
    obtain ⟨ad', c', e, -⟩ := hown.form kZ_ok.tofit
    have hg0 : got = [] := List.eq_nil_of_length_eq_zero (by omega)
    have hk := h ⟨ad', L.length, c'⟩ w (by rw [h0]; rfl) (by rw [hg0, List.append_nil]; rw [e] at hown; exact hown) (World.grownBy.refl _ _) (fun g hg => Or.inl (by rw [e]; exact hg))
    unfold Oper.wp
    simp only [execOp, ho, resolve, invoke, builtin, Sem.run_bind, Sem.run_pure, Result.andThen_ok, List.map_toArray, List.map_cons, List.map_nil, hs, hx, hr]
    rw [e]
    exact hk
  by_cases h0 : m = 0
  · subst h0
    cases ad with
    | none =>
      obtain ⟨-, rfl⟩ := hgot.nil rfl
      exact hsame rfl (run_append_owned_none (P := Try.prog) (w := w) base _ _ _ i0 1 hund hi v _ _ hown)
    | some x0 => exact hsame rfl (run_app_empty hund hi hown)
  · obtain ⟨b, off, rfl, hb, hc⟩ := hgot.cells (by omega)
    refine wp_append_lies w s x 37 ho base 3 i0 _ 1 8 hund hi hz0 hz1 hz2 rfl (by decide) v L.length _ hs hown ⟨b, off, none⟩ m c (kZ.Vs got) hx (by rw [kZ_ok.tofit.Vs_len, hgl]) (hgot.row.cells kZ_ok.tofit _ rfl) (kZ_ok.Vs_ones _) (by omega) (by unfold maxLen; omega) hlen hbase w.heap.size rfl ?_
    intro b' cap' w' h1 h2 h3 _
    refine h ⟨some ⟨b', 0, none⟩, L.length + m, cap'⟩ w' rfl ?_ h2 (fun g' hg' => ?_)
    · unfold OwnK
      rw [List.length_append, Kd.Vs_append, hgl]
      exact h1
    · have : b' = g' := by cases hg'; rfl
      subst this
      rcases h3 with h3 | h3
      · exact Or.inl h3
      · exact Or.inr (by omega)
/-- One share more. -/
theorem Shs.more {W W3 W4 W5 : World} {base : Nat} {v v5 : Value} {A : List ShA} {P : List (List Int)} {nm : Nm} {s : Sl} {q : List Int} (h : Shs W base v A P) (hb : base ≤ W.heap.size) (h3 : Below W.heap.size W W3) (h4 : Below W3.heap.size W3 W4) (hO : OwnK kZ W3 W.heap.size s.v q) (hG : W4.grownBy W5 v.ownBlock) (h5 : OwnK kSh W5 base v5 (A ++ [(nm, s)])) : Shs W5 base v5 (A ++ [(nm, s)]) (P ++ [q]) := by
  have h04 := h3.trans (h4.mono h3.size)
  have hneP : ∀ i g, i < A.length → (A.getD i sh0).2.v.ownBlock = some g → v.ownBlock ≠ some g := fun i g hi hg e => by
    obtain ⟨cur, hgc⟩ := (h.row.block g e).2.2
    obtain ⟨cur2, h2⟩ := ((h.part i hi).block g hg).2.2
    have hgc' : W.heap[g]? = some (.cells cur 39 (0, 0)) := hgc
    rw [hgc'] at h2
    simp at h2
  have hl := h.len
  refine ⟨h5, by rw [List.length_append, List.length_append, hl]; rfl, fun i hi => ?_, fun i j g hi hj hij hg => ?_⟩
  · by_cases e : i < A.length
    · rw [getD_app_left _ _ _ _ e, getD_app_left _ _ _ _ (by omega)]
      have hp := h.part i e
      refine (hp.later h04).keep (fun g hg => hG.block g ?_ (fun e2 => hneP i g e hg e2.symm))
      have := (hp.block g hg).2.1
      have := h04.size
      omega
    · have e0 : i = A.length := by rw [List.length_append] at hi; simp at hi; omega
      rw [getD_app_last _ _ _ _ e0, getD_app_last _ _ _ _ (by omega)]
      refine ((hO.later h4).mono hb).keep (fun g hg => hG.block g ?_ (fun e2 => ?_))
      · have := (hO.block g hg).2.1
        have := h4.size
        omega
      · have h1 := (hO.block g hg).1
        have h2 := (h.row.block g e2.symm).2.1
        omega
  · by_cases ei : i < A.length
    · rw [getD_app_left _ _ _ _ ei] at hg
      by_cases ej : j < A.length
      · rw [getD_app_left _ _ _ _ ej]
        exact h.apart i j g ei ej hij hg
      · have e0 : j = A.length := by rw [List.length_append] at hj; simp at hj; omega
        rw [getD_app_last _ _ _ _ e0]
        intro hg2
        have h1 := ((h.part i ei).block g hg).2.1
        have h2 := (hO.block g hg2).1
        omega
    · have e0 : i = A.length := by rw [List.length_append] at hi; simp at hi; omega
      have ej : j < A.length := by rw [List.length_append] at hj; simp at hj; omega
      rw [getD_app_last _ _ _ _ e0] at hg
      rw [getD_app_left _ _ _ _ ej]
      intro hg2
      have h1 := ((h.part j ej).block g hg2).2.1
      have h2 := (hO.block g hg).1
      omega
/-- What own answers. -/
def OwnPost (w : World) (B : List ShA) (Q : List (List Int)) (rm : Nat) (e : Ending) (w' : World) : Prop := ∃ a c A, e = .returned (.slice a rm c) ∧ Shs w' w.heap.size (.slice a rm c) A Q ∧ A.map (·.1) = B.map (·.1) ∧ Below w.heap.size w w'
set_option maxRecDepth 20000 in
set_option maxHeartbeats 4000000 in
theorem ownL_any (h : ShV kR w B Q ra rm rc) (hby : rm * 40 ≤ 140737488351232) (hbq : ∀ i, i < B.length → (B.getD i sh0).2.m * 8 ≤ 140737488351232) :
    Calls Try.prog 13 #[.slice ra rm rc] w fun e w' => OwnPost w B Q rm e w' := by
  have HB := hid h
  have hl := h.row.len
  have HL := hid hl
  have hlq := h.len
  have HLq := hid hlq
  have HBq := hid hbq
  have hrm : rm ≤ 8796093022208 := by omega
  clear h hl hlq hbq
  go_enter Try.func13, Try.ntmps13
  go_wp2_with fail
  go_loopw [3, 4] (fun v iv wr => ∃ (i : Nat) (va : Option Addr) (vc : Nat) (A : List ShA), i ≤ rm ∧ iv = .int .i64 (i : Int) ∧ v = .slice va i vc ∧ w.heap.size ≤ wr.heap.size ∧ Hid (Shs wr w.heap.size (.slice va i vc) A (Q.take i)) ∧ Hid (A.map (·.1) = (B.map (·.1)).take i) ∧ Hid (Below w.heap.size w wr)) (fun _ iv _ => rm - (intOf iv).toNat)
  case atStart => exact ⟨0, none, 0, [], by omega, rfl, rfl, Nat.le_refl _, (by rw [List.take_zero]; exact ⟨OwnK.nil (K := kSh) w _, rfl, (fun i hi => by cases hi), (fun i j g hi => by cases hi)⟩), (by rw [List.take_zero]; exact rfl), Below.refl _ _⟩
  case round =>
    obtain ⟨i, va, vc, A, hi, rfl, rfl, hsz, HSh, HNm, HBl⟩ := hrel
    by_cases hlt : i < rm
    · have hB := HB.out.later HBl.out
      obtain ⟨b2, o2, rfl, hs0, -⟩ := HB.out.row.cells (by omega)
      obtain ⟨b3, o3, e3, hs2, hc2⟩ := hB.row.cells (by omega)
      cases e3
      have hiB : i < B.length := by rw [HL.out]; exact hlt
      have hpB := hB.part i hiB
      have hqb := HBq.out i hiB
      obtain ⟨y, hy⟩ : ∃ y, B.getD i sh0 = y := ⟨_, rfl⟩
      rw [hy] at hpB hqb
      obtain ⟨nm, xa, xm, xc⟩ := y
      dsimp only at hpB hqb
      have r0 : wr.cell? ⟨b2, o2 + i * 2, none⟩ = some (.string (nmS nm)) := by have h := hc2 i hlt 0 (by decide); rw [Nat.add_zero, show B.getD i kR.z = B.getD i sh0 from rfl, hy] at h; exact h
      have r1 : wr.cell? ⟨b2, o2 + i * 2 + 1, none⟩ = some (.slice xa xm xc) := by have h := hc2 i hlt 1 (by decide); rw [show B.getD i kR.z = B.getD i sh0 from rfl, hy] at h; exact h
      obtain ⟨ns, hns⟩ : ∃ ns, nmS nm = ns := ⟨_, rfl⟩
      rw [hns] at r0
      have HNs := hid hns
      obtain ⟨q, hq⟩ : ∃ q, Q.getD i [] = q := ⟨_, rfl⟩
      rw [hq] at hpB
      have HQ : Hid (∀ W, Below wr.heap.size wr W → ArgK kZ W q xa xm xc) := fun W hb => hpB.later hb
      have HQm : Hid ((0 + xm) * 8 ≤ 140737488355328) := by show _ ≤ _; omega
      have HS : Hid (∀ W, Below wr.heap.size wr W → W.cell? ⟨b2, o2 + i * 2, none⟩ = some (.string ns) ∧ W.cell? ⟨b2, o2 + i * 2 + 1, none⟩ = some (.slice xa xm xc)) := fun W hb => ⟨(hb.cell (p := ⟨b2, o2 + i * 2, none⟩) hs2).trans r0, (hb.cell (p := ⟨b2, o2 + i * 2 + 1, none⟩) hs2).trans r1⟩
      have HAl : Hid (A.length = i) := by have := congrArg List.length HNm.out; rw [List.length_map, List.length_take, List.length_map, HL.out] at this; show A.length = i; omega
      have HTq : Hid (Q.take (i + 1) = Q.take i ++ [q]) := by rw [take_snoc_any Q [] i (by rw [← HLq.out]; exact hiB), hq]; exact rfl
      have HTn : Hid ((B.map (·.1)).take (i + 1) = (B.map (·.1)).take i ++ [nm]) := by
        rw [take_snoc_any (B.map (·.1)) [] i (by rw [List.length_map]; exact hiB)]
        have : (B.map (·.1)).getD i [] = nm := by
          rw [List.getD_eq_getElem?_getD, List.getElem?_map, List.getElem?_eq_getElem hiB]
          rw [List.getD_eq_getElem?_getD, List.getElem?_eq_getElem hiB] at hy
          have hy' : B[i] = (nm, ⟨xa, xm, xc⟩) := hy
          show B[i].1 = nm
          rw [hy']
        rw [this]
        exact rfl
      have HFin : Hid (∀ (W3 W4 W5 : World) (s : Sl) (v5 : Value), Below wr.heap.size wr W3 → Below W3.heap.size W3 W4 → OwnK kZ W3 wr.heap.size s.v q → W4.grownBy W5 (Value.slice va i vc).ownBlock → OwnK kSh W5 w.heap.size v5 (A ++ [(nm, s)]) → (w.heap.size ≤ W5.heap.size ∧ (W5.cell? ⟨b2, o2 + i * 2, none⟩ = some (.string ns) ∧ W5.cell? ⟨b2, o2 + i * 2 + 1, none⟩ = some (.slice xa xm xc)) ∧ Shs W5 w.heap.size v5 (A ++ [(nm, s)]) (Q.take i ++ [q]) ∧ Below w.heap.size w W5)) := fun W3 W4 W5 s v5 h3 h4 hO hG h5 => by
        have hm := HSh.out.more hsz h3 h4 hO hG h5
        have h04 := h3.trans (h4.mono h3.size)
        have hb0 : Below w.heap.size wr W5 := (h04.mono hsz).grown hG (by have := h04.size; omega) (fun k hk => (HSh.out.row.block k hk).1)
        refine ⟨by have := hb0.size; omega, ⟨?_, ?_⟩, hm, HBl.out.trans hb0⟩
        · exact (hb0.cell (p := ⟨b2, o2 + i * 2, none⟩) hs0).trans r0
        · exact (hb0.cell (p := ⟨b2, o2 + i * 2 + 1, none⟩) hs0).trans r1
      clear hB hc2 hpB hy hq r0 r1 hns
      go_wp2_with fail
      refine wp_region_held_drew (S := fun W => W.cell? ⟨b2, o2 + i * 2, none⟩ = some (.string ns) ∧ W.cell? ⟨b2, o2 + i * 2 + 1, none⟩ = some (.slice xa xm xc)) (by kernel_rfl) (HS.out _ (Below.refl _ wr).drew) (fun hHeld => ?_)
      refine wpAnyH_take (i := 0) (oi := { dst := some 11, op := Op.move (Operand.tmp 3), type := 23, pos := "law.go:34", after := #[], guard := none }) (v := ?_) rfl (by kernel_rfl) (by kernel_rfl) (by kernel_rfl) (fun _ _ _ h => h) (Or.inl ⟨by rfl, ?_⟩) hHeld ?_
      rotate_left
      · intro w hSw; (try dsimp only at hSw); go_simp; try with_reducible rfl
      try simp only [Act.put, List.setIfInBounds_toArray, List.set_cons_zero, List.set_cons_succ]
      refine wpAnyH_take (i := 1) (oi := { dst := some 12, op := Op.move (Operand.tmp 0), type := 27, pos := "law.go:34", after := #[], guard := none }) (v := ?_) rfl (by kernel_rfl) (by kernel_rfl) (by kernel_rfl) (fun _ _ _ h => h) (Or.inl ⟨by rfl, ?_⟩) hHeld ?_
      rotate_left
      · intro w hSw; (try dsimp only at hSw); go_simp; try with_reducible rfl
      try simp only [Act.put, List.setIfInBounds_toArray, List.set_cons_zero, List.set_cons_succ]
      refine wpAnyH_take (i := 2) (oi := { dst := some 13, op := Op.move (Operand.tmp 4), type := 3, pos := "law.go:34", after := #[], guard := none }) (v := ?_) rfl (by kernel_rfl) (by kernel_rfl) (by kernel_rfl) (fun _ _ _ h => h) (Or.inl ⟨by rfl, ?_⟩) hHeld ?_
      rotate_left
      · intro w hSw; (try dsimp only at hSw); go_simp; try with_reducible rfl
      try simp only [Act.put, List.setIfInBounds_toArray, List.set_cons_zero, List.set_cons_succ]
      refine wpAnyH_take (i := 3) (oi := { dst := some 14, op := Op.indexAddr 27 (Operand.tmp 12) (Operand.tmp 13), type := 0, pos := "law.go:34", after := #[{ on := 1, ground := Ground.data }, { on := 2, ground := Ground.data }], guard := none }) (v := ?_) rfl (by kernel_rfl) (by kernel_rfl) (by kernel_rfl) (fun _ _ _ h => h) (Or.inl ⟨by rfl, ?_⟩) hHeld ?_
      rotate_left
      · intro w hSw; (try dsimp only at hSw); go_simp; try with_reducible rfl
      try simp only [Act.put, List.setIfInBounds_toArray, List.set_cons_zero, List.set_cons_succ]
      refine wpAnyH_take (i := 4) (oi := { dst := some 15, op := Op.fieldAddr 54 (Operand.tmp 14) 0, type := 0, pos := "law.go:34", after := #[{ on := 3, ground := Ground.data }], guard := none }) (v := ?_) rfl (by kernel_rfl) (by kernel_rfl) (by kernel_rfl) (fun _ _ _ h => h) (Or.inl ⟨by rfl, ?_⟩) hHeld ?_
      rotate_left
      · intro w hSw; (try dsimp only at hSw); go_simp; try with_reducible rfl
      try simp only [Act.put, List.setIfInBounds_toArray, List.set_cons_zero, List.set_cons_succ]
      refine wpAnyH_take (i := 5) (oi := { dst := some 16, op := Op.load 9 (Operand.tmp 15), type := 9, pos := "law.go:34", after := #[{ on := 4, ground := Ground.data }], guard := none }) (v := ?_) rfl (by kernel_rfl) (by kernel_rfl) (by kernel_rfl) (fun _ _ _ h => h) (Or.inl ⟨by rfl, ?_⟩) hHeld ?_
      rotate_left
      · intro w hSw; (try dsimp only at hSw); go_simp; try with_reducible rfl
      try simp only [Act.put, List.setIfInBounds_toArray, List.set_cons_zero, List.set_cons_succ]
      refine wpAnyH_take (i := 7) (oi := { dst := some 18, op := Op.move (Operand.tmp 0), type := 27, pos := "law.go:34", after := #[], guard := none }) (v := ?_) rfl (by kernel_rfl) (by kernel_rfl) (by kernel_rfl) (fun _ _ _ h => h) (Or.inl ⟨by rfl, ?_⟩) hHeld ?_
      rotate_left
      · intro w hSw; (try dsimp only at hSw); go_simp; try with_reducible rfl
      try simp only [Act.put, List.setIfInBounds_toArray, List.set_cons_zero, List.set_cons_succ]
      refine wpAnyH_take (i := 8) (oi := { dst := some 19, op := Op.move (Operand.tmp 4), type := 3, pos := "law.go:34", after := #[], guard := none }) (v := ?_) rfl (by kernel_rfl) (by kernel_rfl) (by kernel_rfl) (fun _ _ _ h => h) (Or.inl ⟨by rfl, ?_⟩) hHeld ?_
      rotate_left
      · intro w hSw; (try dsimp only at hSw); go_simp; try with_reducible rfl
      try simp only [Act.put, List.setIfInBounds_toArray, List.set_cons_zero, List.set_cons_succ]
      refine wpAnyH_take (i := 9) (oi := { dst := some 20, op := Op.indexAddr 27 (Operand.tmp 18) (Operand.tmp 19), type := 0, pos := "law.go:34", after := #[{ on := 7, ground := Ground.data }, { on := 8, ground := Ground.data }], guard := none }) (v := ?_) rfl (by kernel_rfl) (by kernel_rfl) (by kernel_rfl) (fun _ _ _ h => h) (Or.inl ⟨by rfl, ?_⟩) hHeld ?_
      rotate_left
      · intro w hSw; (try dsimp only at hSw); go_simp; try with_reducible rfl
      try simp only [Act.put, List.setIfInBounds_toArray, List.set_cons_zero, List.set_cons_succ]
      refine wpAnyH_take (i := 10) (oi := { dst := some 21, op := Op.fieldAddr 54 (Operand.tmp 20) 1, type := 0, pos := "law.go:34", after := #[{ on := 9, ground := Ground.data }], guard := none }) (v := ?_) rfl (by kernel_rfl) (by kernel_rfl) (by kernel_rfl) (fun _ _ _ h => h) (Or.inl ⟨by rfl, ?_⟩) hHeld ?_
      rotate_left
      · intro w hSw; (try dsimp only at hSw); go_simp; try with_reducible rfl
      try simp only [Act.put, List.setIfInBounds_toArray, List.set_cons_zero, List.set_cons_succ]
      refine wpAnyH_take (i := 11) (oi := { dst := some 22, op := Op.load 37 (Operand.tmp 21), type := 37, pos := "law.go:34", after := #[{ on := 10, ground := Ground.data }], guard := none }) (v := ?_) rfl (by kernel_rfl) (by kernel_rfl) (by kernel_rfl) (fun _ _ _ h => h) (Or.inl ⟨by rfl, ?_⟩) hHeld ?_
      rotate_left
      · intro w hSw; (try dsimp only at hSw); go_simp; try with_reducible rfl
      try simp only [Act.put, List.setIfInBounds_toArray, List.set_cons_zero, List.set_cons_succ]
      refine wpAnyH_ready (rs := [6]) (by kernel_rfl) (by simp) ?_
      refine AllReadyH.cons rfl (fun K hK => ?_) (AllReadyH.nil)
      go_simp
      refine hK.out _ _ (HS.out _ ((Below.refl _ wr).alloc (Nat.le_refl _) (.cells #[] 3)).drew) (fun hHeld => ?_)
      clear hK K
      try simp only [Act.put, List.setIfInBounds_toArray, List.set_cons_zero, List.set_cons_succ]
      refine wpAnyH_ready (rs := [12]) (by kernel_rfl) (by simp) ?_
      refine AllReadyH.cons rfl (fun K hK => ?_) (AllReadyH.nil)
      have hO1 := emptyZ_own wr
      refine step_app_arg (by rfl) (.tmp 17) (.tmp 22) (by rfl) wr.heap.size (.slice (some ⟨wr.heap.size, 0, none⟩) 0 0) [] q (by rfl) hO1 (by rfl) (HQ.out _ ((Below.refl _ wr).alloc (Nat.le_refl _) (.cells #[] 3)).drew) (by rw [List.length_nil]; exact HQm.out) (by simp [World.drew]) ?_
      intro s' W3 hs' hO3 hG3 hL3
      have hB3 := own_step hO1 hG3
      have HO3 := hid hO3; have HB3 := hid hB3; clear hO1 hO3 hG3 hL3 hs'
      obtain ⟨sa, sm, sc⟩ := s'
      unfold Sl.v at HO3 ⊢
      refine hK.out _ _ (HS.out _ HB3.out) (fun hHeld => ?_)
      clear hK K
      refine wpAnyH_take (i := 13) (oi := { dst := some 24, op := Op.build 39 #[(0, Operand.tmp 16), (1, Operand.tmp 23)], type := 39, pos := "law.go:34", after := #[{ on := 5, ground := Ground.data }, { on := 12, ground := Ground.data }], guard := none }) (v := ?_) rfl (by kernel_rfl) (by kernel_rfl) (by kernel_rfl) (fun _ _ _ h => h) (Or.inl ⟨by rfl, ?_⟩) hHeld ?_
      rotate_left
      · intro w hSw; (try dsimp only at hSw); go_simp; try with_reducible rfl
      refine wpAnyH_ready (rs := [14]) (by kernel_rfl) (by simp) ?_
      refine AllReadyH.cons rfl (fun K hK => ?_) (AllReadyH.nil)
      go_simp
      obtain ⟨W4, hW4⟩ : ∃ W4, (W3.alloc (.cells #[.string ns, .slice sa sm sc] 39)) = W4 := ⟨_, rfl⟩
      have hRw : RowK kSh W4 (some ⟨W3.heap.size, 0, none⟩) [(nm, ⟨sa, sm, sc⟩)] := by rw [← hW4]; exact share_row W3 nm ns HNs.out ⟨sa, sm, sc⟩
      have hB34 : Below W3.heap.size W3 W4 := by rw [← hW4]; exact (Below.refl _ _).alloc (Nat.le_refl _) _
      rw [hW4]
      have hB4 := HB3.out.trans (hB34.mono HB3.out.size)
      refine hK.out _ _ (HS.out _ hB4) (fun hHeld => ?_)
      clear hK K
      refine wpAnyH_ready (rs := [15]) (by kernel_rfl) (by simp) ?_
      refine AllReadyH.cons rfl (fun K hK => ?_) (AllReadyH.nil)
      refine step_app_kd kSh_ok (by rfl) (.tmp 11) (.tmp 25) (by rfl) w.heap.size (.slice va i vc) A (by rfl) (HSh.out.row.later hB4) W3.heap.size (nm, ⟨sa, sm, sc⟩) (by rfl) hRw (by rw [HAl.out]; unfold maxLen; omega) (by rw [HAl.out]; show (i + 1) * 40 ≤ _; omega) (by have := hB4.size; omega) ?_
      intro bb cap W5 hO5 hG5 hL5
      have hF := HFin.out W3 W4 W5 ⟨sa, sm, sc⟩ (.slice (some ⟨bb, 0, none⟩) (A.length + 1) cap) HB3.out hB34 HO3.out hG5 hO5
      have HF := hid hF
      have hS5 := hF.2.1
      rw [HAl.out] at HF ⊢
      clear hO5 hG5 hL5 hF hRw hB34 hB4 hW4
      refine hK.out _ _ (hS5) (fun hHeld => ?_)
      clear hK K
      refine wpAnyH_take (i := 16) (oi := { dst := some 3, op := Op.assign (Operand.tmp 26), type := 23, pos := "law.go:34", after := #[{ on := 15, ground := Ground.data }, { on := 15, ground := Ground.chain }, { on := 0, ground := Ground.phase }, { on := 1, ground := Ground.phase }, { on := 2, ground := Ground.phase }, { on := 3, ground := Ground.phase }, { on := 4, ground := Ground.phase }, { on := 5, ground := Ground.phase }, { on := 6, ground := Ground.phase }, { on := 7, ground := Ground.phase }, { on := 8, ground := Ground.phase }, { on := 9, ground := Ground.phase }, { on := 10, ground := Ground.phase }, { on := 11, ground := Ground.phase }, { on := 12, ground := Ground.phase }, { on := 13, ground := Ground.phase }, { on := 14, ground := Ground.phase }, { on := 15, ground := Ground.phase }], guard := none }) (v := ?_) rfl (by kernel_rfl) (by kernel_rfl) (by kernel_rfl) (fun _ _ _ h => h) (Or.inl ⟨by rfl, ?_⟩) hHeld ?_
      rotate_left
      · intro w hSw; (try dsimp only at hSw); go_simp; try with_reducible rfl
      refine wpAnyH_done (by kernel_rfl) ?_ _
      go_wp2_with fail
      refine ⟨⟨i + 1, some ⟨bb, 0, none⟩, cap, A ++ [(nm, ⟨sa, sm, sc⟩)], by omega, by go_num, rfl, HF.out.1, (by rw [HTq.out]; exact HF.out.2.2.1), ?_, HF.out.2.2.2⟩, by simp [intOf]; omega⟩
      show (A ++ [(nm, (⟨sa, sm, sc⟩ : Sl))]).map (·.1) = _
      rw [HTn.out, List.map_append, HNm.out]
      rfl
    · obtain rfl : rm = i := by omega
      go_wp2_with fail
      go_ret
      refine ⟨va, vc, A, rfl, ?_, ?_, HBl.out⟩
      · have h := HSh.out
        rw [List.take_of_length_le (by rw [← HLq.out, HL.out]; exact Nat.le_refl _)] at h
        exact h
      · rw [HNm.out, List.take_of_length_le (by rw [List.length_map, HL.out]; exact Nat.le_refl _)]
end Go.Proofs.Ytopbmopfahjhlaa
