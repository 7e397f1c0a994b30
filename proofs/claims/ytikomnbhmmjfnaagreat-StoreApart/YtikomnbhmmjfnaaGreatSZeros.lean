/- append(v, make([]byte, k)...), v of the call's own, with room or without. -/
import Derived.Test.YtikomnbhmmjfnaaGreatDiskN
import Derived.Test.YtikomnbhmmjfnaaGreatWide2
import Derived.Lib.AppendZerosOnto
namespace Go.Proofs.YtikomnbhmmjfnaaGreat
open Go.RowKit

theorem zc_one (z : Value) (k : Nat) : (Builtin.zeroCells #[z] k).toList = List.replicate k z := by
  unfold Builtin.zeroCells
  simp [Nat.mod_one, List.map_const']
theorem run_zeros_in {P : Program} (w : World) (t tn ty e : TypeId) (i : TypeInfo) (z : Value) (kq kn : IntKind) (ht : P.underlying t = some (.slice e)) (htn : P.underlying tn = some (.int kn)) (hi : P.info? e = some i) (hz : i.zero = some z) (hz1 : i.size = 1)
    (g sLen sCap : Nat) (te : TypeId) (cur : Array Value) (hg : w.heap[g]? = some (.cells cur te (0, 0))) (hcz : z.cells = #[z]) (h1 : z.oneCell' = true)
    (k : Nat) (h0 : 0 < k) (hr : sLen + k ≤ sCap) (hs : sCap ≤ cur.size) (hk : k ≤ 1073741824) (h48 : k * i.bytes ≤ 281474976710656) :
    (Builtin.append_ #[t, tn] ty #[.slice (some ⟨g, 0, none⟩) sLen sCap, .int kq k]).run P w =
      .ok (.slice (some ⟨g, 0, none⟩) (sLen + k) sCap) (w.setRow g (cur.toList.take sLen ++ List.replicate k z ++ cur.toList.drop (sLen + k)).toArray) := by
  have hk0 : k ≠ 0 := by omega
  have hw : IntKind.i64.wrap (k : Int) = k := by rw [IntKind.wrap_i64]; omega
  have hneg : ¬ ((k : Int) < 0) := by omega
  have h48i : ¬ (281474976710656 < (k : Int) * (i.bytes : Int)) := by
    rw [← Int.natCast_mul]
    omega
  have hzc : (Builtin.zeroCells z.cells k).toList = List.replicate k z := by
    rw [hcz]
    exact zc_one z k
  have hst := run_storeCells_at P g sLen te (List.replicate k z) 0 cur w hg (by simp; omega) (fun v hv => by rw [(List.mem_replicate.1 hv).2]; exact h1)
  simp only [Nat.add_zero, List.length_replicate] at hst
  have hst2 : (storeCells ⟨g, sLen, none⟩ (Builtin.zeroCells z.cells k).toList).run P w = .ok () (w.setRow g (cur.toList.take sLen ++ List.replicate k z ++ cur.toList.drop (sLen + k)).toArray) := by rw [hzc]; exact hst
  have had : (⟨g, 0, none⟩ : Addr).add sLen = ⟨g, sLen, none⟩ := by rw [addr_add]; simp
  simp [Builtin.append_, run_underlying ht, run_underlying htn, sizeOf, typeInfo, zeroValue, hi, hz, hz1, asInt, asIntOf, hw, hr, hneg, hk0, h48i, had, hst2]
theorem run_zeros_none {P : Program} (w : World) (t tn ty e : TypeId) (i : TypeInfo) (kq kn : IntKind) (ht : P.underlying t = some (.slice e)) (htn : P.underlying tn = some (.int kn)) (hi : P.info? e = some i)
    (base : Option Addr) (sLen sCap : Nat) (hr : sLen ≤ sCap) :
    (Builtin.append_ #[t, tn] ty #[.slice base sLen sCap, .int kq 0]).run P w = .ok (.slice base sLen sCap) w := by
  have hw : IntKind.i64.wrap (0 : Int) = 0 := by rfl
  cases base with
  | none => simp [Builtin.append_, run_underlying ht, run_underlying htn, sizeOf, typeInfo, hi, asInt, asIntOf, hw, hr]
  | some a => simp [Builtin.append_, run_underlying ht, run_underlying htn, sizeOf, typeInfo, hi, asInt, asIntOf, hw, hr, storeCells]
theorem app_zeros {w : World} {ops : Array Oper} {rest : List Oper} {o : Oper} {a : Act} {Q : Exit → Act → World → Prop} (hgd : o.guard = none) (x y : Operand) (ho : o.op = .call { callee := .builtin .append, args := #[x, y], argTypes := #[28, 3] })
    (base : Nat) (v : Value) (n : Nat) (L : List Nat) (hx : a.eval x = v) (hown : w.ownsRow base 5 1 v n (L.map bv)) (k : Nat) (hy : a.eval y = .int .i64 (k : Int)) (hk : k ≤ 1073741824) (hbytes : n + k ≤ 150000000000000) (hbase : base ≤ w.heap.size)
    (h : ∀ v' w', w'.ownsRow base 5 1 v' (n + k) ((L ++ List.replicate k 0).map bv) → w.grownBy w' v.ownBlock → wpList Tryz.prog ops Q rest (a.put o.dst v') w') : wpList Tryz.prog ops Q (o :: rest) a w := by
  obtain ⟨i0, hi, hz0, hz1, hz2⟩ := info_parts Tryz.info5
  suffices hs : ∃ v' w', (Builtin.append_ #[28, 3] o.type #[v, .int .i64 (k : Int)]).run Tryz.prog w = .ok v' w' ∧ w'.ownsRow base 5 1 v' (n + k) ((L ++ List.replicate k 0).map bv) ∧ w.grownBy w' v.ownBlock by
    obtain ⟨v', w', hrun, h1, h2⟩ := hs
    refine wpList_plain hgd fun K hK' => ?_
    unfold Oper.wp
    simp only [execOp, ho, resolve, invoke, builtin]
    simp [hx, hy, hrun, Result.andThen]
    exact hK' _ _ (h v' w' h1 h2)
  have hlen : (L.map bv).length = n * 1 := hown.1
  have hL : L.length = n := by simpa using hlen
  have hbz : ∀ j : Nat, (List.replicate j (0 : Nat)).map bv = List.replicate j (Value.int .u8 0) := fun j => by rw [List.map_replicate]; rfl
  have hroom : n ≤ maxLen := by unfold maxLen; omega
  have grow : ∀ (bs : Option Addr) (cap : Nat), v = .slice bs n cap → cap < n + k → 0 < k → (Builtin.firstCells i0.size n (.slice bs n cap)).run Tryz.prog w.drew = .ok (L.map bv).toArray w.drew → ∃ v' w', (Builtin.append_ #[28, 3] o.type #[v, .int .i64 (k : Int)]).run Tryz.prog w = .ok v' w' ∧ w'.ownsRow base 5 1 v' (n + k) ((L ++ List.replicate k 0).map bv) ∧ w.grownBy w' v.ownBlock := fun bs cap hv hc h0 hold => by
    have hfit : Builtin.nextslicecap (n + k) cap * i0.bytes ≤ 281474976710656 := by rw [hz2]; exact growslice_fits_wide hc (by omega)
    have hrun := Lib.run_append_grow_zeros (P := Tryz.prog) w 28 3 o.type 5 i0 (.int .u8 0) .i64 .i64 Tryz.underlying28 Tryz.underlying3 hi hz0 bs n cap (L.map bv) hold k h0 (by rw [hz1]; omega) hc (by omega) (by rw [hz2]; omega) hfit
    have hcg := grownCap_ge w (n + k) cap 5
    have hcm := grownCap_le_maxLen w (n + k) cap 5 (by unfold maxLen; omega)
    rw [hv]
    generalize grownCap w (n + k) cap 5 = c at *
    refine ⟨_, _, hrun, ⟨by simp [hL], Or.inr ⟨w.heap.size, c, _, rfl, hbase, heap_alloc_last _ _, hcg, hcm, ?_, ?_⟩⟩, ?_⟩
    · simp [Builtin.zeroCells, Value.cells, hL]; omega
    · have e1 : (Builtin.zeroCells (Value.int .u8 0).cells k).toList = List.replicate k (Value.int .u8 0) := zc_one _ k
      simp only [Array.toList_append, List.map_append, hbz, e1]
      rw [List.take_append_of_le_length (by simp [hL]), List.take_of_length_le (by simp [hL])]
    · have hb : Below w.heap.size w (w.drew.alloc (.cells ((L.map bv).toArray ++ Builtin.zeroCells (Value.int .u8 0).cells k ++ Builtin.zeroCells (Value.int .u8 0).cells (c - (n + k))) 5)) := ((Below.refl _ _).drew).alloc (Nat.le_refl _) _
      exact ⟨hb.os, hb.tape, hb.output, hb.size, fun j hj _ => hb.block j hj⟩
  by_cases h0 : k = 0
  · subst h0
    have hv : ∃ bs cap, v = .slice bs n cap ∧ n ≤ cap := by
      rcases hown.2 with ⟨e, e2⟩ | ⟨g, cap, cur, e, _, _, hr, _⟩
      · subst e2; exact ⟨none, 0, e, Nat.le_refl _⟩
      · exact ⟨_, cap, e, hr⟩
    obtain ⟨bs, cap, hv, hr⟩ := hv
    refine ⟨v, w, ?_, by simpa using hown, World.grownBy.refl _ _⟩
    rw [hv]
    exact run_zeros_none w 28 3 o.type 5 i0 .i64 .i64 Tryz.underlying28 Tryz.underlying3 hi bs n cap hr
  · rcases hown.2 with ⟨e, e2⟩ | ⟨g, cap, cur, e, hgb, hg, hr, hcm, hsz, htk⟩
    · subst e2
      obtain rfl : L = [] := List.eq_nil_of_length_eq_zero hL
      exact grow none 0 e (by omega) (by omega) (by simp [Builtin.firstCells])
    · by_cases hin : n + k ≤ cap
      · have hrun := run_zeros_in (P := Tryz.prog) w 28 3 o.type 5 i0 (.int .u8 0) .i64 .i64 Tryz.underlying28 Tryz.underlying3 hi hz0 hz1 g n cap 5 cur hg rfl rfl k (by omega) hin (by omega) hk (by rw [hz2]; omega)
        rw [e]
        refine ⟨_, _, hrun, ⟨by simp [hL], Or.inr ⟨g, cap, _, rfl, hgb, setRow_heap w g _ _ _ _ hg, hin, hcm, ?_, ?_⟩⟩, ?_⟩
        · simp; omega
        · rw [Nat.mul_one] at htk
          simp only [List.map_append, hbz]
          rw [← htk, List.take_append_of_le_length (by simp; omega), List.take_of_length_le (by simp; omega)]
        · refine ⟨rfl, rfl, rfl, by simp [World.setRow], fun j hj hne => ?_⟩
          exact setRow_other w g j _ (fun ee => hne (by rw [ee]; rfl))
      · refine grow _ cap e (by omega) (by omega) ?_
        refine run_firstCells_some (w := w.drew) i0.size n ⟨g, 0, none⟩ n cap (L.map bv) (by rw [hz1]; exact hlen) (fun j u hu => ?_)
        have hg' : w.drew.heap[g]? = some (.cells cur 5 (0, 0)) := hg
        rw [addr_add, Nat.zero_add, cell_of_row _ _ _ _ _ _ hg']
        have hj : j < (L.map bv).length := (List.getElem?_eq_some_iff.1 hu).1
        rw [Nat.mul_one] at htk hlen
        rw [← htk, List.getElem?_take, if_pos (by omega)] at hu
        simpa using hu
end Go.Proofs.YtikomnbhmmjfnaaGreat
