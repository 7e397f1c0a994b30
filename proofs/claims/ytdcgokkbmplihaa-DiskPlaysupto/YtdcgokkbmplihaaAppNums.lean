/- 'append([]int{}, choices...)': new numbers, as those that came in. -/
import Derived.Test.YtdcgokkbmplihaaBulkOps
import Derived.Test.YtdcgokkbmplihaaSyncedM
namespace Go.Proofs.Ytdcgokkbmplihaa
open Go.RowKit
open Go.ChangeShapes Go.WideShapes Go.ChangeAt

theorem open_nums2 {H : Type} {enc : TypeId × Value → H} {W : World} {ad : Option Addr} {len cap : Nat} {d : DataW H} {p : List MemPlace} (h : DataW.Trod enc Try.prog W 0 (fun _ => true) true 33 (.slice ad len cap) d p) : ∃ cs, IArg W cs ad len ∧ (ad = none → len = 0 ∧ cap = 0) := by
  obtain ⟨cs, hc⟩ := open_nums h
  refine ⟨cs, hc, ?_⟩
  obtain ⟨fuel, hf⟩ := h
  rcases open_ints Try.underlying33 Try.underlying3 (by kernel_rfl) hf with ⟨hcs, hx⟩ | ⟨x, l, c, zs, hcs, _, hl, hm, hz, hx, hcell, hwz⟩
  · simp [Value.cells] at hcs
    obtain ⟨rfl, rfl, rfl⟩ := hcs
    exact fun _ => ⟨rfl, rfl⟩
  · simp [Value.cells] at hcs
    obtain ⟨rfl, rfl, rfl⟩ := hcs
    intro e; cases e
theorem bulk_nums {H : Type} {enc : TypeId × Value → H} {W : World} {a : Option Addr} {len cap : Nat} {d : DataW H} {p : List MemPlace}
    (h : DataW.Trod enc Try.prog W 0 (fun _ => true) true 33 (.slice a len cap) d p) : len ≤ Rows.uptoBulk d := by
  obtain ⟨fuel, hf⟩ := h
  rcases open_ints Try.underlying33 Try.underlying3 (by kernel_rfl) hf with ⟨hcs, hx⟩ | ⟨x, l, c, zs, hcs, _, hl, hm, hz, hx, hcell, hwz⟩
  · simp [Value.cells] at hcs
    omega
  · simp [Value.cells] at hcs
    obtain ⟨rfl, rfl, rfl⟩ := hcs
    simp only [if_true] at hz
    simp only [Prod.mk.injEq] at hx
    rw [hx.1, Rows.uptoBulk]
    have h := bulk_lits (H := H) .i64 (zs.take len)
    rw [List.length_take] at h
    omega
theorem nums_arg {w : World} {N n : Nat} {v : Value} {cs : List Int} (h : w.ownsRow N 3 1 v n (cs.map (fun c => Value.int .i64 c))) (hr : ∀ c ∈ cs, -9223372036854775808 ≤ c ∧ c ≤ 9223372036854775807) : ∃ p c, v = .slice p n c ∧ IArg w cs p n ∧ ∀ b off, p = some ⟨b, off, none⟩ → N ≤ b := by
  have hl : cs.length = n := by have := h.1; simp at this; omega
  rcases h.2 with ⟨rfl, rfl⟩ | ⟨g, cap, cur, rfl, h1, h2, h3, h4, h5, h6⟩
  · exact ⟨none, 0, rfl, ⟨hl, Or.inl rfl, hr⟩, fun _ _ e => by cases e⟩
  · refine ⟨some ⟨g, 0, none⟩, cap, rfl, ⟨hl, Or.inr ⟨g, 0, rfl, some_lt h2, fun i hi => ?_⟩, hr⟩, fun b off e => by cases e; exact h1⟩
    have e : (cur.toList.take (n * 1))[i]? = (cs.map (fun c => Value.int .i64 c))[i]? := by rw [h6]
    rw [List.getElem?_take, if_pos (by omega)] at e
    rw [cell_of_row _ _ _ _ _ _ h2, Nat.zero_add, ← Array.getElem?_toList, e, List.getElem?_map, List.getElem?_eq_getElem (by omega), List.getD_eq_getElem?_getD, List.getElem?_eq_getElem (by omega)]
    rfl
theorem app_nums {w w0 : World} {ops : Array Oper} {rest : List Oper} {o : Oper} {a : Act} {Q : Exit → Act → World → Prop} (hgd : o.guard = none) (x y : Operand) (ho : o.op = .call { callee := .builtin .append, args := #[x, y], argTypes := #[33, 33] })
    (hw : w = w0.alloc (.cells #[] 3)) (hx : a.eval x = .slice (some ⟨w0.heap.size, 0, none⟩) 0 0) (ad : Option Addr) (len cap : Nat) (cs : List Int) (hy : a.eval y = .slice ad len cap) (ha : IArg w0 cs ad len) (hnone : ad = none → len = 0 ∧ cap = 0) (hlen : len ≤ 1073741824)
    (hK : ∀ p c w', IArg w' cs p len → (∀ b off, p = some ⟨b, off, none⟩ → w0.heap.size ≤ b) → Below w0.heap.size w0 w' → wpList Try.prog ops Q rest (a.put o.dst (.slice p len c)) w') : wpList Try.prog ops Q (o :: rest) a w := by
  obtain ⟨i0, hi, hz0, hz1, hz2⟩ := info_parts Try.infoI
  have hb : Below w0.heap.size w0 w := by rw [hw]; exact (Below.refl _ w0).alloc (Nat.le_refl _) _
  have hown : w.ownsRow w0.heap.size 3 1 (.slice (some ⟨w0.heap.size, 0, none⟩) 0 0) 0 [] := by
    rw [hw]
    exact ⟨by simp, Or.inr ⟨w0.heap.size, 0, #[], rfl, Nat.le_refl _, heap_alloc_last _ _, by omega, by unfold maxLen; omega, by simp, by simp⟩⟩
  cases ad with
  | none =>
    obtain ⟨rfl, rfl⟩ := hnone rfl
    have hrun := run_append_owned_none (P := Try.prog) (w := w) w0.heap.size 33 o.type 3 i0 1 Try.underlying33 hi _ 0 _ hown
    refine wpList_plain hgd fun K hK' => ?_
    unfold Oper.wp
    simp [execOp, ho, resolve, invoke, builtin, hx, hy, hrun, Result.andThen]
    exact hK' _ _ (hK _ _ w ⟨ha.1, Or.inl rfl, ha.3⟩ (fun b off e => by cases e; exact Nat.le_refl _) hb)
  | some ad =>
    have hnews : ∀ j u, (cs.map (fun c => Value.int .i64 c))[j]? = some u → w.cell? (ad.add j) = some u := fun j u hu => by
      have hj : j < cs.length := by have := (List.getElem?_eq_some_iff.1 hu).1; simpa using this
      rw [List.getElem?_map, List.getElem?_eq_getElem hj] at hu
      obtain ⟨b, off, e, hs, hc⟩ := ha.row.resolve_left (by have := ha.1; omega)
      cases e
      rw [addr_add, hb.cell (p := ⟨b, off + j, none⟩) hs, hc j (by have := ha.1; omega), List.getD_eq_getElem?_getD, List.getElem?_eq_getElem hj, ← hu]
      rfl
    refine wpList_append_own w hgd x y 33 ho w0.heap.size 3 i0 (.int .i64 0) 1 8 Try.underlying33 hi hz0 hz1 hz2 rfl (by decide) _ 0 [] hx hown ad len cap (cs.map (fun c => Value.int .i64 c)) hy (by rw [List.length_map, ha.1]; omega) hnews (fun u hu => by obtain ⟨z, _, rfl⟩ := List.mem_map.1 hu; rfl) (by unfold maxLen; omega) (by omega) hb.size ?_
    intro v' w' r1 r2 _
    rw [Nat.zero_add, List.nil_append] at r1
    obtain ⟨p, c, rfl, h1, h2⟩ := nums_arg r1 ha.3
    refine hK p c w' h1 h2 ⟨r2.os.trans hb.os, r2.tape.trans hb.tape, r2.output.trans hb.output, Nat.le_trans hb.size r2.size, fun k hk => (r2.block k (Nat.lt_of_lt_of_le hk hb.size) (fun e => ?_)).trans (hb.block k hk)⟩
    simp [Value.ownBlock] at e
    omega
end Go.Proofs.Ytdcgokkbmplihaa
