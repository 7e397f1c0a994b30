/- Laws on texts and bytes: a text's bytes in new memory; a text appended to bytes of the call's own. -/
import Derived.Test.YtiiepmljcjbflaaGreatGetTextN
import Derived.Deep.AppendSrc
import Derived.Laws.IdiomStrings
import Derived.Test.YtiiepmljcjbflaaGreatBack
namespace Go.Proofs.YtiiepmljcjbflaaGreat
open Go.RowKit

/-- The bytes of a text. -/
def sbytes (s : ByteArray) : List Nat := s.data.toList.map UInt8.toNat
theorem sbytes_length (s : ByteArray) : (sbytes s).length = s.size := by simp [sbytes]
theorem sbytes_lt (s : ByteArray) : ∀ x ∈ sbytes s, x < 256 := by
  intro x hx
  obtain ⟨b, _, rfl⟩ := List.mem_map.1 hx
  exact b.toNat_lt
theorem byteCells_sbytes (s : ByteArray) : byteCells s = (sbytes s).map bv := by
  simp [byteCells, sbytes, bv]
/-- Bytes made a text and back. -/
theorem sbytes_bstr (l : List Nat) (h : ∀ x ∈ l, x < 256) : sbytes (bstr l) = l := by
  simp only [sbytes, bstr, strOfNums_data, List.map_map]
  conv => rhs; rw [← List.map_id l]
  apply List.map_congr_left
  intro x hx
  have := h x hx
  simp
  omega
theorem bstr_sbytes (s : ByteArray) : bstr (sbytes s) = s := by
  apply ByteArray.ext
  apply Array.ext'
  have e : (bstr (sbytes s)).data.toList = (List.map Int.ofNat (sbytes s)).map fun n => UInt8.ofNat n.toNat := rfl
  rw [e, List.map_map, sbytes, List.map_map]
  conv => rhs; rw [← List.map_id s.data.toList]
  apply List.map_congr_left
  intro x _
  simp
/-- '[]byte(s)'. -/
theorem conv_string (s : ByteArray) (w : World) :
    ∃ (Q : Part) (w' : World), (convert 9 24 (.string s)).run Tryz.prog w = .ok (.slice Q.ad Q.len Q.cap) w' ∧ Hid (Q.l = sbytes s ∧ Q.ok w') ∧ Below w.heap.size w w' := by
  refine ⟨⟨some ⟨w.heap.size, 0, none⟩, s.size, grownCap w s.size 0 5, sbytes s⟩, _, run_bytes_of_string w 9 24 5 s Tryz.underlying9 Tryz.underlying24 Tryz.underlying5, ⟨rfl, sbytes_length s, fun e => (by cases e), sbytes_lt s, ?_⟩, ?_⟩
  · right
    refine ⟨w.heap.size, 0, rfl, by simp, ?_⟩
    intro i hi
    have hi' : i < s.size := by rw [← sbytes_length]; exact hi
    have hd : i < s.data.size := hi'
    have hsl : i < (sbytes s).length := hi
    rw [cell_of_row _ w.heap.size _ _ 5 _ (heap_alloc_new w.drew _)]
    rw [bytesRow, Nat.zero_add, Array.getElem?_append_left (by simpa using hd), List.getD_eq_getElem?_getD, List.getElem?_eq_getElem hsl]
    simp [sbytes]
    exact ⟨_, Array.getElem?_eq_getElem hd, rfl⟩
  · exact ((Below.refl _ _).drew).alloc (Nat.le_refl _) _
theorem run_append_str (w : World) (ty : TypeId) (base n : Nat) (v : Value) (xs : List Value) (hown : w.ownsRow base 5 1 v n xs) (hn : 0 < n) (s : ByteArray) (hb : n + s.size ≤ 140737488355328) (hbase : base ≤ w.heap.size) :
    ∃ v' w', (Builtin.append_ #[24, 9] ty #[v, .string s]).run Tryz.prog w = .ok v' w' ∧ w'.ownsRow base 5 1 v' (n + s.size) (xs ++ byteCells s) ∧ w.grownBy w' v.ownBlock := by
  obtain ⟨i, hi, hz0, hz1, hz2⟩ := info_parts Tryz.info5
  have ht := Tryz.underlying24
  have hts := Tryz.underlying9
  have hlen : (xs ++ byteCells s).length = (n + s.size) * 1 := by rw [List.length_append, hown.1, byteCells_length]; omega
  rcases hown.2 with ⟨rfl, rfl⟩ | ⟨g, cap, cur, rfl, hbg, hg, hnc, hcm, hcs, htake⟩
  · omega
  · have src := Src.ofString (P := Tryz.prog) w hts s
    by_cases hroom : n + s.size ≤ cap
    · have hfit : n * 1 + (byteCells s).length ≤ cur.size := by rw [byteCells_length, hcs]; omega
      have hst := run_storeCells_at Tryz.prog g (n * 1) 5 (byteCells s) 0 cur w hg (by simpa using hfit) src.one
      simp only [Nat.add_zero] at hst
      refine ⟨.slice (some ⟨g, 0, none⟩) (n + s.size) cap, w.setRow g (cur.toList.take (n * 1) ++ byteCells s ++ cur.toList.drop (n * 1 + (byteCells s).length)).toArray, ?_, ⟨hlen, .inr ⟨g, cap, _, rfl, hbg, setRow_heap w g cur _ 5 _ hg, hroom, hcm, ?_, ?_⟩⟩, ⟨rfl, rfl, rfl, by simp, fun k _ hk => setRow_other w g k _ (fun e => hk (by simp [Value.ownBlock, e]))⟩⟩
      · have hc := src.cells
        have hl := src.len
        simp only [Nat.mul_one] at hst
        simp [Builtin.append_, run_underlying ht, run_underlying hts, sizeOf, typeInfo, hi, hz1, hl, hroom, hc, Addr.add_lit, hst]
      · simp only [List.size_toArray, List.length_append, List.length_take, List.length_drop, Array.length_toList]
        omega
      · rw [htake, ← hlen]
        exact List.take_left
    · have holds : ∀ j u, xs[j]? = some u → w.drew.cell? ((⟨g, 0, none⟩ : Addr).add j) = some u := hown.cells (g := g) rfl
      have hold := run_firstCells_some (P := Tryz.prog) w.drew 1 n ⟨g, 0, none⟩ n cap xs hown.1 holds
      have hr := run_append_grow_src (P := Tryz.prog) w 24 9 ty 5 i (.int .u8 0) ht hi hz0 (some ⟨g, 0, none⟩) n cap xs (by rw [hz1]; exact hold) (.string s) s.size (byteCells s) (by rw [hz1]; exact src) (by omega) (by omega) (growslice_fits (by omega) (by rw [hz2]; omega))
      have hge := grownCap_ge w (n + s.size) cap 5
      have hcm2 : grownCap w (n + s.size) cap 5 ≤ maxLen := grownCap_le_maxLen w (n + s.size) cap 5 (by unfold maxLen; omega)
      refine ⟨_, _, hr, ⟨hlen, .inr ⟨w.heap.size, _, _, rfl, hbase, heap_alloc_new w.drew _, hge, hcm2, ?_, ?_⟩⟩, ⟨rfl, rfl, rfl, by simp, fun k hk _ => Below.heap_alloc w.drew _ k hk⟩⟩
      · simp only [Array.size_append, List.size_toArray, size_zeroCells, hlen]
        simp [Value.cells]
        omega
      · simp only [Array.toList_append]
        rw [← hlen]
        exact List.take_left
/-- 'append(v, s...)', v of the call's own and not empty, s a text. -/
theorem app_str {w : World} {ops : Array Oper} {rest : List Oper} {o : Oper} {a : Act} {Q : Exit → Act → World → Prop} (hgd : o.guard = none) (s x : Operand)
    (ho : o.op = .call { callee := .builtin .append, args := #[s, x], argTypes := #[24, 9] })
    (base : Nat) (v : Value) (n : Nat) (L : List Nat) (hs : a.eval s = v) (hown : w.ownsRow base 5 1 v n (L.map bv)) (hn : 0 < n)
    (t : ByteArray) (hx : a.eval x = .string t) (hbytes : n + t.size ≤ 140737488355328) (hbase : base ≤ w.heap.size)
    (h : ∀ v' w', w'.ownsRow base 5 1 v' (n + t.size) ((L ++ sbytes t).map bv) → w.grownBy w' v.ownBlock → wpList Tryz.prog ops Q rest (a.put o.dst v') w') : wpList Tryz.prog ops Q (o :: rest) a w := by
  refine wpList_plain hgd fun K hK => ?_
  obtain ⟨v', w', hr, h2, h3⟩ := run_append_str w o.type base n v _ hown hn t hbytes hbase
  rw [byteCells_sbytes, ← List.map_append] at h2
  unfold Oper.wp execOp
  simp only [ho, resolve, invoke, builtin, Sem.run_bind, Sem.run_pure, Result.andThen_ok, List.map_toArray, List.map_cons, List.map_nil, hs, hx, hr]
  exact hK _ _ (h v' w' h2 h3)
end Go.Proofs.YtiiepmljcjbflaaGreat

/- P104, Text, as a function. -/
namespace Go.Proofs.YtiiepmljcjbflaaGreat
open Go.RowKit

/-- P104, Text: the error's number and the bytes. -/
def textN (s : ByteArray) : Int × List Nat := if s.size ≤ 65535 then (0, spellN s.size 2 ++ sbytes s) else (6, [])
theorem textN_ok (s : ByteArray) (h : s.size ≤ 65535) : textN s = (0, spellN s.size 2 ++ sbytes s) := by unfold textN; rw [if_pos h]
theorem textN_no (s : ByteArray) (h : ¬ s.size ≤ 65535) : textN s = (6, []) := by unfold textN; rw [if_neg h]
end Go.Proofs.YtiiepmljcjbflaaGreat

/- Plain mathematics of P106: a text is read as it was written, with anything ahead and behind. -/
namespace Go.Proofs.YtiiepmljcjbflaaGreat
open Go.RowKit Crcm

theorem text_back (A B : List Nat) (s : ByteArray) (p : Nat) (hp : A.length = p) (hs : s.size ≤ 65535) :
    getTextN (A ++ ((spellN s.size 2 ++ sbytes s) ++ B)) p = (s, ((p + 2 + s.size : Nat) : Int), 0) := by
  have h1 : lenAt (A ++ ((spellN s.size 2 ++ sbytes s) ++ B)) p = s.size := by
    unfold lenAt
    have e := drop_ahead A ((spellN s.size 2 ++ sbytes s) ++ B) p 0 hp
    rw [Nat.add_zero, List.drop_zero] at e
    rw [e, List.append_assoc, take_front _ _ 2 (spellN_length _ _)]
    exact pow_two_mod _ 2 (by omega)
  have hlen : (A ++ ((spellN s.size 2 ++ sbytes s) ++ B)).length = p + (2 + s.size + B.length) := by simp [spellN_length, sbytes_length, hp]; omega
  rw [getTextN_ok _ p (by rw [h1, hlen]; omega), h1, drop_ahead A _ p 2 hp, List.append_assoc, drop_front _ _ 2 (spellN_length _ _), take_front _ _ _ (sbytes_length s), bstr_sbytes]
end Go.Proofs.YtiiepmljcjbflaaGreat
