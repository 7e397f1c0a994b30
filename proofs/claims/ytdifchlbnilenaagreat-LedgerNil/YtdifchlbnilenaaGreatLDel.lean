/- A ledger in memory. -/
import Derived.Test.YtdifchlbnilenaaGreatLOwn
import Derived.Test.YtdifchlbnilenaaGreatLChoose0
import Derived.Test.YtdifchlbnilenaaGreatPTab
import Derived.Test.YtdifchlbnilenaaGreatPRise
import Derived.Deep.RegionLaw
import Derived.ArgAppend
import Derived.Laws.CopyRow
import Derived.Laws.CopyOwn
namespace Go.Proofs.YtdifchlbnilenaaGreat
open Go.RowKit Go.Shelf

abbrev TLg : TypeId := 79
def rwV (r : Rw) : List Value := [.int .i64 r.off, .int .i64 r.prod, .bool r.tx, .string r.rc.key, .string r.rc.val, .bool r.rc.dead]
def rw0 : Rw := ⟨0, 0, false, rec0⟩
def txV (t : Tx) : List Value := [.int .i64 t.prod, .int .i64 t.first]
def tx0 : Tx := ⟨0, 0⟩
def gnV (x : Gn) : List Value := [.int .i64 x.prod, .int .i64 x.first, .int .i64 x.last]
def gn0 : Gn := ⟨0, 0, 0⟩
abbrev kRw : Kd Rw := ⟨89, 58, 6, 64, rwV, rw0, .agg #[.int .i64 0, .int .i64 0, .bool false, .string ByteArray.empty, .string ByteArray.empty, .bool false]⟩
abbrev kTx : Kd Tx := ⟨136, 70, 2, 16, txV, tx0, .agg #[.int .i64 0, .int .i64 0]⟩
abbrev kGn : Kd Gn := ⟨130, 72, 3, 24, gnV, gn0, .agg #[.int .i64 0, .int .i64 0, .int .i64 0]⟩
theorem kRw_ok : kRw.ok := by
  refine ⟨⟨fun a => rfl, by decide⟩, ?_, by kernel_rfl, rfl, Tryz.underlying58⟩
  intro a v hv
  simp only [rwV, List.mem_cons, List.not_mem_nil, or_false] at hv
  rcases hv with h | h | h | h | h | h
  all_goals (subst h; rfl)
theorem kTx_ok : kTx.ok := by
  refine ⟨⟨fun a => rfl, by decide⟩, ?_, by kernel_rfl, rfl, Tryz.underlying70⟩
  intro a v hv
  simp only [txV, List.mem_cons, List.not_mem_nil, or_false] at hv
  rcases hv with h | h
  all_goals (subst h; rfl)
theorem kGn_ok : kGn.ok := by
  refine ⟨⟨fun a => rfl, by decide⟩, ?_, by kernel_rfl, rfl, Tryz.underlying72⟩
  intro a v hv
  simp only [gnV, List.mem_cons, List.not_mem_nil, or_false] at hv
  rcases hv with h | h | h
  all_goals (subst h; rfl)
/-- What is so of every ledger. -/
structure LgOk (g : Lg) : Prop where
  start : 0 ≤ g.start ∧ g.start ≤ g.fin
  fin : g.fin ≤ 281474976710656
  rise : g.rows.Pairwise (fun a b => a.off < b.off)
  rows : ∀ r ∈ g.rows, g.start ≤ r.off ∧ r.off < g.fin
  opn : ∀ t ∈ g.opn, g.start ≤ t.first ∧ t.first < g.fin
  oprise : g.opn.Pairwise (fun a b => a.first < b.first)
  gone : ∀ x ∈ g.gone, 0 ≤ x.first ∧ x.first ≤ x.last ∧ x.last < g.fin
/-- In w the block L is a ledger: its table at t, the table's map at M, its slices in blocks from N on. -/
structure LPic0 (w : World) (L t M n N : Nat) (vr vo va : Value) (g : Lg) : Prop where
  box : Blk w L #[.pointer (some ⟨t, 0, none⟩), .int .i64 g.start, .int .i64 g.fin, vr, vo, va] TLg
  tab : TPic w t M n g.tb
  rows : OwnK kRw w N vr g.rows
  opn : OwnK kTx w N vo g.opn
  gone : OwnK kGn w N va g.gone
/-- .. and it is one that can be. -/
structure LPic (w : World) (L t M n N : Nat) (vr vo va : Value) (g : Lg) : Prop extends LPic0 w L t M n N vr vo va g where
  ok : LgOk g
variable {w w' : World} {L t M n N : Nat} {vr vo va : Value} {g : Lg}
theorem LPic0.later (h : LPic0 w L t M n N vr vo va g) (hb : Below w.heap.size w w') : LPic0 w' L t M n N vr vo va g := ⟨h.box.later hb, h.tab.later hb, h.rows.later hb, h.opn.later hb, h.gone.later hb⟩
theorem LPic.later (h : LPic w L t M n N vr vo va g) (hb : Below w.heap.size w w') : LPic w' L t M n N vr vo va g := ⟨h.toLPic0.later hb, h.ok⟩
theorem LPic0.c0 (h : LPic0 w L t M n N vr vo va g) : w.cell? ⟨L, 0, none⟩ = some (.pointer (some ⟨t, 0, none⟩)) := h.box.cell 0
theorem LPic0.c1 (h : LPic0 w L t M n N vr vo va g) : w.cell? ⟨L, 1, none⟩ = some (.int .i64 g.start) := h.box.cell 1
theorem LPic0.c2 (h : LPic0 w L t M n N vr vo va g) : w.cell? ⟨L, 2, none⟩ = some (.int .i64 g.fin) := h.box.cell 2
theorem LPic0.c3 (h : LPic0 w L t M n N vr vo va g) : w.cell? ⟨L, 3, none⟩ = some (vr) := h.box.cell 3
theorem LPic0.c4 (h : LPic0 w L t M n N vr vo va g) : w.cell? ⟨L, 4, none⟩ = some (vo) := h.box.cell 4
theorem LPic0.c5 (h : LPic0 w L t M n N vr vo va g) : w.cell? ⟨L, 5, none⟩ = some (va) := h.box.cell 5
theorem LPic0.lt (h : LPic0 w L t M n N vr vo va g) : L < w.heap.size := h.box.lt
theorem LPic.c0 (h : LPic w L t M n N vr vo va g) : w.cell? ⟨L, 0, none⟩ = some (.pointer (some ⟨t, 0, none⟩)) := h.box.cell 0
theorem LPic.c1 (h : LPic w L t M n N vr vo va g) : w.cell? ⟨L, 1, none⟩ = some (.int .i64 g.start) := h.box.cell 1
theorem LPic.c2 (h : LPic w L t M n N vr vo va g) : w.cell? ⟨L, 2, none⟩ = some (.int .i64 g.fin) := h.box.cell 2
theorem LPic.c3 (h : LPic w L t M n N vr vo va g) : w.cell? ⟨L, 3, none⟩ = some (vr) := h.box.cell 3
theorem LPic.c4 (h : LPic w L t M n N vr vo va g) : w.cell? ⟨L, 4, none⟩ = some (vo) := h.box.cell 4
theorem LPic.c5 (h : LPic w L t M n N vr vo va g) : w.cell? ⟨L, 5, none⟩ = some (va) := h.box.cell 5
theorem LPic.lt (h : LPic w L t M n N vr vo va g) : L < w.heap.size := h.box.lt
/-- The blocks of a ledger are pairwise apart: their types are unlike. -/
theorem blk_type {b : Nat} {cs : Array Value} {T T' : TypeId} {cur : Array Value} (h : Blk w b cs T) (h' : w.heap[b]? = some (.cells cur T' (0, 0))) : T = T' := by
  unfold Blk at h
  rw [h] at h'
  injection h' with h'
  injection h' with _ h'
theorem LPic0.apart (h : LPic0 w L t M n N vr vo va g) : L ≠ t ∧ L ≠ M ∧ t ≠ M ∧ (∀ b, vr.ownBlock = some b → b ≠ L ∧ b ≠ t ∧ b ≠ M) ∧ (∀ b, vo.ownBlock = some b → b ≠ L ∧ b ≠ t ∧ b ≠ M) ∧ (∀ b, va.ownBlock = some b → b ≠ L ∧ b ≠ t ∧ b ≠ M) := by
  obtain ⟨es, c, hm⟩ := h.tab.map.isMap
  have hb := h.box
  have ht := h.tab.box
  have key : ∀ (b : Nat) (T' : TypeId), T' ≠ TLg → T' ≠ TTb → (∃ cur, w.heap[b]? = some (.cells cur T' (0, 0))) → b ≠ L ∧ b ≠ t ∧ b ≠ M := by
    rintro b T' h1 h2 ⟨cur, hc⟩
    refine ⟨?_, ?_, ?_⟩
    · rintro rfl; exact h1 (blk_type hb hc).symm
    · rintro rfl; exact h2 (blk_type ht hc).symm
    · rintro rfl; rw [hm] at hc; cases hc
  refine ⟨?_, ?_, h.tab.ne, fun b e => key b kRw.T (by decide) (by decide) (h.rows.block b e).2.2, fun b e => key b kTx.T (by decide) (by decide) (h.opn.block b e).2.2, fun b e => key b kGn.T (by decide) (by decide) (h.gone.block b e).2.2⟩
  · rintro rfl; exact absurd (blk_type hb ht) (by decide)
  · rintro rfl; unfold Blk at hb; rw [hb] at hm; cases hm
theorem LPic0.apart3 (h : LPic0 w L t M n N vr vo va g) : (∀ b, vr.ownBlock = some b → vo.ownBlock ≠ some b ∧ va.ownBlock ≠ some b) ∧ (∀ b, vo.ownBlock = some b → va.ownBlock ≠ some b) := by
  have key : ∀ (b : Nat) (T' T : TypeId), T' ≠ T → (∃ cur, w.heap[b]? = some (.cells cur T' (0, 0))) → (∃ cur, w.heap[b]? = some (.cells cur T (0, 0))) → False := by
    rintro b T' T h1 ⟨cur, hc⟩ ⟨cur', hc'⟩
    rw [hc] at hc'
    injection hc' with hc'
    injection hc' with _ hc'
    exact h1 hc'
  refine ⟨fun b e => ⟨fun e2 => ?_, fun e2 => ?_⟩, fun b e e2 => ?_⟩
  · exact key b _ _ (by decide) (h.rows.block b e).2.2 (h.opn.block b e2).2.2
  · exact key b _ _ (by decide) (h.rows.block b e).2.2 (h.gone.block b e2).2.2
  · exact key b _ _ (by decide) (h.opn.block b e).2.2 (h.gone.block b e2).2.2
end Go.Proofs.YtdifchlbnilenaaGreat

/- slices.Delete of one open transaction. -/
namespace Go.Proofs.YtdifchlbnilenaaGreat
open Go.RowKit

/-- Cells laid over others. -/
def over (cur : Array Value) (p : Nat) (news : List Value) : Array Value := (cur.toList.take p ++ news ++ cur.toList.drop (p + news.length)).toArray
theorem over_size (cur : Array Value) (p : Nat) (news : List Value) (h : p + news.length ≤ cur.size) : (over cur p news).size = cur.size := by
  simp [over]; omega
theorem over_get (cur : Array Value) (p : Nat) (news : List Value) (h : p + news.length ≤ cur.size) (j : Nat) :
    (over cur p news)[j]? = if j < p then cur[j]? else if j < p + news.length then news[j - p]? else cur[j]? := by
  have h1 : (cur.toList.take p).length = p := by simp; omega
  unfold over
  rw [List.getElem?_toArray, List.append_assoc]
  by_cases hj : j < p
  · rw [if_pos hj, List.getElem?_append_left (by omega), List.getElem?_take, if_pos hj, Array.getElem?_toList]
  · rw [if_neg hj, List.getElem?_append_right (by omega), h1]
    by_cases hj2 : j < p + news.length
    · rw [if_pos hj2, List.getElem?_append_left (by omega)]
    · rw [if_neg hj2, List.getElem?_append_right (by omega), List.getElem?_drop, Array.getElem?_toList]
      congr 1
      omega
/-- What stands ahead of element i and behind it. -/
def delV (xs : List Value) (size i : Nat) : List Value := xs.take (i * size) ++ xs.drop ((i + 1) * size)
theorem delV_len {xs : List Value} {size n i : Nat} (hl : xs.length = n * size) (hi : i < n) : (delV xs size i).length = (n - 1) * size := by
  have h1 : (i + 1) * size ≤ n * size := Nat.mul_le_mul_right _ (by omega)
  have h2 : (i + 1) * size = i * size + size := by rw [Nat.add_mul]; omega
  have h3 : (n - 1) * size = n * size - size := by rw [Nat.sub_mul]; omega
  unfold delV
  rw [List.length_append, List.length_take, List.length_drop, hl]
  omega
theorem delV_get {xs : List Value} {size n i : Nat} (hl : xs.length = n * size) (hi : i < n) (j : Nat) : (delV xs size i)[j]? = if j < i * size then xs[j]? else xs[j + size]? := by
  have h1 : (i + 1) * size ≤ n * size := Nat.mul_le_mul_right _ (by omega)
  have h2 : (i + 1) * size = i * size + size := by rw [Nat.add_mul]; omega
  unfold delV
  by_cases hj : j < i * size
  · rw [if_pos hj, List.getElem?_append_left (by rw [List.length_take]; omega), List.getElem?_take, if_pos hj]
  · rw [if_neg hj, List.getElem?_append_right (by rw [List.length_take]; omega), List.getElem?_drop, List.length_take]
    congr 1
    omega
/-- The later ones moved, the last one cleared. -/
theorem del_late {cur : Array Value} {o n cap size i : Nat} {xs zc : List Value} (hs : o + cap * size ≤ cur.size) (hn : n ≤ cap) (hx : ∀ j, j < n * size → cur[o + j]? = xs[j]?) (hl : xs.length = n * size) (hi : i < n) (hz : zc.length = size) :
    (over (over cur (o + i * size) (xs.drop ((i + 1) * size))) (o + (n - 1) * size) zc).size = cur.size ∧ ∀ j, j < (n - 1) * size → (over (over cur (o + i * size) (xs.drop ((i + 1) * size))) (o + (n - 1) * size) zc)[o + j]? = (delV xs size i)[j]? := by
  have h1 : (i + 1) * size ≤ n * size := Nat.mul_le_mul_right _ (by omega)
  have h2 : (i + 1) * size = i * size + size := by rw [Nat.add_mul]; omega
  have h3 : (n - 1) * size = n * size - size := by rw [Nat.sub_mul]; omega
  have h4 : n * size ≤ cap * size := Nat.mul_le_mul_right _ hn
  have hd : (xs.drop ((i + 1) * size)).length = n * size - (i + 1) * size := by rw [List.length_drop, hl]
  have e1 : (over cur (o + i * size) (xs.drop ((i + 1) * size))).size = cur.size := over_size _ _ _ (by omega)
  refine ⟨by rw [over_size _ _ _ (by omega), e1], fun j hj => ?_⟩
  rw [over_get _ _ _ (by omega), if_pos (by omega), over_get _ _ _ (by omega), delV_get hl hi]
  by_cases hji : j < i * size
  · rw [if_pos (by omega), if_pos hji, hx j (by omega)]
  · rw [if_neg (by omega), if_pos (by omega), if_neg hji, List.getElem?_drop]
    congr 1
    omega
section
variable {P : Program} {ops : Array Oper} {o : Oper} {a : Act} {w : World} {K : Act → World → Prop} {Q : Exit → Act → World → Prop} {E : Prop}
/-- 'append(s[:i], s[j:]...)' where there is room. -/
theorem step_app_over (hgd : o.guard = none) (x y : Operand) (t : TypeId) (ho : o.op = .call { callee := .builtin .append, args := #[x, y], argTypes := #[t, t] })
    (e : TypeId) (i : TypeInfo) (size : Nat) (ht : P.underlying t = some (.slice e)) (hi : P.info? e = some i) (hsize : i.size = size)
    (g off n cap : Nat) (cur : Array Value) (hg : w.heap[g]? = some (.cells cur e (0, 0))) (hx : a.eval x = .slice (some ⟨g, off, none⟩) n cap) (ad : Addr) (m c : Nat) (news : List Value) (hy : a.eval y = .slice (some ad) m c)
    (hl : news.length = m * size) (hnews : ∀ j u, news[j]? = some u → w.cell? (ad.add j) = some u) (h1 : ∀ u ∈ news, u.oneCell' = true) (hroom : n + m ≤ cap) (hfit : off + n * size + news.length ≤ cur.size)
    (hK : K (a.put o.dst (.slice (some ⟨g, off, none⟩) (n + m) cap)) (w.setRow g (over cur (off + n * size) news))) :
    if Region.wanted o (yielded ops a.tmps) = true then Oper.wp P o a w K Q else E := by
  have hw : Region.wanted o (yielded ops a.tmps) = true := by simp [Region.wanted, hgd]
  rw [if_pos hw]
  subst hsize
  have hfc := run_firstCells_some (P := P) w i.size m ad m c news hl hnews
  have hst := run_storeCells_at P g (off + n * i.size) e news 0 cur w hg (by omega) h1
  simp only [Nat.add_zero] at hst
  have hr : (Builtin.append_ #[t, t] o.type #[.slice (some ⟨g, off, none⟩) n cap, .slice (some ad) m c]).run P w = .ok (.slice (some ⟨g, off, none⟩) (n + m) cap) (w.setRow g (over cur (off + n * i.size) news)) := by
    simp [Builtin.append_, run_underlying ht, sizeOf, typeInfo, hi, Builtin.lenOf, hroom, hfc, Addr.add_lit, hst, over]
  unfold Oper.wp
  simp [execOp, ho, resolve, invoke, builtin, hx, hy, hr, Result.andThen]
  exact hK
end
section
variable {w : World} {e : TypeId}
/-- 'clear' of one element. -/
theorem run_clear_one {P : Program} (t ty : TypeId) (i : TypeInfo) (z : Value) (ht : P.underlying t = some (.slice e)) (hi : P.info? e = some i) (hz : i.zero = some z) (h1 : ∀ u ∈ z.cells.toList, u.oneCell' = true) (g o c : Nat) (cur : Array Value)
    (hg : w.heap[g]? = some (.cells cur e (0, 0))) (hfit : o + z.cells.size ≤ cur.size) :
    (Builtin.clear_ #[t] ty #[.slice (some ⟨g, o, none⟩) 1 c]).run P w = .ok (.tuple #[]) (w.setRow g (cur.toList.take o ++ z.cells.toList ++ cur.toList.drop (o + z.cells.size)).toArray) := by
  have hst := run_storeCells_at P g o e z.cells.toList 0 cur w hg (by simpa using hfit) h1
  simp only [Nat.add_zero, Array.length_toList] at hst
  have hzc : (Builtin.zeroCells z.cells 1).toList = z.cells.toList := by
    apply List.ext_getElem
    · simp [Builtin.zeroCells]
    · intro k k1 k2
      simp [Builtin.zeroCells] at k1 k2 ⊢
      simp [Nat.mod_eq_of_lt k2, getElem!_pos, k2]
  simp [Builtin.clear_, run_underlying ht, zeroValue, typeInfo, hi, hz, hzc, hst]
end
set_option maxRecDepth 100000 in
set_option maxHeartbeats 4000000 in
theorem deleteT_at (w : World) (g o n cap i : Nat) (cur : Array Value) (xs : List Value) (hg : w.heap[g]? = some (.cells cur 136 (0, 0))) (hn : n ≤ cap) (hm : cap ≤ maxLen) (hs : o + cap * 2 ≤ cur.size) (hx : ∀ j, j < n * 2 → cur[o + j]? = xs[j]?) (hl : xs.length = n * 2) (h1 : ∀ u ∈ xs, u.oneCell' = true) (hi : i < n) :
    Calls Tryz.prog 144 #[.slice (some ⟨g, o, none⟩) n cap, .int .i64 (i : Nat), .int .i64 ((i : Nat) + 1)] w fun e w' => e = .returned (.slice (some ⟨g, o, none⟩) (n - 1) cap) ∧ (∃ cur', w'.heap[g]? = some (.cells cur' 136 (0, 0)) ∧ cur'.size = cur.size ∧ ∀ j, j < (n - 1) * 2 → cur'[o + j]? = (delV xs 2 i)[j]?) ∧ w.grownBy w' (some g) := by
  obtain ⟨i0, hi0, hz0, hz1, hz2⟩ := info_parts kTx_ok.info
  have hm2 : cap ≤ 9223372036854775807 := by unfold maxLen at hm; omega
  obtain ⟨news, hnews⟩ : ∃ news, news = xs.drop ((i + 1) * 2) := ⟨_, rfl⟩
  obtain ⟨m, hm0⟩ : ∃ m, n = i + 1 + m := ⟨n - (i + 1), by omega⟩
  subst hm0
  have hlen : news.length = m * 2 := by rw [hnews, List.length_drop, hl]; omega
  obtain ⟨A, hA, hsrc⟩ : ∃ A : Addr, (if cap = i + 1 then some (⟨g, o, none⟩ : Addr) else some ⟨g, o + (i + 1) * 2, none⟩) = some A ∧ Hid (∀ t u, news[t]? = some u → w.drew.cell? (A.add t) = some u) := by
    by_cases h : cap = i + 1
    · refine ⟨⟨g, o, none⟩, by simp [h], fun t u hu => ?_⟩
      have h0 : news.length = 0 := by rw [hlen]; omega
      rw [List.length_eq_zero_iff.1 h0] at hu
      simp at hu
    · refine ⟨⟨g, o + (i + 1) * 2, none⟩, by simp [h], fun t u hu => ?_⟩
      have ht : t < m * 2 := by
        have := (List.getElem?_eq_some_iff.1 hu).1
        rwa [hlen] at this
      rw [hnews, List.getElem?_drop] at hu
      have e1 : w.cell? ⟨g, o + ((i + 1) * 2 + t), none⟩ = some u := by
        rw [cell_of_row _ _ _ _ _ _ hg, hx _ (by omega)]; exact hu
      rw [Addr.add_lit, show o + (i + 1) * 2 + t = o + ((i + 1) * 2 + t) by omega]
      exact e1
  have s2 : Hid (∀ u ∈ news, u.oneCell' = true) := fun u hu => by rw [hnews] at hu; exact h1 u (List.mem_of_mem_drop hu)
  obtain ⟨W1, hW1⟩ : ∃ W1, W1 = w.drew.setRow g (over cur (o + i * 2) news) := ⟨_, rfl⟩
  have hg1 : W1.heap[g]? = some (.cells (over cur (o + i * 2) news) 136 (0, 0)) := by rw [hW1]; exact setRow_heap w.drew g cur _ 136 _ hg
  have hcs : (over cur (o + i * 2) news).size = cur.size := over_size _ _ _ (by omega)
  obtain ⟨W2, hW2⟩ : ∃ W2, W2 = W1.setRow g (over (over cur (o + i * 2) news) (o + (i + m) * 2) [.int .i64 0, .int .i64 0]) := ⟨_, rfl⟩
  have hcl : ∀ ty c, (Builtin.clear_ #[70] ty #[.slice (some ⟨g, o + (i + m) * 2, none⟩) (i + 1 + m - (i + m)) c]).run Tryz.prog W1 = .ok (.tuple #[]) W2 := fun ty c => by
    rw [show i + 1 + m - (i + m) = 1 by omega]
    have := run_clear_one (P := Tryz.prog) (w := W1) 70 ty i0 (.agg #[.int .i64 0, .int .i64 0]) Tryz.underlying70 hi0 hz0 (fun u hu => by simp [Value.cells] at hu; first | (subst hu; rfl) | (rcases hu with rfl | rfl <;> rfl)) g (o + (i + m) * 2) c _ hg1 (by rw [hcs]; simp [Value.cells]; omega)
    rw [this, hW2]
    rfl
  have HW1 : Hid (W1 = w.drew.setRow g (over cur (o + i * 2) news)) := hW1
  have HW2 : Hid (W2 = W1.setRow g (over (over cur (o + i * 2) news) (o + (i + m) * 2) [.int .i64 0, .int .i64 0])) := hW2
  have HG1 := hid hg1
  have HG : Hid (w.heap[g]? = some (.cells cur 136 (0, 0))) := hg
  have HLEN := hid hlen
  have HX := hid hx
  have HL := hid hl
  have HN := hid hnews
  have hic : i ≤ cap := by omega
  have hi1 : (0 : Int) ≤ (i : Int) + 1 := by omega
  have hi2 : (i : Int) + 1 ≤ (i : Int) + 1 + (m : Int) := by omega
  have hjc : i + 1 ≤ cap := by omega
  have hic2 : i + m < cap := by omega
  have hfit : o + i * 2 + m * 2 ≤ cur.size := by omega
  clear hW1 hW2 hg1 hlen hx hl hg hnews h1 hcs
  go_enter Tryz.func144, Tryz.ntmps144
  go_wp2_with fail
  go_region_law (refine step_app_over rfl (.tmp 22) (.tmp 25) 70 rfl 136 i0 2 Tryz.underlying70 hi0 hz1 g o i cap cur HG.out (by simp [Act.eval, Act.put]) A m (cap - (i + 1)) news (by simp [Act.eval, Act.put]) HLEN.out hsrc.out s2.out (by omega) (by rw [HLEN.out]; omega) ?_; rw [← HW1.out])
  go_wp2
  go_ret
  have e1 : i + 1 + m - 1 = i + m := by omega
  rw [e1]
  obtain ⟨d1, d2⟩ := del_late (i := i) (zc := [.int .i64 0, .int .i64 0]) hs hn HX.out HL.out hi rfl
  rw [e1, ← HN.out] at d1 d2
  have hg2 : W2.heap[g]? = some (.cells (over (over cur (o + i * 2) news) (o + (i + m) * 2) [.int .i64 0, .int .i64 0]) 136 (0, 0)) := by rw [HW2.out]; exact setRow_heap W1 g _ _ 136 _ HG1.out
  refine ⟨rfl, ⟨_, hg2, d1, fun j hj => d2 j (by omega)⟩, ?_⟩
  · rw [HW2.out, HW1.out]
    exact ⟨rfl, rfl, rfl, by simp [World.setRow], fun k hk hne => by
      have : k ≠ g := fun e => hne (by rw [e])
      rw [setRow_other _ g k _ this, setRow_other _ g k _ this]; rfl⟩
theorem Vs_take {α : Type} {K : Kd α} (hK : K.fit) (l : List α) (i : Nat) (hi : i ≤ l.length) : (K.Vs l).take (i * K.sz) = K.Vs (l.take i) := by
  have e : K.Vs l = K.Vs (l.take i) ++ K.Vs (l.drop i) := by rw [← Kd.Vs_append, List.take_append_drop]
  have hl : (K.Vs (l.take i)).length = i * K.sz := by rw [hK.Vs_len, List.length_take, Nat.min_eq_left hi]
  rw [e, ← hl, List.take_left]
theorem Vs_drop {α : Type} {K : Kd α} (hK : K.fit) (l : List α) (i : Nat) (hi : i ≤ l.length) : (K.Vs l).drop (i * K.sz) = K.Vs (l.drop i) := by
  have e : K.Vs l = K.Vs (l.take i) ++ K.Vs (l.drop i) := by rw [← Kd.Vs_append, List.take_append_drop]
  have hl : (K.Vs (l.take i)).length = i * K.sz := by rw [hK.Vs_len, List.length_take, Nat.min_eq_left hi]
  rw [e, ← hl, List.drop_left]
theorem delV_Vs (l : List Tx) (i : Nat) (hi : i < l.length) : delV (kTx.Vs l) 2 i = kTx.Vs (l.eraseIdx i) := by
  have h1 := Vs_take kTx_ok.tofit l i (by omega)
  have h2 := Vs_drop kTx_ok.tofit l (i + 1) hi
  unfold delV
  rw [List.eraseIdx_eq_take_drop_succ, Kd.Vs_append, ← h1, ← h2]
theorem delete_any {w : World} {N b m c i : Nat} {l : List Tx} (h : OwnK kTx w N (.slice (some ⟨b, 0, none⟩) m c) l) (hl : l.length = m) (hi : i < m) : Calls Tryz.prog 144 #[.slice (some ⟨b, 0, none⟩) m c, .int .i64 (i : Nat), .int .i64 ((i : Nat) + 1)] w fun e w' => e = .returned (.slice (some ⟨b, 0, none⟩) (m - 1) c) ∧ OwnK kTx w' N (.slice (some ⟨b, 0, none⟩) (m - 1) c) (l.eraseIdx i) ∧ w.grownBy w' (some b) := by
  obtain ⟨h1, h2⟩ := h
  subst hl
  rcases h2 with ⟨e, -⟩ | ⟨b', cap, cur, e, hb, hg, hn, hm, hs, ht⟩
  · cases e
  cases e
  have hsz : kTx.sz = 2 := rfl
  have hT : kTx.T = 136 := rfl
  rw [hsz] at hs ht h1
  have hlen : (l.eraseIdx i).length = l.length - 1 := by rw [List.length_eraseIdx, if_pos hi]
  refine (deleteT_at w b 0 l.length c i cur (kTx.Vs l) hg hn hm (by omega) (fun j hj => ?_) h1 (kTx_ok.Vs_ones l) hi).mono ?_
  · rw [← ht, List.getElem?_take, if_pos hj, Nat.zero_add, Array.getElem?_toList]
  · rintro x w' ⟨rfl, ⟨cur', hc1, hc2, hc3⟩, hg'⟩
    refine ⟨rfl, ⟨?_, Or.inr ⟨b, c, cur', by rw [hlen], hb, hc1, by rw [hlen]; omega, hm, by rw [hc2, hs], ?_⟩⟩, hg'⟩
    · rw [kTx_ok.tofit.Vs_len]
    · rw [hlen, hsz, ← delV_Vs l i hi]
      have hd : (delV (kTx.Vs l) 2 i).length = (l.length - 1) * 2 := delV_len h1 hi
      apply List.ext_getElem?
      intro j
      by_cases hj : j < (l.length - 1) * 2
      · rw [List.getElem?_take, if_pos hj, Array.getElem?_toList, ← hc3 j hj, Nat.zero_add]
      · rw [List.getElem?_take, if_neg hj, List.getElem?_eq_none (by omega)]
end Go.Proofs.YtdifchlbnilenaaGreat
