/- One element taken out of a row, either side moved; what append and copy are inside a region that draws its order. No function of the program is named here. -/
import Derived.Test.YtgbjlkaaniaaaaaDoorNLooks
import Derived.Deep.RegionLaw
namespace Go.Proofs.YtgbjlkaaniaaaaaDoor
open Go.RowKit

/-- Cells laid over others. -/
def over (cur : Array Value) (p : Nat) (news : List Value) : Array Value := (cur.toList.take p ++ news ++ cur.toList.drop (p + news.length)).toArray
theorem over_size (cur : Array Value) (p : Nat) (news : List Value) (h : p + news.length ≤ cur.size) : (over cur p news).size = cur.size := by
  simp [over]; omega
theorem over_get (cur : Array Value) (p : Nat) (news : List Value) (h : p + news.length ≤ cur.size) (j : Nat) :
    (over cur p news)[j]? = if j < p then cur[j]? else if j < p + news.length then news[j - p]? else cur[j]? := by
  have h1 : (cur.toList.take p).length = p := by simp; omega
  unfold over
  rw [List.getElem?_toArray, List.append_assoc]
  by_cases hj : j < p
  · rw [if_pos hj, List.getElem?_append_left (by omega), List.getElem?_take, if_pos hj, Array.getElem?_toList]
  · rw [if_neg hj, List.getElem?_append_right (by omega), h1]
    by_cases hj2 : j < p + news.length
    · rw [if_pos hj2, List.getElem?_append_left (by omega)]
    · rw [if_neg hj2, List.getElem?_append_right (by omega), List.getElem?_drop, Array.getElem?_toList]
      congr 1
      omega
/-- What stands ahead of element i and behind it. -/
def delV (xs : List Value) (size i : Nat) : List Value := xs.take (i * size) ++ xs.drop ((i + 1) * size)
theorem delV_len {xs : List Value} {size n i : Nat} (hl : xs.length = n * size) (hi : i < n) : (delV xs size i).length = (n - 1) * size := by
  have h1 : (i + 1) * size ≤ n * size := Nat.mul_le_mul_right _ (by omega)
  have h2 : (i + 1) * size = i * size + size := by rw [Nat.add_mul]; omega
  have h3 : (n - 1) * size = n * size - size := by rw [Nat.sub_mul]; omega
  unfold delV
  rw [List.length_append, List.length_take, List.length_drop, hl]
  omega
theorem delV_get {xs : List Value} {size n i : Nat} (hl : xs.length = n * size) (hi : i < n) (j : Nat) : (delV xs size i)[j]? = if j < i * size then xs[j]? else xs[j + size]? := by
  have h1 : (i + 1) * size ≤ n * size := Nat.mul_le_mul_right _ (by omega)
  have h2 : (i + 1) * size = i * size + size := by rw [Nat.add_mul]; omega
  unfold delV
  by_cases hj : j < i * size
  · rw [if_pos hj, List.getElem?_append_left (by rw [List.length_take]; omega), List.getElem?_take, if_pos hj]
  · rw [if_neg hj, List.getElem?_append_right (by rw [List.length_take]; omega), List.getElem?_drop, List.length_take]
    congr 1
    omega
/-- The later ones moved, the last one cleared. -/
theorem del_late {cur : Array Value} {o n cap size i : Nat} {xs zc : List Value} (hs : o + cap * size ≤ cur.size) (hn : n ≤ cap) (hx : ∀ j, j < n * size → cur[o + j]? = xs[j]?) (hl : xs.length = n * size) (hi : i < n) (hz : zc.length = size) :
    (over (over cur (o + i * size) (xs.drop ((i + 1) * size))) (o + (n - 1) * size) zc).size = cur.size ∧ ∀ j, j < (n - 1) * size → (over (over cur (o + i * size) (xs.drop ((i + 1) * size))) (o + (n - 1) * size) zc)[o + j]? = (delV xs size i)[j]? := by
  have h1 : (i + 1) * size ≤ n * size := Nat.mul_le_mul_right _ (by omega)
  have h2 : (i + 1) * size = i * size + size := by rw [Nat.add_mul]; omega
  have h3 : (n - 1) * size = n * size - size := by rw [Nat.sub_mul]; omega
  have h4 : n * size ≤ cap * size := Nat.mul_le_mul_right _ hn
  have hd : (xs.drop ((i + 1) * size)).length = n * size - (i + 1) * size := by rw [List.length_drop, hl]
  have e1 : (over cur (o + i * size) (xs.drop ((i + 1) * size))).size = cur.size := over_size _ _ _ (by omega)
  refine ⟨by rw [over_size _ _ _ (by omega), e1], fun j hj => ?_⟩
  rw [over_get _ _ _ (by omega), if_pos (by omega), over_get _ _ _ (by omega), delV_get hl hi]
  by_cases hji : j < i * size
  · rw [if_pos (by omega), if_pos hji, hx j (by omega)]
  · rw [if_neg (by omega), if_pos (by omega), if_neg hji, List.getElem?_drop]
    congr 1
    omega
/-- The earlier ones moved, the first one cleared: the row then begins one later. -/
theorem del_early {cur : Array Value} {o n cap size i : Nat} {xs zc : List Value} (hs : o + cap * size ≤ cur.size) (hn : n ≤ cap) (hx : ∀ j, j < n * size → cur[o + j]? = xs[j]?) (hl : xs.length = n * size) (hi : i < n) (hz : zc.length = size) :
    (over (over cur (o + size) (xs.take (i * size))) o zc).size = cur.size ∧ ∀ j, j < (n - 1) * size → (over (over cur (o + size) (xs.take (i * size))) o zc)[o + size + j]? = (delV xs size i)[j]? := by
  have h1 : (i + 1) * size ≤ n * size := Nat.mul_le_mul_right _ (by omega)
  have h2 : (i + 1) * size = i * size + size := by rw [Nat.add_mul]; omega
  have h3 : (n - 1) * size = n * size - size := by rw [Nat.sub_mul]; omega
  have h4 : n * size ≤ cap * size := Nat.mul_le_mul_right _ hn
  have hd : (xs.take (i * size)).length = i * size := by rw [List.length_take, hl]; omega
  have e1 : (over cur (o + size) (xs.take (i * size))).size = cur.size := over_size _ _ _ (by omega)
  refine ⟨by rw [over_size _ _ _ (by omega), e1], fun j hj => ?_⟩
  rw [over_get _ _ _ (by omega), if_neg (by omega), if_neg (by omega), over_get _ _ _ (by omega), delV_get hl hi]
  by_cases hji : j < i * size
  · rw [if_neg (by omega), if_pos (by omega), if_pos hji, List.getElem?_take, if_pos (by omega)]
    congr 1
    omega
  · rw [if_neg (by omega), if_neg (by omega), if_neg hji, show o + size + j = o + (j + size) by omega, hx _ (by omega)]
variable {P : Program} {ops : Array Oper} {o : Oper} {a : Act} {w : World} {K : Act → World → Prop} {Q : Exit → Act → World → Prop} {E : Prop}
/-- 'append(s[:i], s[j:]...)' where there is room. -/
theorem step_app_over (hgd : o.guard = none) (x y : Operand) (t : TypeId) (ho : o.op = .call { callee := .builtin .append, args := #[x, y], argTypes := #[t, t] })
    (e : TypeId) (i : TypeInfo) (size : Nat) (ht : P.underlying t = some (.slice e)) (hi : P.info? e = some i) (hsize : i.size = size)
    (g off n cap : Nat) (cur : Array Value) (hg : w.heap[g]? = some (.cells cur e (0, 0))) (hx : a.eval x = .slice (some ⟨g, off, none⟩) n cap) (ad : Addr) (m c : Nat) (news : List Value) (hy : a.eval y = .slice (some ad) m c)
    (hl : news.length = m * size) (hnews : ∀ j u, news[j]? = some u → w.cell? (ad.add j) = some u) (h1 : ∀ u ∈ news, u.oneCell' = true) (hroom : n + m ≤ cap) (hfit : off + n * size + news.length ≤ cur.size)
    (hK : K (a.put o.dst (.slice (some ⟨g, off, none⟩) (n + m) cap)) (w.setRow g (over cur (off + n * size) news))) :
    if Region.wanted o (yielded ops a.tmps) = true then Oper.wp P o a w K Q else E := by
  have hw : Region.wanted o (yielded ops a.tmps) = true := by simp [Region.wanted, hgd]
  rw [if_pos hw]
  subst hsize
  have hfc := run_firstCells_some (P := P) w i.size m ad m c news hl hnews
  have hst := run_storeCells_at P g (off + n * i.size) e news 0 cur w hg (by omega) h1
  simp only [Nat.add_zero] at hst
  have hr : (Builtin.append_ #[t, t] o.type #[.slice (some ⟨g, off, none⟩) n cap, .slice (some ad) m c]).run P w = .ok (.slice (some ⟨g, off, none⟩) (n + m) cap) (w.setRow g (over cur (off + n * i.size) news)) := by
    simp [Builtin.append_, run_underlying ht, sizeOf, typeInfo, hi, Builtin.lenOf, hroom, hfc, Addr.add_lit, hst, over]
  unfold Oper.wp
  simp [execOp, ho, resolve, invoke, builtin, hx, hy, hr, Result.andThen]
  exact hK
/-- 'copy(s[1:], s[:k])'. -/
theorem step_copy_over (hgd : o.guard = none) (x y : Operand) (t : TypeId) (ho : o.op = .call { callee := .builtin .copy, args := #[x, y], argTypes := #[t, t] })
    (e : TypeId) (i : TypeInfo) (size : Nat) (ht : P.underlying t = some (.slice e)) (hi : P.info? e = some i) (hsize : i.size = size)
    (g off dLen dCap : Nat) (cur : Array Value) (hg : w.heap[g]? = some (.cells cur e (0, 0))) (hx : a.eval x = .slice (some ⟨g, off, none⟩) dLen dCap) (ad : Addr) (k c : Nat) (cs : List Value) (hy : a.eval y = .slice (some ad) k c)
    (hk : k ≤ dLen) (hl : cs.length = k * size) (hsrc : ∀ j u, cs[j]? = some u → w.cell? (ad.add j) = some u) (h1 : ∀ u ∈ cs, u.oneCell' = true) (hfit : off + cs.length ≤ cur.size)
    (hK : K (a.put o.dst (goInt k)) (w.setRow g (over cur off cs))) :
    if Region.wanted o (yielded ops a.tmps) = true then Oper.wp P o a w K Q else E := by
  have hw : Region.wanted o (yielded ops a.tmps) = true := by simp [Region.wanted, hgd]
  rw [if_pos hw]
  subst hsize
  have hr : (Builtin.copy_ #[t, t] o.type #[.slice (some ⟨g, off, none⟩) dLen dCap, .slice (some ad) k c]).run P w = .ok (goInt k) (w.setRow g (over cur off cs)) := run_copy_off (P := P) (w := w) t t o.type i ht hi g off dLen dCap ad k c k cur cs hg (Nat.min_eq_left hk) hl hsrc hfit h1
  unfold Oper.wp
  simp [execOp, ho, resolve, invoke, builtin, hx, hy, hr, Result.andThen]
  exact hK
end Go.Proofs.YtgbjlkaaniaaaaaDoor
