/- A slice that lies anywhere inside a block: what it holds, what is appended to it, copied inside it, cleared of it. No function of the program is named here. -/
import Derived.Test.YtgbjlkaaniaaaaaDoorFoot
import Derived.ArgAppend
import Derived.Laws.CopyRow
import Derived.Laws.CopyOwn
namespace Go.Proofs.YtgbjlkaaniaaaaaDoor
open Go.RowKit

/-- In w the value v is a slice of n elements of the type e, size cells each, with the cells xs, somewhere inside a block. -/
def OffRow (w : World) (e : TypeId) (size : Nat) (v : Value) (n : Nat) (xs : List Value) : Prop :=
  xs.length = n * size ∧ ((v = .slice none 0 0 ∧ n = 0) ∨ ∃ g o cap cur, v = .slice (some ⟨g, o, none⟩) n cap ∧ w.heap[g]? = some (.cells cur e (0, 0)) ∧ n ≤ cap ∧ cap ≤ maxLen ∧ o + cap * size ≤ cur.size ∧ ∀ j, j < n * size → cur[o + j]? = xs[j]?)
variable {w w' : World} {e : TypeId} {size n : Nat} {v : Value} {xs : List Value}
theorem OffRow.nil (w : World) (e : TypeId) (size : Nat) : OffRow w e size (.slice none 0 0) 0 [] := ⟨by simp, Or.inl ⟨rfl, rfl⟩⟩
theorem OffRow.of_own {base : Nat} (h : w.ownsRow base e size v n xs) : OffRow w e size v n xs := by
  refine ⟨h.1, ?_⟩
  rcases h.2 with h2 | ⟨g, cap, cur, hv, -, hg, hn, hm, hs, ht⟩
  · exact Or.inl h2
  · refine Or.inr ⟨g, 0, cap, cur, hv, hg, hn, hm, by omega, fun j hj => ?_⟩
    rw [← ht, Nat.zero_add, List.getElem?_take, if_pos hj, Array.getElem?_toList]
theorem OffRow.keep (h : OffRow w e size v n xs) (hk : ∀ g, v.ownBlock = some g → w'.heap[g]? = w.heap[g]?) : OffRow w' e size v n xs := by
  refine ⟨h.1, ?_⟩
  rcases h.2 with h2 | ⟨g, o, cap, cur, hv, hg, r⟩
  · exact Or.inl h2
  · exact Or.inr ⟨g, o, cap, cur, hv, (hk g (by rw [hv]; rfl)).trans hg, r⟩
theorem OffRow.lt (h : OffRow w e size v n xs) : ∀ g, v.ownBlock = some g → g < w.heap.size := by
  intro g hg
  rcases h.2 with ⟨h2, _⟩ | ⟨g', o, cap, cur, hv, hb, r⟩
  · rw [h2] at hg; cases hg
  · rw [hv] at hg
    cases hg
    exact (Array.getElem?_eq_some_iff.1 hb).1
theorem OffRow.below (h : OffRow w e size v n xs) (hb : Below w.heap.size w w') : OffRow w' e size v n xs := h.keep (fun g hg => hb.block g (h.lt g hg))
theorem OffRow.chg {F : List Nat} (h : OffRow w e size v n xs) (hb : Chg F w w') (hn : ∀ g, v.ownBlock = some g → g ∉ F) : OffRow w' e size v n xs := h.keep (fun g hg => hb.block g (h.lt g hg) (hn g hg))
theorem OffRow.typed (h : OffRow w e size v n xs) {g : Nat} (hg : v.ownBlock = some g) : ∃ cur, w.heap[g]? = some (.cells cur e (0, 0)) := by
  rcases h.2 with ⟨h2, _⟩ | ⟨g', o, cap, cur, hv, hb, r⟩
  · rw [h2] at hg; cases hg
  · rw [hv] at hg
    cases hg
    exact ⟨cur, hb⟩
theorem OffRow.ne {T : TypeId} {cs : Array Value} {B : Nat} (h : OffRow w e size v n xs) (hB : w.heap[B]? = some (.cells cs T (0, 0))) (hT : T ≠ e) : v.ownBlock ≠ some B := fun hg => by
  obtain ⟨cur, hc⟩ := h.typed hg
  rw [hB] at hc
  injection hc with hc
  injection hc with _ h2
  exact hT h2
/-- The slice, its address and its cells. -/
theorem OffRow.cells (h : OffRow w e size v n xs) (h0 : 0 < n) : ∃ g o cap cur, v = .slice (some ⟨g, o, none⟩) n cap ∧ w.heap[g]? = some (.cells cur e (0, 0)) ∧ n ≤ cap ∧ cap ≤ maxLen ∧ o + cap * size ≤ cur.size ∧ (∀ j, j < n * size → cur[o + j]? = xs[j]?) ∧ ∀ j, j < n * size → w.cell? ⟨g, o + j, none⟩ = xs[j]? := by
  rcases h.2 with ⟨_, h2⟩ | ⟨g, o, cap, cur, hv, hb, r1, r2, r3, r4⟩
  · omega
  · exact ⟨g, o, cap, cur, hv, hb, r1, r2, r3, r4, fun j hj => by rw [cell_of_row _ _ _ _ _ _ hb]; exact r4 j hj⟩
theorem OffRow.form (h : OffRow w e size v n xs) : ∃ ad cap, v = .slice ad n cap ∧ n ≤ cap ∧ cap ≤ maxLen := by
  rcases h.2 with ⟨h1, h2⟩ | ⟨g, o, cap, cur, hv, hb, r1, r2, r3, r4⟩
  · exact ⟨none, 0, by rw [h1, h2], by omega, by unfold maxLen; omega⟩
  · exact ⟨_, cap, hv, r1, r2⟩
/-- Where what is appended comes from. -/
def Src (w : World) (ad : Option Addr) (m : Nat) (news : List Value) : Prop := (ad = none ∧ m = 0) ∨ ∃ a, ad = some a ∧ ∀ j u, news[j]? = some u → w.cell? (a.add j) = some u
theorem grownBy_none (w : World) (row : Option Nat) : w.grownBy w row := ⟨rfl, rfl, rfl, Nat.le_refl _, fun _ _ _ => rfl⟩
theorem list_splice_get (L : List Value) (o k m : Nat) (xs news : List Value) (hx : ∀ j, j < k → L[o + j]? = xs[j]?) (hk : xs.length = k) (hm : news.length = m) (hl : o + k + m ≤ L.length) :
    ∀ j, j < k + m → (L.take (o + k) ++ news ++ L.drop (o + k + m))[o + j]? = (xs ++ news)[j]? := by
  intro j hj
  have h1 : (L.take (o + k)).length = o + k := by rw [List.length_take]; omega
  by_cases hjk : j < k
  · rw [List.append_assoc, List.getElem?_append_left (by omega), List.getElem?_take, if_pos (by omega), hx j hjk, List.getElem?_append_left (by omega)]
  · rw [List.append_assoc, List.getElem?_append_right (by omega), List.getElem?_append_left (by omega), List.getElem?_append_right (by omega), h1, hk]
    congr 1
    omega
/-- 'append(v, x...)'. -/
theorem run_app_off {P : Program} (t ty : TypeId) (i : TypeInfo) (z : Value) (bytes : Nat) (ht : P.underlying t = some (.slice e)) (hi : P.info? e = some i) (hz : i.zero = some z) (hsize : i.size = size) (hby : i.bytes = bytes) (hzs : z.cells.size = size) (hsz : 0 < size)
    (h : OffRow w e size v n xs) (ad : Option Addr) (m c : Nat) (news : List Value) (hl : news.length = m * size) (hsrc : Src w ad m news) (h1 : ∀ u ∈ news, u.oneCell' = true) (h63 : n + m ≤ maxLen) (hbytes : (n + m) * bytes ≤ 140737488355328) :
    ∃ v' w', (Builtin.append_ #[t, t] ty #[v, .slice ad m c]).run P w = .ok v' w' ∧ OffRow w' e size v' (n + m) (xs ++ news) ∧ w.grownBy w' v.ownBlock ∧ (∀ g, v'.ownBlock = some g → v.ownBlock = some g ∨ w.heap.size ≤ g) := by
  subst hsize
  subst hby
  have hlen : (xs ++ news).length = (n + m) * i.size := by rw [List.length_append, h.1, hl, Nat.add_mul]
  rcases hsrc with ⟨rfl, rfl⟩ | ⟨a, rfl, hnews⟩
  · have hn0 : news = [] := List.eq_nil_of_length_eq_zero (by simpa using hl)
    subst hn0
    refine ⟨v, w, ?_, by simpa using h, grownBy_none _ _, fun g hg => Or.inl hg⟩
    rcases h.2 with ⟨rfl, rfl⟩ | ⟨g, o, cap, cur, rfl, hg, hn, hm, hs, ht2⟩
    · simp [Builtin.append_, run_underlying ht, sizeOf, typeInfo, hi, Builtin.lenOf, run_firstCells_none]
    · simp [Builtin.append_, run_underlying ht, sizeOf, typeInfo, hi, Builtin.lenOf, run_firstCells_none, hn, storeCells]
  · rcases h.2 with ⟨rfl, rfl⟩ | ⟨g, o, cap, cur, rfl, hg, hn, hm, hs, hc⟩
    · have hx0 : xs = [] := List.eq_nil_of_length_eq_zero (by simpa using h.1)
      subst hx0
      obtain ⟨v', w', hr, h2, h3, -⟩ := run_append_own (P := P) w w.heap.size t ty e i z i.size i.bytes ht hi hz rfl rfl hzs hsz (.slice none 0 0) 0 [] (World.ownsRow_nil _ _ _ _) a m c news hl hnews h1 h63 hbytes (Nat.le_refl _)
      refine ⟨v', w', hr, OffRow.of_own h2, h3, fun g hg => Or.inr ?_⟩
      exact (h2.lt g hg).1
    · by_cases hroom : n + m ≤ cap
      · have hfc := run_firstCells_some (P := P) w i.size m a m c news hl hnews
        have hms : (n + m) * i.size ≤ cap * i.size := Nat.mul_le_mul_right _ hroom
        rw [Nat.add_mul] at hms
        have hst := run_storeCells_at P g (o + n * i.size) e news 0 cur w hg (by omega) h1
        simp only [Nat.add_zero] at hst
        refine ⟨.slice (some ⟨g, o, none⟩) (n + m) cap, w.setRow g (cur.toList.take (o + n * i.size) ++ news ++ cur.toList.drop (o + n * i.size + news.length)).toArray, ?_, ⟨hlen, Or.inr ⟨g, o, cap, (cur.toList.take (o + n * i.size) ++ news ++ cur.toList.drop (o + n * i.size + news.length)).toArray, rfl, setRow_heap w g cur _ e _ hg, hroom, hm, ?_, ?_⟩⟩, ⟨rfl, rfl, rfl, by simp [World.setRow], fun k hk hne => setRow_other w g k _ (fun e => hne (by rw [e]; rfl))⟩, fun g' hg' => Or.inl hg'⟩
        · simp [Builtin.append_, run_underlying ht, sizeOf, typeInfo, hi, Builtin.lenOf, hroom, hfc, Addr.add_lit, hst]
        · simp
          omega
        · intro j hj
          rw [Nat.add_mul, ← hl] at hj
          rw [List.getElem?_toArray]
          exact list_splice_get cur.toList o (n * i.size) news.length xs news (fun j hj => by rw [Array.getElem?_toList]; exact hc j hj) h.1 rfl (by simp; omega) j hj
      · have holds : ∀ j u, xs[j]? = some u → w.cell? ((⟨g, o, none⟩ : Addr).add j) = some u := fun j u hu => by
          have hj : j < xs.length := (List.getElem?_eq_some_iff.1 hu).1
          rw [addr_add, cell_of_row _ _ _ _ _ _ hg, hc j (by rw [← h.1]; exact hj), hu]
        obtain ⟨v', w', hr, h2, h3⟩ := run_append_arg_grows (P := P) w t ty e i z i.size i.bytes ht hi hz rfl rfl hzs hsz ⟨g, o, none⟩ n cap xs h.1 holds a m c news hl hnews (by omega) h63 hbytes
        exact ⟨v', w', hr, OffRow.of_own h2, ⟨h3.os, h3.tape, h3.output, h3.size, fun k hk _ => h3.block k hk (by simp)⟩, fun g' hg' => Or.inr (h2.lt g' hg').1⟩
/-- 'copy(v[p:], v[q:])' inside one block: the cells cs that lie at q, laid from p on. -/
theorem run_copy_off {P : Program} (dT sT ty : TypeId) (i : TypeInfo) (hu : P.underlying dT = some (.slice e)) (hi : P.info? e = some i) (g o dLen dCap : Nat) (a : Addr) (sLen sCap k : Nat) (cur : Array Value) (cs : List Value)
    (hg : w.heap[g]? = some (.cells cur e (0, 0))) (hk : Nat.min sLen dLen = k) (hn : cs.length = k * i.size) (hsrc : ∀ j v, cs[j]? = some v → w.cell? (a.add j) = some v) (hfit : o + cs.length ≤ cur.size) (h1 : ∀ v ∈ cs, v.oneCell' = true) :
    (Builtin.copy_ #[dT, sT] ty #[.slice (some ⟨g, o, none⟩) dLen dCap, .slice (some a) sLen sCap]).run P w = .ok (goInt k) (w.setRow g (cur.toList.take o ++ cs ++ cur.toList.drop (o + cs.length)).toArray) := by
  have hl := run_firstCells_some (P := P) w i.size k a sLen sCap cs hn hsrc
  have hst := run_storeCells_at P g o e cs 0 cur w hg (by simpa using hfit) h1
  simp only [Nat.add_zero] at hst
  simp [Builtin.copy_, run_underlying hu, Builtin.lenOf, sizeOf, typeInfo, hi, hk, hl, hst]
/-- 'clear' of one element. -/
theorem run_clear_one {P : Program} (t ty : TypeId) (i : TypeInfo) (z : Value) (ht : P.underlying t = some (.slice e)) (hi : P.info? e = some i) (hz : i.zero = some z) (h1 : ∀ u ∈ z.cells.toList, u.oneCell' = true) (g o c : Nat) (cur : Array Value)
    (hg : w.heap[g]? = some (.cells cur e (0, 0))) (hfit : o + z.cells.size ≤ cur.size) :
    (Builtin.clear_ #[t] ty #[.slice (some ⟨g, o, none⟩) 1 c]).run P w = .ok (.tuple #[]) (w.setRow g (cur.toList.take o ++ z.cells.toList ++ cur.toList.drop (o + z.cells.size)).toArray) := by
  have hst := run_storeCells_at P g o e z.cells.toList 0 cur w hg (by simpa using hfit) h1
  simp only [Nat.add_zero, Array.length_toList] at hst
  have hzc : (Builtin.zeroCells z.cells 1).toList = z.cells.toList := by
    apply List.ext_getElem
    · simp [Builtin.zeroCells]
    · intro k k1 k2
      simp [Builtin.zeroCells] at k1 k2 ⊢
      simp [Nat.mod_eq_of_lt k2, getElem!_pos, k2]
  simp [Builtin.clear_, run_underlying ht, zeroValue, typeInfo, hi, hz, hzc, hst]
end Go.Proofs.YtgbjlkaaniaaaaaDoor
