/- What is pending: a struct stored in the midst of a slice of one's own, the rest of such a slice cleared. No function of the program is named here. marks of package group; slices.IndexFunc, ContainsFunc and DeleteFunc of what is pending (by genmarks15.py). -/
import Derived.Test.YtipgociofjokeaaGreatGMem
import Derived.Test.YtipgociofjokeaaGreatPGEv
import Derived.WalkLawsBesides
namespace Go.Proofs.YtipgociofjokeaaGreat
open Go.RowKit Go.Shelf
variable {α : Type} {K : Kd α} {w w' : World} {base g m cap : Nat} {L : List α}

theorem Vs_setK (hK : K.fit) : ∀ (L : List α) (i : Nat) (z : α), i < L.length → K.Vs (L.set i z) = (K.Vs L).take (i * K.sz) ++ K.V z ++ (K.Vs L).drop (i * K.sz + K.sz)
  | [], i, z, h => by simp at h
  | a :: L, 0, z, _ => by
    have e : K.Vs (a :: L) = K.V a ++ K.Vs L := rfl
    have h1 := hK.len a
    show K.V z ++ K.Vs L = _
    rw [e, Nat.zero_mul, List.take_zero, List.nil_append, Nat.zero_add, List.drop_append_of_le_length (by omega), List.drop_of_length_le (by omega), List.nil_append]
  | a :: L, i + 1, z, h => by
    have e : K.Vs (a :: L) = K.V a ++ K.Vs L := rfl
    have h1 := hK.len a
    have ih := Vs_setK hK L i z (by simpa using h)
    show K.V a ++ K.Vs (L.set i z) = _
    rw [ih, e]
    have h2 : (i + 1) * K.sz = (K.V a).length + i * K.sz := by rw [h1, Nat.add_mul]; omega
    rw [h2, List.take_length_add_append, Nat.add_assoc, List.drop_length_add_append]
    simp only [List.append_assoc]
theorem Vs_takeK (hK : K.fit) (L : List α) (k : Nat) : (K.Vs L).take (k * K.sz) = K.Vs (L.take k) := by
  induction L generalizing k with
  | nil => simp [Kd.Vs]
  | cons a L ih =>
    have e : K.Vs (a :: L) = K.V a ++ K.Vs L := rfl
    have h1 := hK.len a
    cases k with
    | zero => simp [Kd.Vs]
    | succ k =>
      have h2 : (k + 1) * K.sz = (K.V a).length + k * K.sz := by rw [h1, Nat.add_mul]; omega
      rw [e, h2, List.take_length_add_append, ih]
      rfl
theorem take_patch {β : Type} (xs vs : List β) (o n : Nat) (h1 : o + vs.length ≤ n) (h2 : n ≤ xs.length) : (xs.take o ++ vs ++ xs.drop (o + vs.length)).take n = (xs.take n).take o ++ vs ++ (xs.take n).drop (o + vs.length) := by
  rw [List.take_append, List.take_append, List.length_append, List.length_take, Nat.min_eq_left (by omega), List.take_take, List.take_take, List.drop_take]
  rw [Nat.min_comm n o, List.take_of_length_le (show vs.length ≤ n - o by omega)]
theorem take_patch_low {β : Type} (xs vs : List β) (o n : Nat) (h1 : n ≤ o) (h2 : o ≤ xs.length) : (xs.take o ++ vs ++ xs.drop (o + vs.length)).take n = xs.take n := by
  rw [List.append_assoc, List.take_append_of_le_length (by rw [List.length_take]; omega), List.take_take, Nat.min_eq_left h1]
/-- The block of a slice of one's own. -/
theorem OwnK.opened (h : OwnK K w base (.slice (some ⟨g, 0, none⟩) m cap) L) : ∃ cur, w.heap[g]? = some (.cells cur K.T (0, 0)) ∧ L.length = m ∧ m ≤ cap ∧ cap ≤ maxLen ∧ cap * K.sz ≤ cur.size ∧ cur.toList.take (m * K.sz) = K.Vs L ∧ base ≤ g := by
  rcases h.2 with ⟨e, -⟩ | ⟨g', cap', cur, e, hb, hg, h1, h2, h3, h4⟩
  · cases e
  · injection e with e1 e2 e3
    injection e1 with e1
    injection e1 with e1
    subst e1 e3
    rw [e2]
    exact ⟨cur, hg, rfl, h1, h2, by omega, h4, hb⟩
theorem OwnK.setAt (hK : K.fit) (h : OwnK K w base (.slice (some ⟨g, 0, none⟩) m cap) L) (i : Nat) (hi : i < m) (z : α) {cur : Array Value} (hg : w.heap[g]? = some (.cells cur K.T (0, 0))) :
    i * K.sz + (K.V z).length ≤ cur.size ∧ OwnK K (w.setRow g (cur.toList.take (i * K.sz) ++ K.V z ++ cur.toList.drop (i * K.sz + (K.V z).length)).toArray) base (.slice (some ⟨g, 0, none⟩) m cap) (L.set i z) := by
  rcases h.2 with ⟨e, -⟩ | ⟨g', cap', cur', e, hb, hg', h1, h2, h3, h4⟩
  · cases e
  · injection e with e1 e2 e3
    injection e1 with e1
    injection e1 with e1
    subst e1 e3
    rw [hg] at hg'
    injection hg' with hg'
    injection hg' with hg'
    subst hg'
    have hz := hK.len z
    have hm : m = L.length := e2
    have h5 : (i + 1) * K.sz ≤ m * K.sz := Nat.mul_le_mul_right _ hi
    have h6 : m * K.sz ≤ cap * K.sz := Nat.mul_le_mul_right _ (by omega)
    have h7 : (i + 1) * K.sz = i * K.sz + K.sz := by rw [Nat.add_mul]; omega
    have h8 : cap * K.sz ≤ cur.size := by omega
    refine ⟨by omega, ?_⟩
    unfold OwnK
    rw [List.length_set]
    refine ⟨by rw [hK.Vs_len, List.length_set], .inr ⟨g, cap, _, by rw [hm], hb, setRow_heap _ _ _ _ _ _ hg, h1, h2, ?_, ?_⟩⟩
    · simp only [List.size_toArray, List.length_append, List.length_take, List.length_drop, Array.length_toList]
      omega
    · show (cur.toList.take (i * K.sz) ++ K.V z ++ cur.toList.drop (i * K.sz + (K.V z).length)).take (L.length * K.sz) = _
      rw [← hm, take_patch _ _ _ _ (by omega) (by rw [Array.length_toList]; omega), Vs_setK hK L i z (by omega), hz, ← h4, ← hm]
/-- .. cut to its first k, whatever becomes of what lies behind. -/
theorem OwnK.cutAt (hK : K.fit) (h : OwnK K w base (.slice (some ⟨g, 0, none⟩) m cap) L) (k : Nat) (hk : k ≤ m) (vs : List Value) {cur : Array Value} (hg : w.heap[g]? = some (.cells cur K.T (0, 0))) (hv : k * K.sz + vs.length ≤ cur.size) :
    OwnK K (w.setRow g (cur.toList.take (k * K.sz) ++ vs ++ cur.toList.drop (k * K.sz + vs.length)).toArray) base (.slice (some ⟨g, 0, none⟩) k cap) (L.take k) := by
  rcases h.2 with ⟨e, -⟩ | ⟨g', cap', cur', e, hb, hg', h1, h2, h3, h4⟩
  · cases e
  · injection e with e1 e2 e3
    injection e1 with e1
    injection e1 with e1
    subst e1 e3
    rw [hg] at hg'
    injection hg' with hg'
    injection hg' with hg'
    subst hg'
    have hm : m = L.length := e2
    have h5 : k * K.sz ≤ m * K.sz := Nat.mul_le_mul_right _ hk
    unfold OwnK
    have hl : (L.take k).length = k := by rw [List.length_take]; omega
    rw [hl]
    refine ⟨by rw [hK.Vs_len, hl], .inr ⟨g, cap, _, rfl, hb, setRow_heap _ _ _ _ _ _ hg, by omega, h2, ?_, ?_⟩⟩
    · simp only [List.size_toArray, List.length_append, List.length_take, List.length_drop, Array.length_toList]
      omega
    · show (cur.toList.take (k * K.sz) ++ vs ++ cur.toList.drop (k * K.sz + vs.length)).take (k * K.sz) = _
      rw [take_patch_low _ _ _ _ (Nat.le_refl _) (by rw [Array.length_toList]; omega), ← Vs_takeK hK, ← h4, List.take_take, ← hm, Nat.min_eq_left h5]
/-- 'clear' of the elements behind the first k. -/
theorem clear_rest (hK : K.ok) (hz1 : ∀ u ∈ K.zero.cells.toList, u.oneCell' = true) (k n c : Nat) (ty : TypeId) {cur : Array Value} (hg : w.heap[g]? = some (.cells cur K.T (0, 0))) (hn : 0 < n) (hfit : k * K.sz + n * K.sz ≤ cur.size) :
    ∃ vs : List Value, vs.length = n * K.sz ∧ (Builtin.clear_ #[K.S] ty #[.slice (some ⟨g, k * K.sz, none⟩) n c]).run Tryz.prog w = .ok (.tuple #[]) (w.setRow g (cur.toList.take (k * K.sz) ++ vs ++ cur.toList.drop (k * K.sz + vs.length)).toArray) := by
  obtain ⟨i0, hi, hz0, hz1', hz2⟩ := info_parts hK.info
  have hzs := hK.zsz
  refine ⟨(Builtin.zeroCells K.zero.cells n).toList, by simp [Builtin.zeroCells, hzs], ?_⟩
  have hst := run_storeCells_at Tryz.prog g (k * K.sz) K.T (Builtin.zeroCells K.zero.cells n).toList 0 cur w hg (by simp [Builtin.zeroCells, hzs]; omega) (fun v hv => by
    simp only [Builtin.zeroCells, Array.toList_map, Array.toList_range, List.mem_map, List.mem_range] at hv
    obtain ⟨j, hj, rfl⟩ := hv
    have hp := hK.pos
    have : j % K.zero.cells.size < K.zero.cells.size := Nat.mod_lt _ (by omega)
    rw [getElem!_pos K.zero.cells _ this]
    exact hz1 _ (by simp))
  simp only [Nat.add_zero] at hst
  obtain ⟨n', rfl⟩ : ∃ n', n = n' + 1 := ⟨n - 1, by omega⟩
  simp [Builtin.clear_, run_underlying hK.und, zeroValue, typeInfo, hi, hz0, hst]
end Go.Proofs.YtipgociofjokeaaGreat
namespace Go.Proofs.YtipgociofjokeaaGreat
open Go.RowKit Go.Shelf
variable {w w' : World} {ad : Option Addr} {m c : Nat} {l : List (Int × Int × Int)}

abbrev pd0 : Int × Int × Int := (0, 0, 0)
set_option maxRecDepth 100000 in
theorem marks_any (x : Ev) (y : Int × Int × Int) (w : World) : Calls Tryz.prog 49 #[.agg (evA x), .agg #[.int .i64 y.1, .int .i64 y.2.1, .int .i64 y.2.2]] w fun r w' => r = .returned (.bool (y.1 == x.prod)) ∧ Below w.heap.size w w' := by
  obtain ⟨k, s, a, b, c, d, e, f, q⟩ := x
  obtain ⟨y0, y1, y2⟩ := y
  show Calls Tryz.prog 49 #[.agg #[.int .i64 k, .string (nmS s), .int .i64 a, .int .i64 b, .int .i64 c, .int .i64 d, .int .i64 e, .int .i64 f, .bool q], .agg #[.int .i64 y0, .int .i64 y1, .int .i64 y2]] w fun r w' => r = .returned (.bool (y0 == d)) ∧ Below w.heap.size w w'
  generalize nmS s = t
  go_enter Tryz.func49, Tryz.ntmps49
  go_wp2_with fail
  go_ret
  exact ⟨by first | rfl | simp [Bool.beq_eq_decide_eq] | (by_cases h : y0 = d <;> simp [h]), ((Below.refl _ w).alloc (Nat.le_refl _) _).alloc (by simp) _⟩
/-- Where the first one lies that a producer has pending; -1: none. -/
def idxP (pr : Int) (l : List (Int × Int × Int)) : Int := if pendOf pr l then ((l.findIdx (fun y => y.1 == pr) : Nat) : Int) else -1
theorem idxP_hit {pr : Int} {j : Nat} (h : ∀ i, i < j → ((l.getD i pd0).1 == pr) = false) (hj : j < l.length) (hp : ((l.getD j pd0).1 == pr) = true) : idxP pr l = (j : Int) := by
  have hgd : ∀ i (hi : i < l.length), l.getD i pd0 = l[i] := fun i hi => by rw [List.getD_eq_getElem?_getD, List.getElem?_eq_getElem hi]; rfl
  rw [hgd j hj] at hp
  have h1 : pendOf pr l = true := by unfold pendOf; rw [List.any_eq_true]; exact ⟨l[j], List.getElem_mem hj, hp⟩
  have h2 : l.findIdx (fun y => y.1 == pr) = j := by
    rw [List.findIdx_eq hj]
    refine ⟨hp, fun i hi => ?_⟩
    have := h i hi
    rwa [hgd i (by omega)] at this
  unfold idxP
  rw [if_pos h1, h2]
theorem idxP_none {pr : Int} (h : ∀ i, i < l.length → ((l.getD i pd0).1 == pr) = false) : idxP pr l = -1 := by
  have h1 : ¬ pendOf pr l = true := by
    unfold pendOf
    rw [List.any_eq_true]
    rintro ⟨y, hy, hp⟩
    obtain ⟨i, hi, rfl⟩ := List.getElem_of_mem hy
    have := h i hi
    rw [List.getD_eq_getElem?_getD, List.getElem?_eq_getElem hi] at this
    rw [show (some l[i]).getD pd0 = l[i] from rfl] at this
    rw [this] at hp
    cases hp
  unfold idxP
  rw [if_neg h1]
set_option maxRecDepth 100000 in
set_option maxHeartbeats 1000000 in
theorem indexP (x : Ev) (h : ArgK kPd w l ad m c) : Calls Tryz.prog 60 #[.slice ad m c, .func (.func 49) #[.agg (evA x)] #[]] w fun r w' => r = .returned (.int .i64 (idxP x.prod l)) ∧ Below w.heap.size w w' := by
  have H := hid h
  have hm : m ≤ 9223372036854775807 := by have := h.cap; have := h.room; unfold maxLen at this; omega
  clear h
  have HMk : Hid (∀ (y : Int × Int × Int) W, Calls Tryz.prog 49 #[.agg (evA x), .agg #[.int .i64 y.1, .int .i64 y.2.1, .int .i64 y.2.2]] W fun r w' => r = .returned (.bool (y.1 == x.prod)) ∧ Below W.heap.size W w') := fun y W => marks_any x y W
  obtain ⟨xv, hxv⟩ : ∃ xv, Value.agg (evA x) = xv := ⟨_, rfl⟩
  simp only [hxv] at HMk
  rw [hxv]
  try rw [hxv] at HI
  clear hxv
  generalize x.prod = pr at *
  go_enter Tryz.func60, Tryz.ntmps60
  go_wp2_with fail
  go_loopw [8] (fun i wr => ∃ j : Nat, j ≤ m ∧ i = .int .i64 j ∧ Hid (∀ i, i < j → ((l.getD i pd0).1 == pr) = false) ∧ Hid (Below w.heap.size w wr)) (fun i _ => m - (intOf i).toNat)
  case atStart => exact ⟨0, by omega, rfl, (fun i hi => by omega), Below.refl _ _⟩
  case round =>
    obtain ⟨j, hj, rfl, HT, HB⟩ := hrel
    by_cases hlt : j < m
    · obtain ⟨b, off, rfl, hs, hc⟩ := (H.out.later HB.out).cells (by omega)
      have r0 : wr.cell? ⟨b, off + j * 3, none⟩ = some (.int .i64 (l.getD j pd0).1) := hc j hlt 0 (by decide)
      have r1 : wr.cell? ⟨b, off + j * 3 + 1, none⟩ = some (.int .i64 (l.getD j pd0).2.1) := hc j hlt 1 (by decide)
      have r2 : wr.cell? ⟨b, off + j * 3 + 2, none⟩ = some (.int .i64 (l.getD j pd0).2.2) := hc j hlt 2 (by decide)
      have HL : Hid (j < l.length) := by rw [H.out.len]; exact hlt
      have HC := hid (HMk.out (l.getD j pd0) wr)
      have HN : Hid (((l.getD j pd0).1 == pr) = false → ∀ i, i < j + 1 → ((l.getD i pd0).1 == pr) = false) := fun hn i hi => by
        by_cases e : i = j
        · rw [e]; exact hn
        · exact HT.out i (by omega)
      have HO : Hid (((l.getD j pd0).1 == pr) = true → idxP pr l = (j : Int)) := fun hn => idxP_hit HT.out HL.out hn
      clear hc hs
      generalize l.getD j pd0 = y at *
      obtain ⟨y0, y1, y2⟩ := y
      dsimp only at *
      cases hpy : (y0 == pr) with
      | true =>
        rw [hpy] at HC
        have HO2 := hid (HO.out hpy)
        clear hpy HN HO
        go_wp2_with (go_at_call 49; (with_reducible_and_instances (refine HC.out.mono ?_)); rintro r w1 ⟨rfl, hb⟩; have HB2 := hid (HB.out.trans (hb.mono HB.out.size)); clear hb)
        go_ret
        exact ⟨by rw [HO2.out]; rfl, HB2.out⟩
      | false =>
        rw [hpy] at HC
        have HN2 := hid (HN.out hpy)
        clear hpy HN HO
        go_wp2_with (go_at_call 49; (with_reducible_and_instances (refine HC.out.mono ?_)); rintro r w1 ⟨rfl, hb⟩; have HB2 := hid (HB.out.trans (hb.mono HB.out.size)); clear hb)
        refine ⟨⟨j + 1, by omega, by go_num, HN2, HB2⟩, by simp [intOf]; omega⟩
    · obtain rfl : j = m := by omega
      have HV := hid (idxP_none (l := l) (pr := pr) (fun i hi => HT.out i (by rw [← H.out.len]; exact hi)))
      go_wp2_with fail
      go_ret
      exact ⟨by rw [HV.out]; rfl, HB.out⟩
theorem containsP (x : Ev) (h : ArgK kPd w l ad m c) : Calls Tryz.prog 56 #[.slice ad m c, .func (.func 49) #[.agg (evA x)] #[]] w fun r w' => r = .returned (.bool (pendOf x.prod l)) ∧ Below w.heap.size w w' := by
  have HC := hid (indexP x h)
  have hE : decide (0 ≤ idxP x.prod l) = pendOf x.prod l := by
    unfold idxP
    cases hp : pendOf x.prod l with
    | true => rw [if_pos rfl]; simp
    | false => rw [if_neg (by simp)]; rfl
  have HE := hid hE
  clear hE
  clear h
  generalize idxP x.prod l = i at *
  obtain ⟨xv, hxv⟩ : ∃ xv, Value.agg (evA x) = xv := ⟨_, rfl⟩
  rw [hxv] at HC ⊢
  clear hxv
  generalize pendOf x.prod l = pb at *
  go_enter Tryz.func56, Tryz.ntmps56
  go_wp2_with (go_at_call 60; (with_reducible_and_instances (refine HC.out.mono ?_)); rintro r w1 ⟨rfl, hb⟩; have HB := hid hb; clear hb)
  go_ret
  exact ⟨by rw [← HE.out]; rfl, HB.out⟩
theorem store_pd {ops : Array Oper} {rest : List Oper} {o : Oper} {a : Act} {Q : Exit → Act → World → Prop} {base g cap : Nat} {L : List (Int × Int × Int)} (hgd : o.guard = none) (u v : Operand) (ho : o.op = .store 77 u v) (i : Nat) (z : Int × Int × Int) (hx : a.eval u = .pointer (some ⟨g, i * 3, none⟩)) (hy : a.eval v = .agg #[.int .i64 z.1, .int .i64 z.2.1, .int .i64 z.2.2])
    (hown : OwnK kPd w base (.slice (some ⟨g, 0, none⟩) m cap) L) (hi : i < m) (h : ∀ w', OwnK kPd w' base (.slice (some ⟨g, 0, none⟩) m cap) (L.set i z) → Chg [g] w w' → wpList Tryz.prog ops Q rest (a.put o.dst undef) w') : wpList Tryz.prog ops Q (o :: rest) a w := by
  obtain ⟨cur, hg, -⟩ := hown.opened
  obtain ⟨hfit, hset⟩ := hown.setAt kPd_ok.tofit i hi z hg
  refine store_wide hgd 77 u v ho (kPd.V z) (by show _ = some 3; kernel_rfl) g (i * 3) hx hy 77 cur hg hfit (fun q hq => kPd_ok.one z q hq) (h _ hset ⟨rfl, rfl, rfl, by simp [World.setRow], fun k _ hn => setRow_other w g k _ (by intro e; exact hn (by simp [e]))⟩)
theorem keep_hit {pr : Int} (hp : pendOf pr l = true) : ∃ k, k < l.length ∧ idxP pr l = (k : Int) ∧ (l.take (k + 1)).filter (fun y => !(y.1 == pr)) = l.take k := by
  have hx := List.findIdx_lt_length_of_exists (p := fun y : Int × Int × Int => y.1 == pr) (xs := l) (by unfold pendOf at hp; rw [List.any_eq_true] at hp; exact hp)
  refine ⟨_, hx, by unfold idxP; rw [if_pos hp], ?_⟩
  have e : l.take (l.findIdx (fun y => y.1 == pr) + 1) = l.take (l.findIdx (fun y => y.1 == pr)) ++ [l[l.findIdx (fun y => y.1 == pr)]] := List.take_succ_eq_append_getElem hx
  have h1 : (l[l.findIdx (fun y => y.1 == pr)].1 == pr) = true := List.findIdx_getElem (w := hx)
  rw [e, List.filter_append, List.filter_cons, if_neg (by simp [h1])]
  rw [List.filter_nil, List.append_nil]
  refine List.filter_eq_self.2 (fun y hy => ?_)
  obtain ⟨i, hi, rfl⟩ := List.getElem_of_mem hy
  rw [List.getElem_take]
  have hi2 : i < l.findIdx (fun y => y.1 == pr) := by rw [List.length_take] at hi; omega
  have := List.not_of_lt_findIdx hi2
  simpa using this
theorem keep_all {pr : Int} (hp : pendOf pr l = false) : l.filter (fun y => !(y.1 == pr)) = l := by
  refine List.filter_eq_self.2 (fun y hy => ?_)
  unfold pendOf at hp
  rw [List.any_eq_false] at hp
  have := hp y hy
  simpa using this
/-- What DeleteFunc keeps while it goes: the first i are those that are kept of the first j. -/
structure DelI (l : List (Int × Int × Int)) (pr : Int) (j i : Nat) (L : List (Int × Int × Int)) : Prop where
  len : L.length = l.length
  kept : L.take i = (l.take j).filter (fun y => !(y.1 == pr))
  rest : ∀ q, j ≤ q → L.getD q pd0 = l.getD q pd0
theorem DelI.drop {pr : Int} {j i : Nat} {L : List (Int × Int × Int)} (h : DelI l pr j i L) (hj : j < l.length) (hd : ((l.getD j pd0).1 == pr) = true) : DelI l pr (j + 1) i L := by
  refine ⟨h.len, ?_, fun q hq => h.rest q (by omega)⟩
  rw [take_snoc_any l pd0 j hj, List.filter_append, List.filter_cons, if_neg (by simp only [hd]; decide), List.filter_nil, List.append_nil]
  exact h.kept
theorem DelI.keep {pr : Int} {j i : Nat} {L : List (Int × Int × Int)} (h : DelI l pr j i L) (hj : j < l.length) (hij : i < j) (hd : ((l.getD j pd0).1 == pr) = false) : DelI l pr (j + 1) (i + 1) (L.set i (l.getD j pd0)) := by
  have hl := h.len
  refine ⟨by rw [List.length_set]; exact hl, ?_, fun q hq => ?_⟩
  · rw [take_snoc_any l pd0 j hj, List.filter_append, List.filter_cons, if_pos (by simp only [hd]; decide), List.filter_nil, ← h.kept, take_snoc_any (L.set i _) pd0 i (by rw [List.length_set]; omega), List.take_set_of_le (Nat.le_refl _)]
    congr 2
    rw [List.getD_eq_getElem?_getD, List.getElem?_set_self (by omega)]
    rfl
  · rw [← h.rest q (by omega)]
    simp only [List.getD_eq_getElem?_getD, List.getElem?_set_ne (show i ≠ q by omega)]
set_option maxRecDepth 100000 in
set_option maxHeartbeats 2000000 in
theorem deleteP (x : Ev) {base : Nat} {v : Value} (h : OwnK kPd w base v l) (hl : l.length ≤ 4611686018427387904) : Calls Tryz.prog 50 #[v, .func (.func 49) #[.agg (evA x)] #[]] w fun r w' => ∃ v', r = .returned v' ∧ OwnK kPd w' base v' (l.filter (fun y => !(y.1 == x.prod))) ∧ v'.ownBlock = v.ownBlock ∧ Chg v.ownBlock.toList w w' := by
  obtain ⟨va, vc, hv, hA⟩ := h.form kPd_ok.tofit
  have HI := hid (indexP x hA)
  subst hv
  cases hp : pendOf x.prod l with
  | false =>
    have e1 : idxP x.prod l = -1 := by unfold idxP; rw [if_neg (by rw [hp]; decide)]
    rw [e1] at HI
    rw [keep_all hp]
    have HO := hid h
    clear h hA hp e1
    obtain ⟨xv, hxv⟩ : ∃ xv, Value.agg (evA x) = xv := ⟨_, rfl⟩
    rw [hxv] at HI ⊢
    clear hxv
    go_enter Tryz.func50, Tryz.ntmps50
    go_wp2_with (go_at_call 60; (with_reducible_and_instances (refine HI.out.mono ?_)); rintro r w1 ⟨rfl, hb⟩; have HB := hid hb; clear hb)
    go_ret
    exact ⟨_, rfl, HO.out.later HB.out, rfl, Chg.of HB.out⟩
  | true =>
    obtain ⟨k0, hk, ek, hkeep⟩ := keep_hit hp
    rw [ek] at HI
    obtain ⟨b, off, rfl, -⟩ := hA.cells (by omega)
    obtain rfl : off = 0 := by
      rcases h.2 with ⟨e, -⟩ | ⟨g', cap', cur, e, -⟩
      · cases e
      · injection e with e1; injection e1 with e1; injection e1
    obtain ⟨m, hm⟩ : ∃ m, l.length = m := ⟨_, rfl⟩
    rw [hm] at h hk hl HI
    have hcap : m ≤ vc := by have := hA.cap; omega
    have hne : (vc == k0) = false := by simp; omega
    have HM := hid hm
    have HO := hid h
    have HD0 : Hid (DelI l x.prod (k0 + 1) k0 l) := ⟨rfl, hkeep.symm, fun _ _ => rfl⟩
    rw [hm]
    have HMk : Hid (∀ (y : Int × Int × Int) W, Calls Tryz.prog 49 #[.agg (evA x), .agg #[.int .i64 y.1, .int .i64 y.2.1, .int .i64 y.2.2]] W fun r w' => r = .returned (.bool (y.1 == x.prod)) ∧ Below W.heap.size W w') := fun y W => marks_any x y W
    obtain ⟨xv, hxv⟩ : ∃ xv, Value.agg (evA x) = xv := ⟨_, rfl⟩
    simp only [hxv] at HMk
    rw [hxv]
    try rw [hxv] at HI
    clear hxv
    generalize x.prod = pr at *
    clear h hA hp hkeep ek hm
    go_enter Tryz.func50, Tryz.ntmps50
    go_wp2_with (go_at_call 60; (with_reducible_and_instances (refine HI.out.mono ?_)); rintro r w1 ⟨rfl, hb⟩; have HB := hid hb; clear hb)
    have HO1 := hid (HO.out.later HB.out)
    go_loopw [5, 6] (fun iv jv wr => ∃ (j i : Nat) (L : List (Int × Int × Int)), j ≤ m ∧ jv = .int .i64 (j : Int) ∧ iv = .int .i64 (i : Int) ∧ i < j ∧ Hid (OwnK kPd wr base (.slice (some ⟨b, 0, none⟩) m vc) L) ∧ Hid (DelI l pr j i L) ∧ Hid (Chg [b] w1 wr)) (fun _ jv _ => m - (intOf jv).toNat)
    case atStart => exact ⟨k0 + 1, k0, l, by omega, by go_num, rfl, by omega, HO1, HD0, Chg.refl _ _⟩
    case round =>
      obtain ⟨j, i, L, hj, rfl, rfl, hij, HOj, HDj, HCj⟩ := hrel
      clear HO1 HD0
      by_cases hlt : j < m
      · obtain ⟨a', c', e', hAj⟩ := HOj.out.form kPd_ok.tofit
        have hLl : L.length = m := by rw [HDj.out.len]; exact HM.out
        rw [hLl] at e' hAj
        obtain ⟨rfl, rfl⟩ : some ⟨b, 0, none⟩ = a' ∧ vc = c' := by injection e' with e1 e2 e3; exact ⟨e1, e3⟩
        obtain ⟨b', off', eb, hs, hc⟩ := hAj.cells (by omega)
        injection eb with eb
        injection eb with eb1 eb2
        subst eb1 eb2
        have hyr := HDj.out.rest j (Nat.le_refl _)
        have r0 : wr.cell? ⟨b, 0 + j * 3, none⟩ = some (.int .i64 (l.getD j pd0).1) := by have := hc j hlt 0 (by decide); rw [hyr] at this; exact this
        have r1 : wr.cell? ⟨b, 0 + j * 3 + 1, none⟩ = some (.int .i64 (l.getD j pd0).2.1) := by have := hc j hlt 1 (by decide); rw [hyr] at this; exact this
        have r2 : wr.cell? ⟨b, 0 + j * 3 + 2, none⟩ = some (.int .i64 (l.getD j pd0).2.2) := by have := hc j hlt 2 (by decide); rw [hyr] at this; exact this
        rw [Nat.zero_add] at r0 r1 r2
        have HL : Hid (j < l.length) := by rw [HM.out]; exact hlt
        have HKp := hid (HDj.out.keep HL.out hij)
        have HDr := hid (HDj.out.drop HL.out)
        clear hc hs hAj e' hyr hLl
        generalize l.getD j pd0 = y at *
        obtain ⟨y0, y1, y2⟩ := y
        dsimp only at *
        have HC : Hid (∀ W, Calls Tryz.prog 49 #[xv, .agg #[.int .i64 y0, .int .i64 y1, .int .i64 y2]] W fun r w' => r = .returned (.bool (y0 == pr)) ∧ Below W.heap.size W w') := fun W => HMk.out (y0, y1, y2) W
        obtain ⟨X1, hX1⟩ : ∃ X1, wr.alloc (.cells #[.int .i64 y0, .int .i64 y1, .int .i64 y2] 77) = X1 := ⟨_, rfl⟩
        have bX : Below wr.heap.size wr X1 := by rw [← hX1]; exact (Below.refl _ _).alloc (Nat.le_refl _) _
        have xX : Blk X1 wr.heap.size #[.int .i64 y0, .int .i64 y1, .int .i64 y2] 77 := by rw [← hX1]; exact heap_alloc_new wr _
        obtain ⟨p0, p1, p2⟩ : X1.cell? ⟨wr.heap.size, 0, none⟩ = some (.int .i64 y0) ∧ X1.cell? ⟨wr.heap.size, 1, none⟩ = some (.int .i64 y1) ∧ X1.cell? ⟨wr.heap.size, 2, none⟩ = some (.int .i64 y2) := ⟨xX.cell 0, xX.cell 1, xX.cell 2⟩
        have HBX := hid bX
        have HXX := hid xX
        clear bX xX
        cases hpy : (y0 == pr) with
        | true =>
          rw [hpy] at HC
          have HD2 := hid (HDr.out hpy)
          clear hpy HKp HDr
          go_wp2_with (go_at_call 49; (with_reducible_and_instances (refine (HC.out _).mono ?_)); rintro r w2 ⟨rfl, hb2⟩; have HB2 := hid (HBX.out.trans (hb2.mono HBX.out.size)); clear hb2)
          go_roundw
          case rel =>
            repeat apply Exists.intro
            refine ⟨?_, rfl⟩
            exact ⟨j + 1, i, L, by omega, by go_num, rfl, by omega, HOj.out.later HB2.out, HD2, HCj.out.trans (Chg.of HB2.out) (fun k hk => Or.inl hk)⟩
          case measure => simp [intOf]; omega
        | false =>
          rw [hpy] at HC
          have HD2 := hid (HKp.out hpy)
          clear hpy HKp HDr
          go_wp2_with (first
            | (go_at_call 49; (with_reducible_and_instances (refine (HC.out _).mono ?_)); rintro r w2 ⟨rfl, hb2⟩; obtain ⟨e0, e1, e2⟩ : w2.cell? ⟨wr.heap.size, 0, none⟩ = some (.int .i64 y0) ∧ w2.cell? ⟨wr.heap.size, 1, none⟩ = some (.int .i64 y1) ∧ w2.cell? ⟨wr.heap.size, 2, none⟩ = some (.int .i64 y2) := ⟨(HXX.out.later hb2).cell 0, (HXX.out.later hb2).cell 1, (HXX.out.later hb2).cell 2⟩; have HB2 := hid (HBX.out.trans (hb2.mono HBX.out.size)); have HO2 := hid (HOj.out.later HB2.out); clear hb2)
            | (refine store_pd rfl (.tmp 33) (.tmp 32) rfl i (y0, y1, y2) (by first | rfl | simp) rfl HO2.out (by omega) ?_; intro w3 hO3 hc3; have HO3 := hid hO3; have HC3 := hid hc3; clear hO3 hc3))
          go_roundw
          case rel =>
            repeat apply Exists.intro
            refine ⟨?_, rfl⟩
            exact ⟨j + 1, i + 1, _, by omega, by go_num, by go_num, by omega, HO3, HD2, (HCj.out.trans (Chg.of HB2.out) (fun k hk => Or.inl hk)).trans HC3.out (fun k hk => Or.inl hk)⟩
          case measure => simp [intOf]; omega
      · obtain rfl : m = j := by omega
        obtain ⟨cur, hg, -, -, -, hsz, -⟩ := HOj.out.opened
        have h3 : kPd.sz = 3 := rfl
        obtain ⟨vs, hvl, hcl⟩ := clear_rest (w := wr) (g := b) kPd_ok (fun u hu => by simp [Value.cells] at hu; rcases hu with rfl | rfl | rfl <;> rfl) i (m - i) (vc - i) 0 hg (by omega) (by rw [h3] at hsz ⊢; omega)
        have hcut := HOj.out.cutAt kPd_ok.tofit i (by omega) vs hg (by rw [hvl, h3]; rw [h3] at hsz; omega)
        obtain ⟨W9, hW9⟩ : ∃ W9, wr.setRow b (cur.toList.take (i * kPd.sz) ++ vs ++ cur.toList.drop (i * kPd.sz + vs.length)).toArray = W9 := ⟨_, rfl⟩
        rw [hW9] at hcl hcut
        have hc9 : Chg [b] wr W9 := by rw [← hW9]; exact ⟨rfl, rfl, rfl, by simp [World.setRow], fun k _ hn => setRow_other wr b k _ (by intro e; exact hn (by simp [e]))⟩
        rw [HDj.out.kept, List.take_of_length_le (by rw [HM.out]; exact Nat.le_refl _)] at hcut
        rw [h3] at hcl
        have HCut := hid hcut
        have HC9 : Hid (Chg [b] w W9) := ((Chg.of HB.out).trans HCj.out (fun k hk => Or.inl hk)).trans hc9 (fun k hk => Or.inl hk)
        have hne2 : ¬ vc = i := by omega
        have hil : i ≤ m := by omega
        have hiv : i ≤ vc := by omega
        clear hcut hc9 hW9 hg hsz hvl HOj HDj HCj h3
        go_wp2_with fail
        go_ret
        exact ⟨_, rfl, HCut.out, rfl, HC9.out⟩
end Go.Proofs.YtipgociofjokeaaGreat
