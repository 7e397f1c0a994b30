/- The walk of ProducerAgain (by genpagain.py). -/
import Derived.Test.YtobaeiicacpbnaaPAgainM
import Derived.Test.YtobaeiicacpbnaaPEnt
import Derived.Test.YtobaeiicacpbnaaOpen
import Derived.OpenShut
namespace Go.Proofs.Ytobaeiicacpbnaa
open Go.RowKit Go.Shelf
open Go.ChangeShapes Go.WideShapes Go.ChangeAt

/-- Numbers that came in. -/
def NumsP (W : World) (f : Nat → Int) (ad : Option Addr) (len : Nat) : Prop := len = 0 ∨ ∃ b off, ad = some ⟨b, off, none⟩ ∧ b < W.heap.size ∧ ∀ i, i < len → W.cell? ⟨b, off + i, none⟩ = some (.int .i64 (f i))
theorem open_numsP {H : Type} {enc : TypeId × Value → H} {W : World} {ad : Option Addr} {len cap : Nat} {d : DataW H} {p : List MemPlace} (h : DataW.Trod enc Try.prog W 0 (fun _ => true) true 59 (.slice ad len cap) d p) : ∃ f, NumsP W f ad len ∧ len ≤ maxLen := by
  obtain ⟨fuel, hf⟩ := h
  rcases open_ints Try.underlying59 Try.underlying3 (by kernel_rfl) hf with ⟨hcs, hx⟩ | ⟨x, l, c, zs, hcs, _, hl, hm, hz, hx, hcell, hwz⟩
  · simp [Value.cells] at hcs
    obtain ⟨rfl, rfl, rfl⟩ := hcs
    exact ⟨fun _ => 0, Or.inl rfl, by unfold maxLen; omega⟩
  · simp [Value.cells] at hcs
    obtain ⟨rfl, rfl, rfl⟩ := hcs
    simp only [if_true] at hz
    refine ⟨fun i => zs.getD i 0, ?_, by omega⟩
    by_cases h0 : len = 0
    · exact Or.inl h0
    · right
      obtain ⟨b, off, spot⟩ := x
      have hc0 := hcell 0 (by omega)
      have hspot : spot = none := by simpa [Addr.add] using World.cell?_spot hc0
      subst hspot
      have hb : b < W.heap.size := by
        rcases Nat.lt_or_ge b W.heap.size with h | h
        · exact h
        · simp [Addr.add, World.cell?, Array.getElem?_eq_none h] at hc0
      refine ⟨b, off, rfl, hb, fun i hi => ?_⟩
      have e := hcell i (by omega)
      rw [addr_add] at e
      exact e
abbrev TNo : TypeId := 62
abbrev TNos : TypeId := 60
def noL (d : Dn) (sl : Value) : List Value := [.int .i64 1, .int .i64 3, .int .i64 2, .int .i64 d.seq, .bool false, sl, .int .i64 d.off]
def nosV (L : List (Dn × Value)) : List Value := L.flatMap fun x => noL x.1 x.2
theorem nosV_snoc (L : List (Dn × Value)) (x : Dn × Value) : nosV (L ++ [x]) = nosV L ++ noL x.1 x.2 := by unfold nosV; simp
theorem nosV_at : ∀ (L : List (Dn × Value)) (k : Nat) (x : Dn × Value), L[k]? = some x → ∀ i, i < 7 → (nosV L)[k * 7 + i]? = (noL x.1 x.2)[i]?
  | [], k, x, h, i, hi => by simp at h
  | y :: L, 0, x, h, i, hi => by
    simp at h; subst h
    rw [nosV, List.flatMap_cons, List.getElem?_append_left (by show 0 * 7 + i < 7; omega)]
    simp
  | y :: L, k + 1, x, h, i, hi => by
    have ih := nosV_at L k x (by simpa using h) i hi
    rw [nosV, List.flatMap_cons, List.getElem?_append_right (by show 7 ≤ (k + 1) * 7 + i; omega)]
    rw [← ih]
    unfold nosV
    congr 1
    show (k + 1) * 7 + i - 7 = _
    omega
/-- A slice of noted batches. -/
structure OwnN (w : World) (base : Nat) (v : Value) (L : List (Dn × Value)) : Prop where
  row : w.ownsRow base TNo 7 v L.length (nosV L)
  each : ∀ x ∈ L, ∃ (m : Nat) (a : Option Addr) (c : Nat), x.1.len = m ∧ x.2 = .slice a m c ∧ OwnR w base x.2 (List.replicate m recK)
/-- Blocks of cells stay, but those of one type. -/
def CK (ty : TypeId) (w w' : World) : Prop := ∀ (g : Nat) (cs : Array Value) (t : TypeId), w.heap[g]? = some (.cells cs t (0, 0)) → t ≠ ty → w'.heap[g]? = w.heap[g]?
variable {w w' W W' : World} {t M n : Nat} {T : Tb} {base : Nat} {v : Value} {L : List (Dn × Value)}
theorem ck_below (h : Below W.heap.size W W') (ty : TypeId) : CK ty W W' := fun g _ _ hg _ => h.block g (Array.getElem?_eq_some_iff.1 hg).1
theorem OwnR.ck {rs : List Rec} (h : OwnR W base v rs) {ty : TypeId} (hc : CK ty W W') (hne : 91 ≠ ty) : OwnR W' base v rs := by
  refine ⟨h.1, ?_⟩
  rcases h.2 with h2 | ⟨g, cap, cur, hv, hgb, hg, r⟩
  · exact Or.inl h2
  · exact Or.inr ⟨g, cap, cur, hv, hgb, (hc g _ _ hg hne).trans hg, r⟩
theorem OwnR.downP {rs : List Rec} {base' : Nat} (h : OwnR W base v rs) (hb : base' ≤ base) : OwnR W base' v rs := by
  refine ⟨h.1, ?_⟩
  rcases h.2 with h2 | ⟨g, cap, cur, hv, hgb, r⟩
  · exact Or.inl h2
  · exact Or.inr ⟨g, cap, cur, hv, Nat.le_trans hb hgb, r⟩
theorem OwnN.noted (h : OwnN W base v L) (hM : TPic W t M n T) (hc : Chg [M] W W') : OwnN W' base v L ∧ ∀ ty, CK ty W W' := by
  have hk : ∀ ty, CK ty W W' := fun ty g cs t hg _ => by
    refine hc.block g (Array.getElem?_eq_some_iff.1 hg).1 (fun e => ?_)
    simp at e; subst e
    obtain ⟨es, c, he⟩ := hM.map.isMap
    rw [he] at hg; cases hg
  refine ⟨⟨⟨h.row.1, ?_⟩, fun x hx => ?_⟩, hk⟩
  · rcases h.row.2 with h2 | ⟨g, cap, cur, hv, hgb, hg, r⟩
    · exact Or.inl h2
    · exact Or.inr ⟨g, cap, cur, hv, hgb, (hk 0 g _ _ hg (by decide)).trans hg, r⟩
  · obtain ⟨m, a, c, h1, h2, h3⟩ := h.each x hx
    exact ⟨m, a, c, h1, h2, h3.ck (hk 0) (by decide)⟩
theorem OwnN.later (h : OwnN W base v L) (hb : Below W.heap.size W W') : OwnN W' base v L := ⟨own_kept h.row hb, fun x hx => by obtain ⟨m, a, c, h1, h2, h3⟩ := h.each x hx; exact ⟨m, a, c, h1, h2, h3.later hb⟩⟩
theorem OwnN.slice (h : OwnN W base v L) : ∃ ad c, v = .slice ad L.length c := by
  rcases h.row.2 with ⟨e, h0⟩ | ⟨g, cap, cur, e, -⟩
  · exact ⟨none, 0, by rw [e, h0]⟩
  · exact ⟨_, _, e⟩
theorem Try.infoNo : (Try.prog.info? 62).map (fun i => (i.zero, i.size, i.bytes)) = some (some (.agg #[.int .i64 0, .int .i64 0, .int .i64 0, .int .i64 0, .bool false, .slice none 0 0, .int .i64 0]), 7, 72) := by kernel_rfl
/-- 'append(l, noted)'. -/
theorem app_no {ops : Array Oper} {rest : List Oper} {o : Oper} {a : Act} {Q : Exit → Act → World → Prop} (hgd : o.guard = none) (s x : Operand)
    (ho : o.op = .call { callee := .builtin .append, args := #[s, x], argTypes := #[60, 60] })
    (base : Nat) (v : Value) (k : Nat) (L : List (Dn × Value)) (hs : a.eval s = v) (hown : W.ownsRow base TNo 7 v k (nosV L))
    (g : Nat) (d : Dn) (sl : Value) (hx : a.eval x = .slice (some ⟨g, 0, none⟩) 1 1) (hob : W.heap[g]? = some (.cells #[.int .i64 1, .int .i64 3, .int .i64 2, .int .i64 d.seq, .bool false, sl, .int .i64 d.off] TNo)) (hone : sl.oneCell' = true)
    (hk : k ≤ 1000) (hbase : base ≤ W.heap.size)
    (h : ∀ v' w', w'.ownsRow base TNo 7 v' (k + 1) (nosV L ++ noL d sl) → W.grownBy w' v.ownBlock → wpList Try.prog ops Q rest (a.put o.dst v') w') : wpList Try.prog ops Q (o :: rest) a W := by
  obtain ⟨i0, hi, hz0, hz1, hz2⟩ := info_parts Try.infoNo
  have hb : Blk W g #[.int .i64 1, .int .i64 3, .int .i64 2, .int .i64 d.seq, .bool false, sl, .int .i64 d.off] TNo := hob
  refine wpList_append_own W hgd s x 60 ho base TNo i0 _ 7 72 Try.underlying60 hi hz0 hz1 hz2 rfl (by decide) v k _ hs hown ⟨g, 0, none⟩ 1 1 (noL d sl) hx rfl (fun j u hu => by rw [addr_add, Nat.zero_add, hb.cell j, List.getElem?_toArray]; exact hu) (by intro u hu; simp only [noL, List.mem_cons, List.not_mem_nil, or_false] at hu; rcases hu with rfl | rfl | rfl | rfl | rfl | rfl | rfl <;> first | rfl | exact hone) (by unfold maxLen; omega) (by omega) hbase ?_
  intro v' w' h1 h2 _
  exact h v' w' h1 h2
/-- What ProducerAgain keeps. -/
structure AgW (w : World) (t M n : Nat) (T : Tb) (ds : List Dn) (L : List (Dn × Value)) (v : Value) (W : World) : Prop where
  tab : TPic W t M n T
  ag : AgT ds T
  own : OwnN W w.heap.size v L
  eq : L.map (·.1) = ds
  below : Below w.heap.size w W
  ge : w.heap.size ≤ M
theorem AgW.later {ds : List Dn} (h : AgW w t M n T ds L v W) (hb : Below W.heap.size W W') : AgW w t M n T ds L v W' := ⟨h.tab.later hb, h.ag, h.own.later hb, h.eq, h.below.trans (hb.mono h.below.size), h.ge⟩
theorem AgW.len {ds : List Dn} (h : AgW w t M n T ds L v W) : L.length = ds.length := by rw [← h.eq]; simp
/-- Behind an append of one more. -/
theorem AgW.app {ds : List Dn} {T' : Tb} {d : Dn} {w5 w7 : World} {v' : Value} {a2 : Option Addr} {m c2 : Nat} {o : Obj} (h : AgW w t M n T ds L v W) (ht : TPic w5 t M n T') (hc : Chg [M] W w5) (hag : AgT (ds ++ [d]) T') (hsl : OwnR w5 w.heap.size (.slice a2 m c2) (List.replicate m recK)) (hd : d.len = m)
    (h' : w7.ownsRow w.heap.size TNo 7 v' (L.length + 1) (nosV L ++ noL d (.slice a2 m c2))) (hg : (w5.alloc o).grownBy w7 v.ownBlock) : AgW w t M n T' (ds ++ [d]) (L ++ [(d, .slice a2 m c2)]) v' w7 := by
  obtain ⟨ho5, -⟩ := h.own.noted h.tab hc
  have hnb : ∀ g, v.ownBlock = some g → w.heap.size ≤ g ∧ ∃ cur, w5.heap[g]? = some (.cells cur TNo (0, 0)) := fun g hg => by
    rcases ho5.row.2 with ⟨e, -⟩ | ⟨g', cap, cur, e, hgb, hgc, -⟩
    · rw [e] at hg; cases hg
    · rw [e] at hg; cases hg
      exact ⟨hgb, cur, hgc⟩
  have hkp : ∀ g, g < w5.heap.size → v.ownBlock ≠ some g → w7.heap[g]? = w5.heap[g]? := fun g hgl hne => by
    rw [hg.block g (by simp; omega) (fun e => hne e.symm), Below.heap_alloc _ _ _ hgl]
  have hck : CK TNo w5 w7 := fun g cs ty hgc hne => hkp g (Array.getElem?_eq_some_iff.1 hgc).1 (fun e => by
    obtain ⟨-, cur, h2⟩ := hnb g e
    rw [hgc] at h2
    injection h2 with h2
    injection h2 with _ h2
    exact hne h2)
  have hb5 : Below w.heap.size w w5 := h.below.trans (hc.below (N := w.heap.size) (fun g hg => by simp at hg; have := h.ge; omega) h.below.size)
  refine ⟨⟨(hck t _ _ ht.box (by decide)).trans ht.box, ht.map.keep (hkp M ht.map.lt (fun e => ?_)), ht.ok⟩, hag, ⟨?_, fun x hx => ?_⟩, by simp [h.eq], (hb5.alloc hb5.size o).grown hg (by simp; have := hb5.size; omega) (fun k hk => (hnb k hk).1), h.ge⟩
  · obtain ⟨-, cur, h2⟩ := hnb M e
    obtain ⟨es, c, he⟩ := ht.map.isMap
    rw [he] at h2; cases h2
  · rw [nosV_snoc, List.length_append]; exact h'
  · rcases List.mem_append.1 hx with hx | hx
    · obtain ⟨m', a, c, h1, h2, h3⟩ := ho5.each x hx
      exact ⟨m', a, c, h1, h2, h3.ck hck (by decide)⟩
    · simp at hx; subst hx
      exact ⟨m, a2, c2, hd, rfl, hsl.ck hck (by decide)⟩
theorem tmod8 (x : Int) : -7 ≤ x.tmod 8 ∧ x.tmod 8 ≤ 7 := by
  have h1 := Int.tmod_lt_of_pos x (b := 8) (by decide)
  have h2 := Int.lt_tmod_of_pos x (b := 8) (by decide)
  omega
/-- A remainder that is not below 0. -/
theorem tmodP (y : Int) (len : Nat) (h : 0 < len) : -(len : Int) < y.tmod len ∧ y.tmod len < len ∧ ∃ k : Nat, k < len ∧ (y.tmod len + len).tmod len = (k : Int) := by
  have h1 := Int.tmod_lt_of_pos y (b := (len : Int)) (by omega)
  have h2 := Int.lt_tmod_of_pos y (b := (len : Int)) (by omega)
  refine ⟨by omega, h1, ((y.tmod len + len) % len).toNat, ?_, ?_⟩
  · have := Int.emod_lt_of_pos (y.tmod len + len) (b := (len : Int)) (by omega)
    have := Int.emod_nonneg (y.tmod len + len) (b := (len : Int)) (by omega)
    omega
  · rw [Int.tmod_eq_emod_of_nonneg (by omega)]
    have := Int.emod_nonneg (y.tmod len + len) (b := (len : Int)) (by omega)
    omega
theorem keys3 {ds : List Dn} {T : Tb} (h : AgT ds T) (hne : ds ≠ []) : KeysT T [3] := by
  obtain ⟨s, rfl, -⟩ := h.full hne
  refine ⟨by simp, fun p => ?_⟩
  unfold Tb.set tb0
  by_cases e : p = 3 <;> simp [e]
/-- The one entry. -/
theorem one_entry {w' : World} {v : Value} {L : List (En × Value)} (h : OwnE w' base v L) (he : L.map (·.1) = [3].map (entOf T)) : ∃ g c b d, v = .slice (some ⟨g, 0, none⟩) 1 c ∧ g < w'.heap.size ∧ w'.cell? ⟨g, 2, none⟩ = some (.int .i64 (T.get 3).next) ∧ w'.cell? ⟨g, 3, none⟩ = some (.slice b (T.get 3).last.length d) := by
  match L, he with
  | [(en, sl)], he =>
    have he2 : en = entOf T 3 := by simpa using he
    subst he2
    obtain ⟨b, d, hsl⟩ := (h.each _ (List.mem_singleton.2 rfl)).slice
    simp only at hsl
    rcases h.row.2 with ⟨-, h0⟩ | ⟨g, cap, cur, hv, hgb, hgc, r⟩
    · simp at h0
    · refine ⟨g, cap, b, d, hv, (Array.getElem?_eq_some_iff.1 hgc).1, ?_, ?_⟩
      · have hc := World.ownsRow.cells h.row (g := g) (by rw [hv]; rfl) 2 _ (by rfl)
        simpa [addr_add, entOf] using hc
      · have hc := World.ownsRow.cells h.row (g := g) (by rw [hv]; rfl) 3 _ (by rfl)
        rw [hsl] at hc
        simpa [addr_add, entOf] using hc
theorem AgW.at {ds : List Dn} {a : Option Addr} {j c : Nat} (h : AgW w t M n T ds L (.slice a j c) W) {kk : Nat} {d : Dn} {sl : Value} (hx : L[kk]? = some (d, sl)) : ∃ (g : Nat) (a3 : Option Addr) (m c3 : Nat), a = some ⟨g, 0, none⟩ ∧ g < W.heap.size ∧ sl = .slice a3 m c3 ∧ d.len = m ∧ ds[kk]? = some d ∧ (∀ i, i < 7 → W.cell? ⟨g, kk * 7 + i, none⟩ = (noL d sl)[i]?) ∧ OwnR W w.heap.size sl (List.replicate m recK) := by
  obtain ⟨m, a3, c3, h1, h2, h3⟩ := h.own.each (d, sl) (List.mem_of_getElem? hx)
  have hds : ds[kk]? = some d := by rw [← h.eq, List.getElem?_map, hx]; rfl
  rcases h.own.row.2 with ⟨-, h0⟩ | ⟨g, cap, cur, hv, hgb, hgc, r⟩
  · have := (List.getElem?_eq_some_iff.1 hx).1; omega
  · cases hv
    refine ⟨g, a3, m, c3, rfl, (Array.getElem?_eq_some_iff.1 hgc).1, h2, h1, hds, fun i hi => ?_, h3⟩
    have hn := nosV_at L kk _ hx i hi
    obtain ⟨u, hu⟩ : ∃ u, (noL d sl)[i]? = some u := ⟨_, List.getElem?_eq_getElem (by show i < 7; exact hi)⟩
    simp only at hn
    rw [hu] at hn
    have hc := World.ownsRow.cells h.own.row (g := g) rfl (kk * 7 + i) u hn
    rw [addr_add, Nat.zero_add] at hc
    rw [hc, hu]
theorem AgW.noted {ds : List Dn} {n' : Nat} (h : AgW w t M n T ds L v W) (ht : TPic W' t M n' T) (hc : Chg [M] W W') : AgW w t M n' T ds L v W' := ⟨ht, h.ag, (h.own.noted h.tab hc).1, h.eq, h.below.trans (hc.below (N := w.heap.size) (fun g hg => by simp at hg; have := h.ge; omega) h.below.size), h.ge⟩
set_option maxRecDepth 20000 in
set_option maxHeartbeats 4000000 in
theorem again_walk (ad : Option Addr) (len cap : Nat) (f : Nat → Int) (kq : Int) (w : World) (ho : NumsP w f ad len) (hlm : len ≤ maxLen) :
    Calls Try.prog 6 #[.slice ad len cap, .int .i64 kq] w fun x w' => x = .returned (.bool true) ∧ Below w.heap.size w w' := by
  have HO := hid ho
  have hlm2 : len ≤ 9223372036854775807 := by unfold maxLen at hlm; omega
  clear ho hlm
  go_enter Try.func6, Try.ntmps6
  go_wp2_with (first
    | (go_at_call 9; refine (New_any _).mono ?_; rintro x w1 ⟨rfl, hp1, hb1⟩)
    | (go_at_call 10; refine (knows12 _).mono ?_; rintro x w0 ⟨rfl, hb0⟩; have HP0 := hid (hp1.later hb0); have HB0 := hid (hb1.trans (hb0.mono hb1.size)); clear hp1 hb1 hb0))
  have HW0 : Hid (AgW w (w.heap.size + 1) w.heap.size 0 tb0 [] [] (.slice none 0 0) w0) := ⟨HP0.out, agT0, ⟨World.ownsRow_nil _ _ _ _, fun x hx => by cases hx⟩, rfl, HB0.out, Nat.le_refl _⟩
  clear HP0 HB0
  generalize ht : w.heap.size + 1 = t at *
  obtain ⟨M, hM⟩ : ∃ M, w.heap.size = M := ⟨_, rfl⟩
  have HW1 : Hid (AgW w t M 0 tb0 [] [] (.slice none 0 0) w0) := by rw [← hM]; exact HW0.out
  clear HW0 ht hM
  go_loopw [6, 7, 8] (fun v s i wr => ∃ (j : Nat) (T : Tb) (ds : List Dn) (L : List (Dn × Value)) (a : Option Addr) (c : Nat) (sq : Int), j ≤ len ∧ j ≤ 100 ∧ i = .int .i64 (j : Int) ∧ s = .int .i64 sq ∧ v = .slice a j c ∧ lensD ds = sq ∧ L.length = j ∧ 0 ≤ sq ∧ sq ≤ 8 * (j : Int) ∧ Hid (AgW w t M j T ds L (.slice a j c) wr)) (fun _ _ i _ => 100 - (intOf i).toNat)
  case atStart => exact ⟨0, tb0, [], [], none, 0, 0, by omega, by omega, rfl, rfl, rfl, rfl, rfl, by omega, by omega, HW1⟩
  case round =>
    obtain ⟨j, T, ds, L, a, c, sq, hj, hj1, rfl, rfl, rfl, hsq, hLj, h0q, hq8, HE⟩ := hrel
    clear HW1
    by_cases hjl : j < len ∧ j < 100
    · obtain ⟨hjl, hj100⟩ := hjl
      obtain ⟨b, off, rfl, hbl, hc⟩ := HO.out.resolve_left (by omega)
      have c0 : wr.cell? ⟨b, off + j, none⟩ = some (.int .i64 (f j)) := (HE.out.below.cell (p := ⟨b, off + j, none⟩) hbl).trans (hc j hjl)
      generalize f j = x0 at *
      obtain ⟨y, hy⟩ : ∃ y, x0.tmod 8 = y := ⟨_, rfl⟩
      have hyb := tmod8 x0
      rw [hy] at hyb
      obtain ⟨hy1, hy2⟩ := hyb
      obtain ⟨z, hz⟩ : ∃ z, (y + 8).tmod 8 = z := ⟨_, rfl⟩
      have hzb : 0 ≤ z ∧ z ≤ 7 := by
        rw [Int.tmod_eq_emod_of_nonneg (by omega)] at hz
        omega
      obtain ⟨hz0, hz7⟩ := hzb
      obtain ⟨m, hm⟩ : ∃ m : Nat, 1 + z = (m : Int) := ⟨(1 + z).toNat, by omega⟩
      have HM : Hid (1 + z = (m : Int)) := hm
      have hm1 : 1 ≤ m := by omega
      have hm8 : m ≤ 8 := by omega
      have HRec : Hid (Calls Try.prog 18 #[.int .i64 (1 + z)] wr fun e w' => ∃ v, e = .returned v ∧ OwnR w' wr.heap.size v (List.replicate m recK) ∧ Below wr.heap.size wr w') := by rw [hm]; exact records_any m (by omega) wr
      have HD := hid hsq
      have HLj := hid hLj
      have hd1 : decide ((j : Int) < (len : Int)) = true := by simp; omega
      have hd2 : decide ((j : Int) < 100) = true := by simp; omega
      clear hc hbl hm hsq hLj
      go_wp2_with (go_at_call 18; (with_reducible_and_instances (refine HRec.out.mono ?_)); rintro x w2 ⟨v2, rfl, ho2, hb2⟩; obtain ⟨a2, c2, hv2, -⟩ := ho2.form; rw [List.length_replicate] at hv2; subst hv2; have HO2 := hid ho2; have HE2 := hid (HE.out.later hb2); have hs2 := hb2.size; clear ho2 hb2 HRec)
      obtain ⟨W3, hW3⟩ : ∃ W3, w2.alloc (.cells #[.int .i64 1, .int .i64 3, .int .i64 2, .int .i64 sq, .bool false, .slice a2 m c2] 33) = W3 := ⟨_, rfl⟩
      have b3 : Below w2.heap.size w2 W3 := by rw [← hW3]; exact (Below.refl _ _).alloc (Nat.le_refl _) _
      have HX3 : Hid (BBox W3 w2.heap.size 1 3 2 sq false (.slice a2 m c2)) := by rw [← hW3]; exact BBox.new w2 1 3 2 sq false _
      have HE3 := hid (HE2.out.later b3)
      have HO3 := hid (HO2.out.later b3)
      have hst := HE3.out.ag.step (m := m) hm1 hm8 (by rw [← HE3.out.len, HLj.out]; omega)
      rw [HD.out] at hst
      have hNt := hid (Note_any HE3.out.tab (by unfold maxLen; omega) 1 3 2 sq false (List.replicate m recK) a2 m c2 (1000 + sq) (HO3.out.arg (by simp) (recK_size m) _ _ _ _ _))
      have eN : (notN T ⟨1, 3, 2, sq, false, List.replicate m recK⟩ (1000 + sq)).1 = 0 := hst.1
      rw [eN] at hNt
      obtain ⟨T', hT'⟩ : ∃ T', (notN T ⟨1, 3, 2, sq, false, List.replicate m recK⟩ (1000 + sq)).2 = T' := ⟨_, rfl⟩
      rw [hT'] at hNt
      have HSt : Hid (AgT (ds ++ [⟨sq, m, 1000 + sq⟩]) T') := by rw [← hT']; exact hst.2
      have e0 := HX3.out.c0
      have e1 := HX3.out.c1
      have e2 := HX3.out.c2
      have e3 := HX3.out.c3
      have e4 := HX3.out.c4
      have e5 := HX3.out.c5
      have hl3 := HX3.out.lt
      have HMne : Hid (w2.heap.size ≠ M) := by
        have := HE2.out.tab.lt.2
        exact (show w2.heap.size ≠ M by omega)
      rw [hW3]
      clear hW3 b3 hst eN hT' HE2 HO2
      go_wp2_with (first
        | (go_at_call 19; (with_reducible_and_instances (refine hNt.out.mono ?_)); rintro x w5 ⟨rfl, ht5, hc5⟩; have HT5 := hid ht5; have HC5 := hid hc5; have HX5 := hid (HX3.out.chg hc5 (by simp; exact HMne.out)); have g0 := HX5.out.c0; have g1 := HX5.out.c1; have g2 := HX5.out.c2; have g3 := HX5.out.c3; have g4 := HX5.out.c4; have g5 := HX5.out.c5; have HO5 := hid ((HE3.out.own.noted HE3.out.tab hc5).1); have HR5 := hid (HO3.out.ck ((HE3.out.own.noted HE3.out.tab hc5).2 0) (by decide)); clear ht5 hc5)
        | (go_at_call 15; refine (num12_any _ _).mono ?_; rintro x w9 ⟨rfl, hw9⟩; obtain rfl := hw9.symm)
        | (at_builtin; refine app_no rfl (.tmp 53) (.tmp 58) rfl w.heap.size (.slice a j c) j L rfl (by have h := (HO5.out.later ((Below.refl _ w5).alloc (Nat.le_refl _) (.cells #[.int .i64 1, .int .i64 3, .int .i64 2, .int .i64 sq, .bool false, .slice a2 m c2, .int .i64 (1000 + sq)] TNo))).row; rw [HLj.out] at h; exact h) w5.heap.size ⟨sq, m, 1000 + sq⟩ (.slice a2 m c2) rfl (heap_alloc_new w5 _) rfl (by omega) (by have := HC5.out.size; have := HE3.out.below.size; simp; omega) ?_; intro v7 w7 hown7 hg7; have hA := (AgW.app (n := j + 1) (d := ⟨sq, m, 1000 + sq⟩) ⟨HE3.out.tab.mono (Nat.le_succ _), HE3.out.ag, HE3.out.own, HE3.out.eq, HE3.out.below, HE3.out.ge⟩ HT5.out HC5.out HSt.out (OwnR.downP HR5.out (by have := HE.out.below.size; omega)) rfl (by rw [HLj.out]; exact hown7) hg7); obtain ⟨a7, c7, hv7⟩ := hA.own.slice; have hl7 : (L ++ [(⟨sq, m, 1000 + sq⟩, Value.slice a2 m c2)] : List (Dn × Value)).length = j + 1 := (by simp [HLj.out]); rw [hl7] at hv7; subst hv7; have HA7 := hid hA; have HL7 := hid hl7; clear hown7 hg7 hA hl7))
      have hmz := HM.out
      have hds : lensD (ds ++ [(⟨sq, m, 1000 + sq⟩ : Dn)]) = sq + (1 + z) := by rw [lensD_append, HD.out]; simp only [lensD]; omega
      exact ⟨⟨j + 1, T', _, _, a7, c7, sq + (1 + z), by omega, by omega, by go_num, rfl, by first | rfl | (congr 1), hds, HL7.out, by omega, by omega, HA7⟩, by simp [intOf]; omega⟩
    · by_cases hq : j < len
      · have hd1 : decide ((j : Int) < (len : Int)) = true := by simp; omega
        have hd2 : decide ((j : Int) < 100) = false := by simp; omega
        by_cases hj0 : j = 0
        · exfalso; omega
        have hjn : ((j : Int) == 0) = false := by simp; omega
        have hjn2 : (j : Int) ≠ 0 := by omega
        obtain ⟨hy1, hy2, kk, hkj, hkk⟩ := tmodP kq j (by omega)
        obtain ⟨y, hy⟩ : ∃ y, kq.tmod (j : Int) = y := ⟨_, rfl⟩
        rw [hy] at hy1 hy2 hkk
        have hLl := HE.out.len
        obtain ⟨x, hx⟩ : ∃ x, L[kk]? = some x := ⟨_, List.getElem?_eq_getElem (by omega)⟩
        obtain ⟨d, sl⟩ := x
        obtain ⟨g, a3, m, c3, rfl, -, rfl, hdm, hdk, -, -⟩ := HE.out.at hx
        have hdsj : ds.length = j := by omega
        have hne : ds ≠ [] := fun e => by rw [e] at hdsj; simp at hdsj; omega
        have HAg := hid (HE.out.ag.again hdk hdm (by omega))
        have HNg := hid (HE.out.ag.noteAgain hdk hdm (by omega))
        have HAt : Hid (∀ W n, AgW w t M n T ds L (.slice (some ⟨g, 0, none⟩) j c) W → (∀ i, i < 7 → W.cell? ⟨g, kk * 7 + i, none⟩ = (noL d (.slice a3 m c3))[i]?) ∧ OwnR W w.heap.size (.slice a3 m c3) (List.replicate m recK)) := fun W n hW => by
          obtain ⟨g', a', m', c', e1, -, e2, -, -, h1, h2⟩ := hW.at hx
          cases e1
          cases e2
          exact ⟨h1, h2⟩
        have HEn : Hid (∀ W n, AgW w t M n T ds L (.slice (some ⟨g, 0, none⟩) j c) W → n ≤ 101 → Calls Try.prog 20 #[.pointer (some ⟨t, 0, none⟩)] W fun e w' => ∃ v L, e = .returned v ∧ OwnE w' W.heap.size v L ∧ L.map (·.1) = [3].map (entOf T) ∧ Below W.heap.size W w') := fun W n hW hn => Entries_any hW.tab (keys3 hW.ag hne) (by omega)
        obtain ⟨nx, hnx⟩ : ∃ nx, (T.get 3).next = nx := ⟨_, rfl⟩
        obtain ⟨n5, hn5⟩ : ∃ n5, (T.get 3).last.length = n5 := ⟨_, rfl⟩
        have hHg : Hid ((T.get 3).next = nx ∧ (T.get 3).last.length = n5) := ⟨hnx, hn5⟩
        rw [hdsj] at HAg HNg
        obtain ⟨dsq, hdsq⟩ : ∃ dsq, d.seq = dsq := ⟨_, rfl⟩
        obtain ⟨dof, hdof⟩ : ∃ dof, d.off = dof := ⟨_, rfl⟩
        unfold noL at HAt
        rw [hdsq, hdof] at HAt HAg
        rw [hdsq] at HNg
        have hzl : kk < j := hkj
        clear hx hdm hdk hdsj hne hnx hn5 hdsq hdof hLl hsq hLj
        by_cases hk5 : j ≤ kk + 5
        · skip
          have hdk : decide ((j : Int) - 5 ≤ (kk : Int)) = true := by simp; omega
          have hDc : Hid (∀ W, AgW w t M j T ds L (.slice (some ⟨g, 0, none⟩) j c) W → Calls Try.prog 17 #[.pointer (some ⟨t, 0, none⟩), .agg #[.int .i64 1, .int .i64 3, .int .i64 2, .int .i64 dsq, .bool false, .slice a3 m c3]] W fun x w' => x = .returned (.tuple #[.int .i64 dof, .bool true, .int .i64 0]) ∧ Below W.heap.size W w') := fun W hW => by
            have h := Decide_any hW.tab 1 3 2 dsq false (List.replicate m recK) a3 m c3 ((HAt.out W j hW).2.arg (by simp) (recK_size m) _ _ _ _ _)
            have e : decN T ⟨1, 3, 2, dsq, false, List.replicate m recK⟩ = (dof, true, 0) := HAg.out.trans (if_pos hk5)
            rw [e] at h
            exact h
          have hNt : Hid (∀ W, AgW w t M j T ds L (.slice (some ⟨g, 0, none⟩) j c) W → Calls Try.prog 19 #[.pointer (some ⟨t, 0, none⟩), .agg #[.int .i64 1, .int .i64 3, .int .i64 2, .int .i64 dsq, .bool false, .slice a3 m c3], .int .i64 5] W fun x w' => x = .returned (.int .i64 0) ∧ TPic w' t M (j + 1) T ∧ Chg [M] W w') := fun W hW => by
            have h := Note_any hW.tab (by unfold maxLen; omega) 1 3 2 dsq false (List.replicate m recK) a3 m c3 5 ((HAt.out W j hW).2.arg (by simp) (recK_size m) _ _ _ _ _)
            have e : notN T ⟨1, 3, 2, dsq, false, List.replicate m recK⟩ 5 = (0, T) := HNg.out.trans (by rw [if_pos hk5])
            rw [e] at h
            exact h
          have hwx : IntKind.i64.wrap ((j : Int) - 5) = (j : Int) - 5 := by rw [IntKind.wrap_i64]; omega
          go_wp2_with (first
            | (go_at_call 20; (with_reducible_and_instances (refine (HEn.out _ j HE.out (by omega)).mono ?_)); rintro x w2 ⟨v1, L1, rfl, ho1, hm1, hb1⟩; obtain ⟨g1, c1, b1, d1, rfl, hg1, k1, k2⟩ := one_entry ho1 hm1; obtain ⟨q1, q2⟩ := hHg.out; rw [q1] at k1; rw [q2] at k2; have HE2 := hid (HE.out.later hb1); have HTy1 := hid (ho1.block g1 rfl); obtain ⟨hcl, -⟩ := HAt.out w2 j HE2.out; have z0 : w2.cell? ⟨g, kk * 7, none⟩ = some (.int .i64 1) := hcl 0 (by omega); have z1 : w2.cell? ⟨g, kk * 7 + 1, none⟩ = some (.int .i64 3) := hcl 1 (by omega); have z2 : w2.cell? ⟨g, kk * 7 + 2, none⟩ = some (.int .i64 2) := hcl 2 (by omega); have z3 : w2.cell? ⟨g, kk * 7 + 3, none⟩ = some (.int .i64 dsq) := hcl 3 (by omega); have z4 : w2.cell? ⟨g, kk * 7 + 4, none⟩ = some (.bool false) := hcl 4 (by omega); have z5 : w2.cell? ⟨g, kk * 7 + 5, none⟩ = some (.slice a3 m c3) := hcl 5 (by omega); have hdc2 := hid (hDc.out w2 HE2.out); clear ho1 hm1 hb1 hcl)
            | (go_at_call 17; (with_reducible_and_instances (refine hdc2.out.mono ?_)); rintro x w4 ⟨rfl, hb4⟩; have HE4 := hid (HE2.out.later hb4); have k1' := (hb4.cell (p := ⟨g1, 2, none⟩) hg1).trans k1; have k2' := (hb4.cell (p := ⟨g1, 3, none⟩) hg1).trans k2; have HTy4 : Hid (∃ cur, w4.heap[g1]? = some (.cells cur TEn (0, 0))) := (by obtain ⟨-, cur, hcur⟩ := HTy1.out; exact ⟨cur, (hb4.block g1 hg1).trans hcur⟩); have hg14 := Nat.lt_of_lt_of_le hg1 hb4.size; obtain ⟨hcl, -⟩ := HAt.out w4 j HE4.out; have z0 : w4.cell? ⟨g, kk * 7, none⟩ = some (.int .i64 1) := hcl 0 (by omega); have z1 : w4.cell? ⟨g, kk * 7 + 1, none⟩ = some (.int .i64 3) := hcl 1 (by omega); have z2 : w4.cell? ⟨g, kk * 7 + 2, none⟩ = some (.int .i64 2) := hcl 2 (by omega); have z3 : w4.cell? ⟨g, kk * 7 + 3, none⟩ = some (.int .i64 dsq) := hcl 3 (by omega); have z4 : w4.cell? ⟨g, kk * 7 + 4, none⟩ = some (.bool false) := hcl 4 (by omega); have z5 : w4.cell? ⟨g, kk * 7 + 5, none⟩ = some (.slice a3 m c3) := hcl 5 (by omega); have hnt4 := hid (hNt.out w4 HE4.out); clear hb4 hcl k1 k2)
            | (go_at_call 19; (with_reducible_and_instances (refine hnt4.out.mono ?_)); rintro x w5 ⟨rfl, ht5, hc5⟩; have HE5 := hid (HE4.out.noted ht5 hc5); have hk5g : w5.heap[g1]? = w4.heap[g1]? := (by obtain ⟨cur, hcur⟩ := HTy4.out; exact (HE4.out.own.noted HE4.out.tab hc5).2 0 g1 cur TEn hcur (by decide)); have k1'' : w5.cell? ⟨g1, 2, none⟩ = _ := (by simp only [World.cell?, hk5g]; exact k1'); have k2'' : w5.cell? ⟨g1, 3, none⟩ = _ := (by simp only [World.cell?, hk5g]; exact k2'); have hg15 : g1 < w5.heap.size := Nat.lt_of_lt_of_le hg14 hc5.size; have hen5 := hid (HEn.out _ (j + 1) HE5.out (by omega)); clear ht5 hc5 k1' k2' hk5g))
          go_wp2_with (go_at_call 20; (with_reducible_and_instances (refine hen5.out.mono ?_)); rintro x w6 ⟨v2, L2, rfl, ho2, hm2, hb2⟩; obtain ⟨g2, c2, b2, d2, rfl, hg2, k3, k4⟩ := one_entry ho2 hm2; obtain ⟨q1, q2⟩ := hHg.out; rw [q1] at k3; rw [q2] at k4; have HE6 := hid (HE5.out.later hb2); have k5 := (hb2.cell (p := ⟨g1, 2, none⟩) hg15).trans k1''; have k6 := (hb2.cell (p := ⟨g1, 3, none⟩) hg15).trans k2''; have hg16 := Nat.lt_of_lt_of_le hg15 hb2.size; clear ho2 hm2 hb2 k1'' k2'')
          have HS22 : Hid (∀ W, Below w6.heap.size w6 W → (W.cell? ⟨g1, 2, none⟩ = some (.int .i64 nx)) ∧ W.cell? ⟨g1, 3, none⟩ = some (.slice b1 n5 d1) ∧ W.cell? ⟨g2, 2, none⟩ = some (.int .i64 nx) ∧ W.cell? ⟨g2, 3, none⟩ = some (.slice b2 n5 d2)) := fun W hW => ⟨(hW.cell (p := ⟨g1, 2, none⟩) hg16).trans k5, (hW.cell (p := ⟨g1, 3, none⟩) hg16).trans k6, (hW.cell (p := ⟨g2, 2, none⟩) hg2).trans k3, (hW.cell (p := ⟨g2, 3, none⟩) hg2).trans k4⟩
          clear k3 k4 k5 k6
          refine wp_region_held_drew (S := fun W => (W.cell? ⟨g1, 2, none⟩ = some (.int .i64 nx)) ∧ W.cell? ⟨g1, 3, none⟩ = some (.slice b1 n5 d1) ∧ W.cell? ⟨g2, 2, none⟩ = some (.int .i64 nx) ∧ W.cell? ⟨g2, 3, none⟩ = some (.slice b2 n5 d2)) (by kernel_rfl) (HS22.out _ (Below.refl _ _).drew) (fun hHeld => ?_)
          refine wpAnyH_take (i := 0) (oi := { dst := some 98, op := Op.move (Operand.tmp 16), type := 37, pos := "law.go:206", after := #[], guard := none }) (v := ?_) rfl (by kernel_rfl) (by kernel_rfl) (by kernel_rfl) (fun _ _ _ h => h) (Or.inl ⟨by rfl, ?_⟩) hHeld ?_
          rotate_left
          · intro w hSw; (try dsimp only at hSw); go_simp; try with_reducible rfl
          try simp only [Act.put, List.setIfInBounds_toArray, List.set_cons_zero, List.set_cons_succ]
          refine wpAnyH_take (i := 1) (oi := { dst := some 99, op := Op.call { callee := Callee.builtin Builtin.len, args := #[Operand.tmp 98], argTypes := #[37] }, type := 3, pos := "law.go:206", after := #[{ on := 0, ground := Ground.data }], guard := none }) (v := ?_) rfl (by kernel_rfl) (by kernel_rfl) (by kernel_rfl) (fun _ _ _ h => h) (Or.inl ⟨by rfl, ?_⟩) hHeld ?_
          rotate_left
          · intro w hSw; (try dsimp only at hSw); go_simp; try with_reducible rfl
          try simp only [Act.put, List.setIfInBounds_toArray, List.set_cons_zero, List.set_cons_succ]
          refine wpAnyH_take (i := 2) (oi := { dst := some 100, op := Op.binOp BinOp.neq 3 (Operand.tmp 99) (Operand.const (Value.int IntKind.i64 1)) 3, type := 4, pos := "law.go:206", after := #[{ on := 1, ground := Ground.data }], guard := none }) (v := ?_) rfl (by kernel_rfl) (by kernel_rfl) (by kernel_rfl) (fun _ _ _ h => h) (Or.inl ⟨by rfl, ?_⟩) hHeld ?_
          rotate_left
          · intro w hSw; (try dsimp only at hSw); go_simp; try with_reducible rfl
          try simp only [Act.put, List.setIfInBounds_toArray, List.set_cons_zero, List.set_cons_succ]
          refine wpAnyH_take (i := 3) (oi := { dst := some 101, op := Op.move (Operand.tmp 100), type := 4, pos := "law.go:206", after := #[{ on := 2, ground := Ground.data }], guard := none }) (v := ?_) rfl (by kernel_rfl) (by kernel_rfl) (by kernel_rfl) (fun _ _ _ h => h) (Or.inl ⟨by rfl, ?_⟩) hHeld ?_
          rotate_left
          · intro w hSw; (try dsimp only at hSw); go_simp; try with_reducible rfl
          try simp only [Act.put, List.setIfInBounds_toArray, List.set_cons_zero, List.set_cons_succ]
          refine wpAnyH_take (i := 4) (oi := { dst := some 102, op := Op.move (Operand.tmp 11), type := 37, pos := "law.go:206", after := #[{ on := 3, ground := Ground.guard }], guard := some (3, false) }) (v := ?_) rfl (by kernel_rfl) (by kernel_rfl) (by kernel_rfl) (fun _ _ _ h => h) (Or.inl ⟨by rfl, ?_⟩) hHeld ?_
          rotate_left
          · intro w hSw; (try dsimp only at hSw); go_simp; try with_reducible rfl
          try simp only [Act.put, List.setIfInBounds_toArray, List.set_cons_zero, List.set_cons_succ]
          refine wpAnyH_take (i := 5) (oi := { dst := some 103, op := Op.call { callee := Callee.builtin Builtin.len, args := #[Operand.tmp 102], argTypes := #[37] }, type := 3, pos := "law.go:206", after := #[{ on := 4, ground := Ground.data }, { on := 3, ground := Ground.guard }], guard := some (3, false) }) (v := ?_) rfl (by kernel_rfl) (by kernel_rfl) (by kernel_rfl) (fun _ _ _ h => h) (Or.inl ⟨by rfl, ?_⟩) hHeld ?_
          rotate_left
          · intro w hSw; (try dsimp only at hSw); go_simp; try with_reducible rfl
          try simp only [Act.put, List.setIfInBounds_toArray, List.set_cons_zero, List.set_cons_succ]
          refine wpAnyH_take (i := 6) (oi := { dst := some 104, op := Op.binOp BinOp.neq 3 (Operand.tmp 103) (Operand.const (Value.int IntKind.i64 1)) 3, type := 4, pos := "law.go:206", after := #[{ on := 5, ground := Ground.data }, { on := 3, ground := Ground.guard }], guard := some (3, false) }) (v := ?_) rfl (by kernel_rfl) (by kernel_rfl) (by kernel_rfl) (fun _ _ _ h => h) (Or.inl ⟨by rfl, ?_⟩) hHeld ?_
          rotate_left
          · intro w hSw; (try dsimp only at hSw); go_simp; try with_reducible rfl
          try simp only [Act.put, List.setIfInBounds_toArray, List.set_cons_zero, List.set_cons_succ]
          refine wpAnyH_take (i := 7) (oi := { dst := some 105, op := Op.pick (Operand.tmp 101) (Operand.const (Value.bool true)) (Operand.tmp 104), type := 4, pos := "law.go:206", after := #[{ on := 3, ground := Ground.data }, { on := 6, ground := Ground.data }], guard := none }) (v := ?_) rfl (by kernel_rfl) (by kernel_rfl) (by kernel_rfl) (fun _ _ _ h => h) (Or.inl ⟨by rfl, ?_⟩) hHeld ?_
          rotate_left
          · intro w hSw; (try dsimp only at hSw); go_simp; try with_reducible rfl
          try simp only [Act.put, List.setIfInBounds_toArray, List.set_cons_zero, List.set_cons_succ]
          refine wpAnyH_take (i := 8) (oi := { dst := some 106, op := Op.move (Operand.tmp 105), type := 4, pos := "law.go:206", after := #[{ on := 7, ground := Ground.data }, { on := 3, ground := Ground.chain }], guard := none }) (v := ?_) rfl (by kernel_rfl) (by kernel_rfl) (by kernel_rfl) (fun _ _ _ h => h) (Or.inl ⟨by rfl, ?_⟩) hHeld ?_
          rotate_left
          · intro w hSw; (try dsimp only at hSw); go_simp; try with_reducible rfl
          try simp only [Act.put, List.setIfInBounds_toArray, List.set_cons_zero, List.set_cons_succ]
          refine wpAnyH_take (i := 9) (oi := { dst := some 107, op := Op.move (Operand.tmp 16), type := 37, pos := "law.go:206", after := #[{ on := 8, ground := Ground.guard }], guard := some (8, false) }) (v := ?_) rfl (by kernel_rfl) (by kernel_rfl) (by kernel_rfl) (fun _ _ _ h => h) (Or.inl ⟨by rfl, ?_⟩) hHeld ?_
          rotate_left
          · intro w hSw; (try dsimp only at hSw); go_simp; try with_reducible rfl
          try simp only [Act.put, List.setIfInBounds_toArray, List.set_cons_zero, List.set_cons_succ]
          refine wpAnyH_take (i := 10) (oi := { dst := some 108, op := Op.indexAddr 37 (Operand.tmp 107) (Operand.const (Value.int IntKind.i64 0)), type := 0, pos := "law.go:206", after := #[{ on := 9, ground := Ground.data }, { on := 8, ground := Ground.guard }], guard := some (8, false) }) (v := ?_) rfl (by kernel_rfl) (by kernel_rfl) (by kernel_rfl) (fun _ _ _ h => h) (Or.inl ⟨by rfl, ?_⟩) hHeld ?_
          rotate_left
          · intro w hSw; (try dsimp only at hSw); go_simp; try with_reducible rfl
          try simp only [Act.put, List.setIfInBounds_toArray, List.set_cons_zero, List.set_cons_succ]
          refine wpAnyH_take (i := 11) (oi := { dst := some 109, op := Op.fieldAddr 65 (Operand.tmp 108) 2, type := 0, pos := "law.go:206", after := #[{ on := 10, ground := Ground.data }, { on := 8, ground := Ground.guard }], guard := some (8, false) }) (v := ?_) rfl (by kernel_rfl) (by kernel_rfl) (by kernel_rfl) (fun _ _ _ h => h) (Or.inl ⟨by rfl, ?_⟩) hHeld ?_
          rotate_left
          · intro w hSw; (try dsimp only at hSw); go_simp; try with_reducible rfl
          try simp only [Act.put, List.setIfInBounds_toArray, List.set_cons_zero, List.set_cons_succ]
          refine wpAnyH_take (i := 12) (oi := { dst := some 110, op := Op.load 3 (Operand.tmp 109), type := 3, pos := "law.go:206", after := #[{ on := 11, ground := Ground.data }, { on := 8, ground := Ground.guard }], guard := some (8, false) }) (v := ?_) rfl (by kernel_rfl) (by kernel_rfl) (by kernel_rfl) (fun _ _ _ h => h) (Or.inl ⟨by rfl, ?_⟩) hHeld ?_
          rotate_left
          · intro w hSw; (try dsimp only at hSw); go_simp; try with_reducible rfl
          try simp only [Act.put, List.setIfInBounds_toArray, List.set_cons_zero, List.set_cons_succ]
          refine wpAnyH_take (i := 13) (oi := { dst := some 111, op := Op.move (Operand.tmp 11), type := 37, pos := "law.go:206", after := #[{ on := 8, ground := Ground.guard }], guard := some (8, false) }) (v := ?_) rfl (by kernel_rfl) (by kernel_rfl) (by kernel_rfl) (fun _ _ _ h => h) (Or.inl ⟨by rfl, ?_⟩) hHeld ?_
          rotate_left
          · intro w hSw; (try dsimp only at hSw); go_simp; try with_reducible rfl
          try simp only [Act.put, List.setIfInBounds_toArray, List.set_cons_zero, List.set_cons_succ]
          refine wpAnyH_take (i := 14) (oi := { dst := some 112, op := Op.indexAddr 37 (Operand.tmp 111) (Operand.const (Value.int IntKind.i64 0)), type := 0, pos := "law.go:206", after := #[{ on := 13, ground := Ground.data }, { on := 8, ground := Ground.guard }], guard := some (8, false) }) (v := ?_) rfl (by kernel_rfl) (by kernel_rfl) (by kernel_rfl) (fun _ _ _ h => h) (Or.inl ⟨by rfl, ?_⟩) hHeld ?_
          rotate_left
          · intro w hSw; (try dsimp only at hSw); go_simp; try with_reducible rfl
          try simp only [Act.put, List.setIfInBounds_toArray, List.set_cons_zero, List.set_cons_succ]
          refine wpAnyH_take (i := 15) (oi := { dst := some 113, op := Op.fieldAddr 65 (Operand.tmp 112) 2, type := 0, pos := "law.go:206", after := #[{ on := 14, ground := Ground.data }, { on := 8, ground := Ground.guard }], guard := some (8, false) }) (v := ?_) rfl (by kernel_rfl) (by kernel_rfl) (by kernel_rfl) (fun _ _ _ h => h) (Or.inl ⟨by rfl, ?_⟩) hHeld ?_
          rotate_left
          · intro w hSw; (try dsimp only at hSw); go_simp; try with_reducible rfl
          try simp only [Act.put, List.setIfInBounds_toArray, List.set_cons_zero, List.set_cons_succ]
          refine wpAnyH_take (i := 16) (oi := { dst := some 114, op := Op.load 3 (Operand.tmp 113), type := 3, pos := "law.go:206", after := #[{ on := 15, ground := Ground.data }, { on := 8, ground := Ground.guard }], guard := some (8, false) }) (v := ?_) rfl (by kernel_rfl) (by kernel_rfl) (by kernel_rfl) (fun _ _ _ h => h) (Or.inl ⟨by rfl, ?_⟩) hHeld ?_
          rotate_left
          · intro w hSw; (try dsimp only at hSw); go_simp; try with_reducible rfl
          try simp only [Act.put, List.setIfInBounds_toArray, List.set_cons_zero, List.set_cons_succ]
          refine wpAnyH_take (i := 17) (oi := { dst := some 115, op := Op.binOp BinOp.neq 3 (Operand.tmp 110) (Operand.tmp 114) 3, type := 4, pos := "law.go:206", after := #[{ on := 12, ground := Ground.data }, { on := 16, ground := Ground.data }, { on := 8, ground := Ground.guard }], guard := some (8, false) }) (v := ?_) rfl (by kernel_rfl) (by kernel_rfl) (by kernel_rfl) (fun _ _ _ h => h) (Or.inl ⟨by rfl, ?_⟩) hHeld ?_
          rotate_left
          · intro w hSw; (try dsimp only at hSw); go_simp; try with_reducible rfl
          try simp only [Act.put, List.setIfInBounds_toArray, List.set_cons_zero, List.set_cons_succ]
          refine wpAnyH_take (i := 18) (oi := { dst := some 116, op := Op.pick (Operand.tmp 106) (Operand.const (Value.bool true)) (Operand.tmp 115), type := 4, pos := "law.go:206", after := #[{ on := 8, ground := Ground.data }, { on := 17, ground := Ground.data }], guard := none }) (v := ?_) rfl (by kernel_rfl) (by kernel_rfl) (by kernel_rfl) (fun _ _ _ h => h) (Or.inl ⟨by rfl, ?_⟩) hHeld ?_
          rotate_left
          · intro w hSw; (try dsimp only at hSw); go_simp; try with_reducible rfl
          try simp only [Act.put, List.setIfInBounds_toArray, List.set_cons_zero, List.set_cons_succ]
          refine wpAnyH_take (i := 19) (oi := { dst := some 117, op := Op.move (Operand.tmp 116), type := 4, pos := "law.go:206", after := #[{ on := 18, ground := Ground.data }, { on := 8, ground := Ground.chain }], guard := none }) (v := ?_) rfl (by kernel_rfl) (by kernel_rfl) (by kernel_rfl) (fun _ _ _ h => h) (Or.inl ⟨by rfl, ?_⟩) hHeld ?_
          rotate_left
          · intro w hSw; (try dsimp only at hSw); go_simp; try with_reducible rfl
          try simp only [Act.put, List.setIfInBounds_toArray, List.set_cons_zero, List.set_cons_succ]
          refine wpAnyH_take (i := 20) (oi := { dst := some 118, op := Op.move (Operand.tmp 16), type := 37, pos := "law.go:206", after := #[{ on := 19, ground := Ground.guard }], guard := some (19, false) }) (v := ?_) rfl (by kernel_rfl) (by kernel_rfl) (by kernel_rfl) (fun _ _ _ h => h) (Or.inl ⟨by rfl, ?_⟩) hHeld ?_
          rotate_left
          · intro w hSw; (try dsimp only at hSw); go_simp; try with_reducible rfl
          try simp only [Act.put, List.setIfInBounds_toArray, List.set_cons_zero, List.set_cons_succ]
          refine wpAnyH_take (i := 21) (oi := { dst := some 119, op := Op.indexAddr 37 (Operand.tmp 118) (Operand.const (Value.int IntKind.i64 0)), type := 0, pos := "law.go:206", after := #[{ on := 20, ground := Ground.data }, { on := 19, ground := Ground.guard }], guard := some (19, false) }) (v := ?_) rfl (by kernel_rfl) (by kernel_rfl) (by kernel_rfl) (fun _ _ _ h => h) (Or.inl ⟨by rfl, ?_⟩) hHeld ?_
          rotate_left
          · intro w hSw; (try dsimp only at hSw); go_simp; try with_reducible rfl
          try simp only [Act.put, List.setIfInBounds_toArray, List.set_cons_zero, List.set_cons_succ]
          refine wpAnyH_take (i := 22) (oi := { dst := some 120, op := Op.fieldAddr 65 (Operand.tmp 119) 3, type := 0, pos := "law.go:206", after := #[{ on := 21, ground := Ground.data }, { on := 19, ground := Ground.guard }], guard := some (19, false) }) (v := ?_) rfl (by kernel_rfl) (by kernel_rfl) (by kernel_rfl) (fun _ _ _ h => h) (Or.inl ⟨by rfl, ?_⟩) hHeld ?_
          rotate_left
          · intro w hSw; (try dsimp only at hSw); go_simp; try with_reducible rfl
          try simp only [Act.put, List.setIfInBounds_toArray, List.set_cons_zero, List.set_cons_succ]
          refine wpAnyH_take (i := 23) (oi := { dst := some 121, op := Op.load 63 (Operand.tmp 120), type := 63, pos := "law.go:206", after := #[{ on := 22, ground := Ground.data }, { on := 19, ground := Ground.guard }], guard := some (19, false) }) (v := ?_) rfl (by kernel_rfl) (by kernel_rfl) (by kernel_rfl) (fun _ _ _ h => h) (Or.inl ⟨by rfl, ?_⟩) hHeld ?_
          rotate_left
          · intro w hSw; (try dsimp only at hSw); go_simp; try with_reducible rfl
          try simp only [Act.put, List.setIfInBounds_toArray, List.set_cons_zero, List.set_cons_succ]
          refine wpAnyH_take (i := 24) (oi := { dst := some 122, op := Op.call { callee := Callee.builtin Builtin.len, args := #[Operand.tmp 121], argTypes := #[63] }, type := 3, pos := "law.go:206", after := #[{ on := 23, ground := Ground.data }, { on := 19, ground := Ground.guard }], guard := some (19, false) }) (v := ?_) rfl (by kernel_rfl) (by kernel_rfl) (by kernel_rfl) (fun _ _ _ h => h) (Or.inl ⟨by rfl, ?_⟩) hHeld ?_
          rotate_left
          · intro w hSw; (try dsimp only at hSw); go_simp; try with_reducible rfl
          try simp only [Act.put, List.setIfInBounds_toArray, List.set_cons_zero, List.set_cons_succ]
          refine wpAnyH_take (i := 25) (oi := { dst := some 123, op := Op.move (Operand.tmp 11), type := 37, pos := "law.go:206", after := #[{ on := 19, ground := Ground.guard }], guard := some (19, false) }) (v := ?_) rfl (by kernel_rfl) (by kernel_rfl) (by kernel_rfl) (fun _ _ _ h => h) (Or.inl ⟨by rfl, ?_⟩) hHeld ?_
          rotate_left
          · intro w hSw; (try dsimp only at hSw); go_simp; try with_reducible rfl
          try simp only [Act.put, List.setIfInBounds_toArray, List.set_cons_zero, List.set_cons_succ]
          refine wpAnyH_take (i := 26) (oi := { dst := some 124, op := Op.indexAddr 37 (Operand.tmp 123) (Operand.const (Value.int IntKind.i64 0)), type := 0, pos := "law.go:206", after := #[{ on := 25, ground := Ground.data }, { on := 19, ground := Ground.guard }], guard := some (19, false) }) (v := ?_) rfl (by kernel_rfl) (by kernel_rfl) (by kernel_rfl) (fun _ _ _ h => h) (Or.inl ⟨by rfl, ?_⟩) hHeld ?_
          rotate_left
          · intro w hSw; (try dsimp only at hSw); go_simp; try with_reducible rfl
          try simp only [Act.put, List.setIfInBounds_toArray, List.set_cons_zero, List.set_cons_succ]
          refine wpAnyH_take (i := 27) (oi := { dst := some 125, op := Op.fieldAddr 65 (Operand.tmp 124) 3, type := 0, pos := "law.go:206", after := #[{ on := 26, ground := Ground.data }, { on := 19, ground := Ground.guard }], guard := some (19, false) }) (v := ?_) rfl (by kernel_rfl) (by kernel_rfl) (by kernel_rfl) (fun _ _ _ h => h) (Or.inl ⟨by rfl, ?_⟩) hHeld ?_
          rotate_left
          · intro w hSw; (try dsimp only at hSw); go_simp; try with_reducible rfl
          try simp only [Act.put, List.setIfInBounds_toArray, List.set_cons_zero, List.set_cons_succ]
          refine wpAnyH_take (i := 28) (oi := { dst := some 126, op := Op.load 63 (Operand.tmp 125), type := 63, pos := "law.go:206", after := #[{ on := 27, ground := Ground.data }, { on := 19, ground := Ground.guard }], guard := some (19, false) }) (v := ?_) rfl (by kernel_rfl) (by kernel_rfl) (by kernel_rfl) (fun _ _ _ h => h) (Or.inl ⟨by rfl, ?_⟩) hHeld ?_
          rotate_left
          · intro w hSw; (try dsimp only at hSw); go_simp; try with_reducible rfl
          try simp only [Act.put, List.setIfInBounds_toArray, List.set_cons_zero, List.set_cons_succ]
          refine wpAnyH_take (i := 29) (oi := { dst := some 127, op := Op.call { callee := Callee.builtin Builtin.len, args := #[Operand.tmp 126], argTypes := #[63] }, type := 3, pos := "law.go:206", after := #[{ on := 28, ground := Ground.data }, { on := 19, ground := Ground.guard }], guard := some (19, false) }) (v := ?_) rfl (by kernel_rfl) (by kernel_rfl) (by kernel_rfl) (fun _ _ _ h => h) (Or.inl ⟨by rfl, ?_⟩) hHeld ?_
          rotate_left
          · intro w hSw; (try dsimp only at hSw); go_simp; try with_reducible rfl
          try simp only [Act.put, List.setIfInBounds_toArray, List.set_cons_zero, List.set_cons_succ]
          refine wpAnyH_take (i := 30) (oi := { dst := some 128, op := Op.binOp BinOp.neq 3 (Operand.tmp 122) (Operand.tmp 127) 3, type := 4, pos := "law.go:206", after := #[{ on := 24, ground := Ground.data }, { on := 29, ground := Ground.data }, { on := 19, ground := Ground.guard }], guard := some (19, false) }) (v := ?_) rfl (by kernel_rfl) (by kernel_rfl) (by kernel_rfl) (fun _ _ _ h => h) (Or.inl ⟨by rfl, ?_⟩) hHeld ?_
          rotate_left
          · intro w hSw; (try dsimp only at hSw); go_simp; try with_reducible rfl
          try simp only [Act.put, List.setIfInBounds_toArray, List.set_cons_zero, List.set_cons_succ]
          refine wpAnyH_take (i := 31) (oi := { dst := some 129, op := Op.pick (Operand.tmp 117) (Operand.const (Value.bool true)) (Operand.tmp 128), type := 4, pos := "law.go:206", after := #[{ on := 19, ground := Ground.data }, { on := 30, ground := Ground.data }], guard := none }) (v := ?_) rfl (by kernel_rfl) (by kernel_rfl) (by kernel_rfl) (fun _ _ _ h => h) (Or.inl ⟨by rfl, ?_⟩) hHeld ?_
          rotate_left
          · intro w hSw; (try dsimp only at hSw); go_simp; try with_reducible rfl
          try simp only [Act.put, List.setIfInBounds_toArray, List.set_cons_zero, List.set_cons_succ]
          refine wpAnyH_done (by kernel_rfl) ?_ _
          clear hHeld HS22
          obtain ⟨hcl, -⟩ := HAt.out w6.drew (j + 1) (HE6.out.later (Below.refl _ _).drew)
          have z6 : w6.drew.cell? ⟨g, kk * 7 + 6, none⟩ = some (.int .i64 dof) := hcl 6 (by omega)
          have HBl := hid HE6.out.below
          clear hcl
          go_wp2_with (go_at_call 15; refine (num12_any _ _).mono ?_; rintro x w9 ⟨rfl, hw9⟩; obtain rfl := hw9.symm)
          go_ret
          exact ⟨rfl, HBl.out.drew⟩
        · skip
          have hdk : decide ((j : Int) - 5 ≤ (kk : Int)) = false := by simp; omega
          have hDc : Hid (∀ W, AgW w t M j T ds L (.slice (some ⟨g, 0, none⟩) j c) W → Calls Try.prog 17 #[.pointer (some ⟨t, 0, none⟩), .agg #[.int .i64 1, .int .i64 3, .int .i64 2, .int .i64 dsq, .bool false, .slice a3 m c3]] W fun x w' => x = .returned (.tuple #[.int .i64 0, .bool false, .int .i64 52]) ∧ Below W.heap.size W w') := fun W hW => by
            have h := Decide_any hW.tab 1 3 2 dsq false (List.replicate m recK) a3 m c3 ((HAt.out W j hW).2.arg (by simp) (recK_size m) _ _ _ _ _)
            have e : decN T ⟨1, 3, 2, dsq, false, List.replicate m recK⟩ = (0, false, 52) := HAg.out.trans (if_neg hk5)
            rw [e] at h
            exact h
          have hNt : Hid (∀ W, AgW w t M j T ds L (.slice (some ⟨g, 0, none⟩) j c) W → Calls Try.prog 19 #[.pointer (some ⟨t, 0, none⟩), .agg #[.int .i64 1, .int .i64 3, .int .i64 2, .int .i64 dsq, .bool false, .slice a3 m c3], .int .i64 5] W fun x w' => x = .returned (.int .i64 52) ∧ TPic w' t M (j + 1) T ∧ Chg [M] W w') := fun W hW => by
            have h := Note_any hW.tab (by unfold maxLen; omega) 1 3 2 dsq false (List.replicate m recK) a3 m c3 5 ((HAt.out W j hW).2.arg (by simp) (recK_size m) _ _ _ _ _)
            have e : notN T ⟨1, 3, 2, dsq, false, List.replicate m recK⟩ 5 = (52, T) := HNg.out.trans (by rw [if_neg hk5])
            rw [e] at h
            exact h
          have hwx : IntKind.i64.wrap ((j : Int) - 5) = (j : Int) - 5 := by rw [IntKind.wrap_i64]; omega
          go_wp2_with (first
            | (go_at_call 20; (with_reducible_and_instances (refine (HEn.out _ j HE.out (by omega)).mono ?_)); rintro x w2 ⟨v1, L1, rfl, ho1, hm1, hb1⟩; obtain ⟨g1, c1, b1, d1, rfl, hg1, k1, k2⟩ := one_entry ho1 hm1; obtain ⟨q1, q2⟩ := hHg.out; rw [q1] at k1; rw [q2] at k2; have HE2 := hid (HE.out.later hb1); have HTy1 := hid (ho1.block g1 rfl); obtain ⟨hcl, -⟩ := HAt.out w2 j HE2.out; have z0 : w2.cell? ⟨g, kk * 7, none⟩ = some (.int .i64 1) := hcl 0 (by omega); have z1 : w2.cell? ⟨g, kk * 7 + 1, none⟩ = some (.int .i64 3) := hcl 1 (by omega); have z2 : w2.cell? ⟨g, kk * 7 + 2, none⟩ = some (.int .i64 2) := hcl 2 (by omega); have z3 : w2.cell? ⟨g, kk * 7 + 3, none⟩ = some (.int .i64 dsq) := hcl 3 (by omega); have z4 : w2.cell? ⟨g, kk * 7 + 4, none⟩ = some (.bool false) := hcl 4 (by omega); have z5 : w2.cell? ⟨g, kk * 7 + 5, none⟩ = some (.slice a3 m c3) := hcl 5 (by omega); have hdc2 := hid (hDc.out w2 HE2.out); clear ho1 hm1 hb1 hcl)
            | (go_at_call 17; (with_reducible_and_instances (refine hdc2.out.mono ?_)); rintro x w4 ⟨rfl, hb4⟩; have HE4 := hid (HE2.out.later hb4); have k1' := (hb4.cell (p := ⟨g1, 2, none⟩) hg1).trans k1; have k2' := (hb4.cell (p := ⟨g1, 3, none⟩) hg1).trans k2; have HTy4 : Hid (∃ cur, w4.heap[g1]? = some (.cells cur TEn (0, 0))) := (by obtain ⟨-, cur, hcur⟩ := HTy1.out; exact ⟨cur, (hb4.block g1 hg1).trans hcur⟩); have hg14 := Nat.lt_of_lt_of_le hg1 hb4.size; obtain ⟨hcl, -⟩ := HAt.out w4 j HE4.out; have z0 : w4.cell? ⟨g, kk * 7, none⟩ = some (.int .i64 1) := hcl 0 (by omega); have z1 : w4.cell? ⟨g, kk * 7 + 1, none⟩ = some (.int .i64 3) := hcl 1 (by omega); have z2 : w4.cell? ⟨g, kk * 7 + 2, none⟩ = some (.int .i64 2) := hcl 2 (by omega); have z3 : w4.cell? ⟨g, kk * 7 + 3, none⟩ = some (.int .i64 dsq) := hcl 3 (by omega); have z4 : w4.cell? ⟨g, kk * 7 + 4, none⟩ = some (.bool false) := hcl 4 (by omega); have z5 : w4.cell? ⟨g, kk * 7 + 5, none⟩ = some (.slice a3 m c3) := hcl 5 (by omega); have hnt4 := hid (hNt.out w4 HE4.out); clear hb4 hcl k1 k2)
            | (go_at_call 19; (with_reducible_and_instances (refine hnt4.out.mono ?_)); rintro x w5 ⟨rfl, ht5, hc5⟩; have HE5 := hid (HE4.out.noted ht5 hc5); have hk5g : w5.heap[g1]? = w4.heap[g1]? := (by obtain ⟨cur, hcur⟩ := HTy4.out; exact (HE4.out.own.noted HE4.out.tab hc5).2 0 g1 cur TEn hcur (by decide)); have k1'' : w5.cell? ⟨g1, 2, none⟩ = _ := (by simp only [World.cell?, hk5g]; exact k1'); have k2'' : w5.cell? ⟨g1, 3, none⟩ = _ := (by simp only [World.cell?, hk5g]; exact k2'); have hg15 : g1 < w5.heap.size := Nat.lt_of_lt_of_le hg14 hc5.size; have hen5 := hid (HEn.out _ (j + 1) HE5.out (by omega)); clear ht5 hc5 k1' k2' hk5g))
          go_wp2_with (go_at_call 20; (with_reducible_and_instances (refine hen5.out.mono ?_)); rintro x w6 ⟨v2, L2, rfl, ho2, hm2, hb2⟩; obtain ⟨g2, c2, b2, d2, rfl, hg2, k3, k4⟩ := one_entry ho2 hm2; obtain ⟨q1, q2⟩ := hHg.out; rw [q1] at k3; rw [q2] at k4; have HE6 := hid (HE5.out.later hb2); have k5 := (hb2.cell (p := ⟨g1, 2, none⟩) hg15).trans k1''; have k6 := (hb2.cell (p := ⟨g1, 3, none⟩) hg15).trans k2''; have hg16 := Nat.lt_of_lt_of_le hg15 hb2.size; clear ho2 hm2 hb2 k1'' k2'')
          have HS22 : Hid (∀ W, Below w6.heap.size w6 W → (W.cell? ⟨g1, 2, none⟩ = some (.int .i64 nx)) ∧ W.cell? ⟨g1, 3, none⟩ = some (.slice b1 n5 d1) ∧ W.cell? ⟨g2, 2, none⟩ = some (.int .i64 nx) ∧ W.cell? ⟨g2, 3, none⟩ = some (.slice b2 n5 d2)) := fun W hW => ⟨(hW.cell (p := ⟨g1, 2, none⟩) hg16).trans k5, (hW.cell (p := ⟨g1, 3, none⟩) hg16).trans k6, (hW.cell (p := ⟨g2, 2, none⟩) hg2).trans k3, (hW.cell (p := ⟨g2, 3, none⟩) hg2).trans k4⟩
          clear k3 k4 k5 k6
          refine wp_region_held_drew (S := fun W => (W.cell? ⟨g1, 2, none⟩ = some (.int .i64 nx)) ∧ W.cell? ⟨g1, 3, none⟩ = some (.slice b1 n5 d1) ∧ W.cell? ⟨g2, 2, none⟩ = some (.int .i64 nx) ∧ W.cell? ⟨g2, 3, none⟩ = some (.slice b2 n5 d2)) (by kernel_rfl) (HS22.out _ (Below.refl _ _).drew) (fun hHeld => ?_)
          refine wpAnyH_take (i := 0) (oi := { dst := some 98, op := Op.move (Operand.tmp 16), type := 37, pos := "law.go:206", after := #[], guard := none }) (v := ?_) rfl (by kernel_rfl) (by kernel_rfl) (by kernel_rfl) (fun _ _ _ h => h) (Or.inl ⟨by rfl, ?_⟩) hHeld ?_
          rotate_left
          · intro w hSw; (try dsimp only at hSw); go_simp; try with_reducible rfl
          try simp only [Act.put, List.setIfInBounds_toArray, List.set_cons_zero, List.set_cons_succ]
          refine wpAnyH_take (i := 1) (oi := { dst := some 99, op := Op.call { callee := Callee.builtin Builtin.len, args := #[Operand.tmp 98], argTypes := #[37] }, type := 3, pos := "law.go:206", after := #[{ on := 0, ground := Ground.data }], guard := none }) (v := ?_) rfl (by kernel_rfl) (by kernel_rfl) (by kernel_rfl) (fun _ _ _ h => h) (Or.inl ⟨by rfl, ?_⟩) hHeld ?_
          rotate_left
          · intro w hSw; (try dsimp only at hSw); go_simp; try with_reducible rfl
          try simp only [Act.put, List.setIfInBounds_toArray, List.set_cons_zero, List.set_cons_succ]
          refine wpAnyH_take (i := 2) (oi := { dst := some 100, op := Op.binOp BinOp.neq 3 (Operand.tmp 99) (Operand.const (Value.int IntKind.i64 1)) 3, type := 4, pos := "law.go:206", after := #[{ on := 1, ground := Ground.data }], guard := none }) (v := ?_) rfl (by kernel_rfl) (by kernel_rfl) (by kernel_rfl) (fun _ _ _ h => h) (Or.inl ⟨by rfl, ?_⟩) hHeld ?_
          rotate_left
          · intro w hSw; (try dsimp only at hSw); go_simp; try with_reducible rfl
          try simp only [Act.put, List.setIfInBounds_toArray, List.set_cons_zero, List.set_cons_succ]
          refine wpAnyH_take (i := 3) (oi := { dst := some 101, op := Op.move (Operand.tmp 100), type := 4, pos := "law.go:206", after := #[{ on := 2, ground := Ground.data }], guard := none }) (v := ?_) rfl (by kernel_rfl) (by kernel_rfl) (by kernel_rfl) (fun _ _ _ h => h) (Or.inl ⟨by rfl, ?_⟩) hHeld ?_
          rotate_left
          · intro w hSw; (try dsimp only at hSw); go_simp; try with_reducible rfl
          try simp only [Act.put, List.setIfInBounds_toArray, List.set_cons_zero, List.set_cons_succ]
          refine wpAnyH_take (i := 4) (oi := { dst := some 102, op := Op.move (Operand.tmp 11), type := 37, pos := "law.go:206", after := #[{ on := 3, ground := Ground.guard }], guard := some (3, false) }) (v := ?_) rfl (by kernel_rfl) (by kernel_rfl) (by kernel_rfl) (fun _ _ _ h => h) (Or.inl ⟨by rfl, ?_⟩) hHeld ?_
          rotate_left
          · intro w hSw; (try dsimp only at hSw); go_simp; try with_reducible rfl
          try simp only [Act.put, List.setIfInBounds_toArray, List.set_cons_zero, List.set_cons_succ]
          refine wpAnyH_take (i := 5) (oi := { dst := some 103, op := Op.call { callee := Callee.builtin Builtin.len, args := #[Operand.tmp 102], argTypes := #[37] }, type := 3, pos := "law.go:206", after := #[{ on := 4, ground := Ground.data }, { on := 3, ground := Ground.guard }], guard := some (3, false) }) (v := ?_) rfl (by kernel_rfl) (by kernel_rfl) (by kernel_rfl) (fun _ _ _ h => h) (Or.inl ⟨by rfl, ?_⟩) hHeld ?_
          rotate_left
          · intro w hSw; (try dsimp only at hSw); go_simp; try with_reducible rfl
          try simp only [Act.put, List.setIfInBounds_toArray, List.set_cons_zero, List.set_cons_succ]
          refine wpAnyH_take (i := 6) (oi := { dst := some 104, op := Op.binOp BinOp.neq 3 (Operand.tmp 103) (Operand.const (Value.int IntKind.i64 1)) 3, type := 4, pos := "law.go:206", after := #[{ on := 5, ground := Ground.data }, { on := 3, ground := Ground.guard }], guard := some (3, false) }) (v := ?_) rfl (by kernel_rfl) (by kernel_rfl) (by kernel_rfl) (fun _ _ _ h => h) (Or.inl ⟨by rfl, ?_⟩) hHeld ?_
          rotate_left
          · intro w hSw; (try dsimp only at hSw); go_simp; try with_reducible rfl
          try simp only [Act.put, List.setIfInBounds_toArray, List.set_cons_zero, List.set_cons_succ]
          refine wpAnyH_take (i := 7) (oi := { dst := some 105, op := Op.pick (Operand.tmp 101) (Operand.const (Value.bool true)) (Operand.tmp 104), type := 4, pos := "law.go:206", after := #[{ on := 3, ground := Ground.data }, { on := 6, ground := Ground.data }], guard := none }) (v := ?_) rfl (by kernel_rfl) (by kernel_rfl) (by kernel_rfl) (fun _ _ _ h => h) (Or.inl ⟨by rfl, ?_⟩) hHeld ?_
          rotate_left
          · intro w hSw; (try dsimp only at hSw); go_simp; try with_reducible rfl
          try simp only [Act.put, List.setIfInBounds_toArray, List.set_cons_zero, List.set_cons_succ]
          refine wpAnyH_take (i := 8) (oi := { dst := some 106, op := Op.move (Operand.tmp 105), type := 4, pos := "law.go:206", after := #[{ on := 7, ground := Ground.data }, { on := 3, ground := Ground.chain }], guard := none }) (v := ?_) rfl (by kernel_rfl) (by kernel_rfl) (by kernel_rfl) (fun _ _ _ h => h) (Or.inl ⟨by rfl, ?_⟩) hHeld ?_
          rotate_left
          · intro w hSw; (try dsimp only at hSw); go_simp; try with_reducible rfl
          try simp only [Act.put, List.setIfInBounds_toArray, List.set_cons_zero, List.set_cons_succ]
          refine wpAnyH_take (i := 9) (oi := { dst := some 107, op := Op.move (Operand.tmp 16), type := 37, pos := "law.go:206", after := #[{ on := 8, ground := Ground.guard }], guard := some (8, false) }) (v := ?_) rfl (by kernel_rfl) (by kernel_rfl) (by kernel_rfl) (fun _ _ _ h => h) (Or.inl ⟨by rfl, ?_⟩) hHeld ?_
          rotate_left
          · intro w hSw; (try dsimp only at hSw); go_simp; try with_reducible rfl
          try simp only [Act.put, List.setIfInBounds_toArray, List.set_cons_zero, List.set_cons_succ]
          refine wpAnyH_take (i := 10) (oi := { dst := some 108, op := Op.indexAddr 37 (Operand.tmp 107) (Operand.const (Value.int IntKind.i64 0)), type := 0, pos := "law.go:206", after := #[{ on := 9, ground := Ground.data }, { on := 8, ground := Ground.guard }], guard := some (8, false) }) (v := ?_) rfl (by kernel_rfl) (by kernel_rfl) (by kernel_rfl) (fun _ _ _ h => h) (Or.inl ⟨by rfl, ?_⟩) hHeld ?_
          rotate_left
          · intro w hSw; (try dsimp only at hSw); go_simp; try with_reducible rfl
          try simp only [Act.put, List.setIfInBounds_toArray, List.set_cons_zero, List.set_cons_succ]
          refine wpAnyH_take (i := 11) (oi := { dst := some 109, op := Op.fieldAddr 65 (Operand.tmp 108) 2, type := 0, pos := "law.go:206", after := #[{ on := 10, ground := Ground.data }, { on := 8, ground := Ground.guard }], guard := some (8, false) }) (v := ?_) rfl (by kernel_rfl) (by kernel_rfl) (by kernel_rfl) (fun _ _ _ h => h) (Or.inl ⟨by rfl, ?_⟩) hHeld ?_
          rotate_left
          · intro w hSw; (try dsimp only at hSw); go_simp; try with_reducible rfl
          try simp only [Act.put, List.setIfInBounds_toArray, List.set_cons_zero, List.set_cons_succ]
          refine wpAnyH_take (i := 12) (oi := { dst := some 110, op := Op.load 3 (Operand.tmp 109), type := 3, pos := "law.go:206", after := #[{ on := 11, ground := Ground.data }, { on := 8, ground := Ground.guard }], guard := some (8, false) }) (v := ?_) rfl (by kernel_rfl) (by kernel_rfl) (by kernel_rfl) (fun _ _ _ h => h) (Or.inl ⟨by rfl, ?_⟩) hHeld ?_
          rotate_left
          · intro w hSw; (try dsimp only at hSw); go_simp; try with_reducible rfl
          try simp only [Act.put, List.setIfInBounds_toArray, List.set_cons_zero, List.set_cons_succ]
          refine wpAnyH_take (i := 13) (oi := { dst := some 111, op := Op.move (Operand.tmp 11), type := 37, pos := "law.go:206", after := #[{ on := 8, ground := Ground.guard }], guard := some (8, false) }) (v := ?_) rfl (by kernel_rfl) (by kernel_rfl) (by kernel_rfl) (fun _ _ _ h => h) (Or.inl ⟨by rfl, ?_⟩) hHeld ?_
          rotate_left
          · intro w hSw; (try dsimp only at hSw); go_simp; try with_reducible rfl
          try simp only [Act.put, List.setIfInBounds_toArray, List.set_cons_zero, List.set_cons_succ]
          refine wpAnyH_take (i := 14) (oi := { dst := some 112, op := Op.indexAddr 37 (Operand.tmp 111) (Operand.const (Value.int IntKind.i64 0)), type := 0, pos := "law.go:206", after := #[{ on := 13, ground := Ground.data }, { on := 8, ground := Ground.guard }], guard := some (8, false) }) (v := ?_) rfl (by kernel_rfl) (by kernel_rfl) (by kernel_rfl) (fun _ _ _ h => h) (Or.inl ⟨by rfl, ?_⟩) hHeld ?_
          rotate_left
          · intro w hSw; (try dsimp only at hSw); go_simp; try with_reducible rfl
          try simp only [Act.put, List.setIfInBounds_toArray, List.set_cons_zero, List.set_cons_succ]
          refine wpAnyH_take (i := 15) (oi := { dst := some 113, op := Op.fieldAddr 65 (Operand.tmp 112) 2, type := 0, pos := "law.go:206", after := #[{ on := 14, ground := Ground.data }, { on := 8, ground := Ground.guard }], guard := some (8, false) }) (v := ?_) rfl (by kernel_rfl) (by kernel_rfl) (by kernel_rfl) (fun _ _ _ h => h) (Or.inl ⟨by rfl, ?_⟩) hHeld ?_
          rotate_left
          · intro w hSw; (try dsimp only at hSw); go_simp; try with_reducible rfl
          try simp only [Act.put, List.setIfInBounds_toArray, List.set_cons_zero, List.set_cons_succ]
          refine wpAnyH_take (i := 16) (oi := { dst := some 114, op := Op.load 3 (Operand.tmp 113), type := 3, pos := "law.go:206", after := #[{ on := 15, ground := Ground.data }, { on := 8, ground := Ground.guard }], guard := some (8, false) }) (v := ?_) rfl (by kernel_rfl) (by kernel_rfl) (by kernel_rfl) (fun _ _ _ h => h) (Or.inl ⟨by rfl, ?_⟩) hHeld ?_
          rotate_left
          · intro w hSw; (try dsimp only at hSw); go_simp; try with_reducible rfl
          try simp only [Act.put, List.setIfInBounds_toArray, List.set_cons_zero, List.set_cons_succ]
          refine wpAnyH_take (i := 17) (oi := { dst := some 115, op := Op.binOp BinOp.neq 3 (Operand.tmp 110) (Operand.tmp 114) 3, type := 4, pos := "law.go:206", after := #[{ on := 12, ground := Ground.data }, { on := 16, ground := Ground.data }, { on := 8, ground := Ground.guard }], guard := some (8, false) }) (v := ?_) rfl (by kernel_rfl) (by kernel_rfl) (by kernel_rfl) (fun _ _ _ h => h) (Or.inl ⟨by rfl, ?_⟩) hHeld ?_
          rotate_left
          · intro w hSw; (try dsimp only at hSw); go_simp; try with_reducible rfl
          try simp only [Act.put, List.setIfInBounds_toArray, List.set_cons_zero, List.set_cons_succ]
          refine wpAnyH_take (i := 18) (oi := { dst := some 116, op := Op.pick (Operand.tmp 106) (Operand.const (Value.bool true)) (Operand.tmp 115), type := 4, pos := "law.go:206", after := #[{ on := 8, ground := Ground.data }, { on := 17, ground := Ground.data }], guard := none }) (v := ?_) rfl (by kernel_rfl) (by kernel_rfl) (by kernel_rfl) (fun _ _ _ h => h) (Or.inl ⟨by rfl, ?_⟩) hHeld ?_
          rotate_left
          · intro w hSw; (try dsimp only at hSw); go_simp; try with_reducible rfl
          try simp only [Act.put, List.setIfInBounds_toArray, List.set_cons_zero, List.set_cons_succ]
          refine wpAnyH_take (i := 19) (oi := { dst := some 117, op := Op.move (Operand.tmp 116), type := 4, pos := "law.go:206", after := #[{ on := 18, ground := Ground.data }, { on := 8, ground := Ground.chain }], guard := none }) (v := ?_) rfl (by kernel_rfl) (by kernel_rfl) (by kernel_rfl) (fun _ _ _ h => h) (Or.inl ⟨by rfl, ?_⟩) hHeld ?_
          rotate_left
          · intro w hSw; (try dsimp only at hSw); go_simp; try with_reducible rfl
          try simp only [Act.put, List.setIfInBounds_toArray, List.set_cons_zero, List.set_cons_succ]
          refine wpAnyH_take (i := 20) (oi := { dst := some 118, op := Op.move (Operand.tmp 16), type := 37, pos := "law.go:206", after := #[{ on := 19, ground := Ground.guard }], guard := some (19, false) }) (v := ?_) rfl (by kernel_rfl) (by kernel_rfl) (by kernel_rfl) (fun _ _ _ h => h) (Or.inl ⟨by rfl, ?_⟩) hHeld ?_
          rotate_left
          · intro w hSw; (try dsimp only at hSw); go_simp; try with_reducible rfl
          try simp only [Act.put, List.setIfInBounds_toArray, List.set_cons_zero, List.set_cons_succ]
          refine wpAnyH_take (i := 21) (oi := { dst := some 119, op := Op.indexAddr 37 (Operand.tmp 118) (Operand.const (Value.int IntKind.i64 0)), type := 0, pos := "law.go:206", after := #[{ on := 20, ground := Ground.data }, { on := 19, ground := Ground.guard }], guard := some (19, false) }) (v := ?_) rfl (by kernel_rfl) (by kernel_rfl) (by kernel_rfl) (fun _ _ _ h => h) (Or.inl ⟨by rfl, ?_⟩) hHeld ?_
          rotate_left
          · intro w hSw; (try dsimp only at hSw); go_simp; try with_reducible rfl
          try simp only [Act.put, List.setIfInBounds_toArray, List.set_cons_zero, List.set_cons_succ]
          refine wpAnyH_take (i := 22) (oi := { dst := some 120, op := Op.fieldAddr 65 (Operand.tmp 119) 3, type := 0, pos := "law.go:206", after := #[{ on := 21, ground := Ground.data }, { on := 19, ground := Ground.guard }], guard := some (19, false) }) (v := ?_) rfl (by kernel_rfl) (by kernel_rfl) (by kernel_rfl) (fun _ _ _ h => h) (Or.inl ⟨by rfl, ?_⟩) hHeld ?_
          rotate_left
          · intro w hSw; (try dsimp only at hSw); go_simp; try with_reducible rfl
          try simp only [Act.put, List.setIfInBounds_toArray, List.set_cons_zero, List.set_cons_succ]
          refine wpAnyH_take (i := 23) (oi := { dst := some 121, op := Op.load 63 (Operand.tmp 120), type := 63, pos := "law.go:206", after := #[{ on := 22, ground := Ground.data }, { on := 19, ground := Ground.guard }], guard := some (19, false) }) (v := ?_) rfl (by kernel_rfl) (by kernel_rfl) (by kernel_rfl) (fun _ _ _ h => h) (Or.inl ⟨by rfl, ?_⟩) hHeld ?_
          rotate_left
          · intro w hSw; (try dsimp only at hSw); go_simp; try with_reducible rfl
          try simp only [Act.put, List.setIfInBounds_toArray, List.set_cons_zero, List.set_cons_succ]
          refine wpAnyH_take (i := 24) (oi := { dst := some 122, op := Op.call { callee := Callee.builtin Builtin.len, args := #[Operand.tmp 121], argTypes := #[63] }, type := 3, pos := "law.go:206", after := #[{ on := 23, ground := Ground.data }, { on := 19, ground := Ground.guard }], guard := some (19, false) }) (v := ?_) rfl (by kernel_rfl) (by kernel_rfl) (by kernel_rfl) (fun _ _ _ h => h) (Or.inl ⟨by rfl, ?_⟩) hHeld ?_
          rotate_left
          · intro w hSw; (try dsimp only at hSw); go_simp; try with_reducible rfl
          try simp only [Act.put, List.setIfInBounds_toArray, List.set_cons_zero, List.set_cons_succ]
          refine wpAnyH_take (i := 25) (oi := { dst := some 123, op := Op.move (Operand.tmp 11), type := 37, pos := "law.go:206", after := #[{ on := 19, ground := Ground.guard }], guard := some (19, false) }) (v := ?_) rfl (by kernel_rfl) (by kernel_rfl) (by kernel_rfl) (fun _ _ _ h => h) (Or.inl ⟨by rfl, ?_⟩) hHeld ?_
          rotate_left
          · intro w hSw; (try dsimp only at hSw); go_simp; try with_reducible rfl
          try simp only [Act.put, List.setIfInBounds_toArray, List.set_cons_zero, List.set_cons_succ]
          refine wpAnyH_take (i := 26) (oi := { dst := some 124, op := Op.indexAddr 37 (Operand.tmp 123) (Operand.const (Value.int IntKind.i64 0)), type := 0, pos := "law.go:206", after := #[{ on := 25, ground := Ground.data }, { on := 19, ground := Ground.guard }], guard := some (19, false) }) (v := ?_) rfl (by kernel_rfl) (by kernel_rfl) (by kernel_rfl) (fun _ _ _ h => h) (Or.inl ⟨by rfl, ?_⟩) hHeld ?_
          rotate_left
          · intro w hSw; (try dsimp only at hSw); go_simp; try with_reducible rfl
          try simp only [Act.put, List.setIfInBounds_toArray, List.set_cons_zero, List.set_cons_succ]
          refine wpAnyH_take (i := 27) (oi := { dst := some 125, op := Op.fieldAddr 65 (Operand.tmp 124) 3, type := 0, pos := "law.go:206", after := #[{ on := 26, ground := Ground.data }, { on := 19, ground := Ground.guard }], guard := some (19, false) }) (v := ?_) rfl (by kernel_rfl) (by kernel_rfl) (by kernel_rfl) (fun _ _ _ h => h) (Or.inl ⟨by rfl, ?_⟩) hHeld ?_
          rotate_left
          · intro w hSw; (try dsimp only at hSw); go_simp; try with_reducible rfl
          try simp only [Act.put, List.setIfInBounds_toArray, List.set_cons_zero, List.set_cons_succ]
          refine wpAnyH_take (i := 28) (oi := { dst := some 126, op := Op.load 63 (Operand.tmp 125), type := 63, pos := "law.go:206", after := #[{ on := 27, ground := Ground.data }, { on := 19, ground := Ground.guard }], guard := some (19, false) }) (v := ?_) rfl (by kernel_rfl) (by kernel_rfl) (by kernel_rfl) (fun _ _ _ h => h) (Or.inl ⟨by rfl, ?_⟩) hHeld ?_
          rotate_left
          · intro w hSw; (try dsimp only at hSw); go_simp; try with_reducible rfl
          try simp only [Act.put, List.setIfInBounds_toArray, List.set_cons_zero, List.set_cons_succ]
          refine wpAnyH_take (i := 29) (oi := { dst := some 127, op := Op.call { callee := Callee.builtin Builtin.len, args := #[Operand.tmp 126], argTypes := #[63] }, type := 3, pos := "law.go:206", after := #[{ on := 28, ground := Ground.data }, { on := 19, ground := Ground.guard }], guard := some (19, false) }) (v := ?_) rfl (by kernel_rfl) (by kernel_rfl) (by kernel_rfl) (fun _ _ _ h => h) (Or.inl ⟨by rfl, ?_⟩) hHeld ?_
          rotate_left
          · intro w hSw; (try dsimp only at hSw); go_simp; try with_reducible rfl
          try simp only [Act.put, List.setIfInBounds_toArray, List.set_cons_zero, List.set_cons_succ]
          refine wpAnyH_take (i := 30) (oi := { dst := some 128, op := Op.binOp BinOp.neq 3 (Operand.tmp 122) (Operand.tmp 127) 3, type := 4, pos := "law.go:206", after := #[{ on := 24, ground := Ground.data }, { on := 29, ground := Ground.data }, { on := 19, ground := Ground.guard }], guard := some (19, false) }) (v := ?_) rfl (by kernel_rfl) (by kernel_rfl) (by kernel_rfl) (fun _ _ _ h => h) (Or.inl ⟨by rfl, ?_⟩) hHeld ?_
          rotate_left
          · intro w hSw; (try dsimp only at hSw); go_simp; try with_reducible rfl
          try simp only [Act.put, List.setIfInBounds_toArray, List.set_cons_zero, List.set_cons_succ]
          refine wpAnyH_take (i := 31) (oi := { dst := some 129, op := Op.pick (Operand.tmp 117) (Operand.const (Value.bool true)) (Operand.tmp 128), type := 4, pos := "law.go:206", after := #[{ on := 19, ground := Ground.data }, { on := 30, ground := Ground.data }], guard := none }) (v := ?_) rfl (by kernel_rfl) (by kernel_rfl) (by kernel_rfl) (fun _ _ _ h => h) (Or.inl ⟨by rfl, ?_⟩) hHeld ?_
          rotate_left
          · intro w hSw; (try dsimp only at hSw); go_simp; try with_reducible rfl
          try simp only [Act.put, List.setIfInBounds_toArray, List.set_cons_zero, List.set_cons_succ]
          refine wpAnyH_done (by kernel_rfl) ?_ _
          clear hHeld HS22
          obtain ⟨hcl, -⟩ := HAt.out w6.drew (j + 1) (HE6.out.later (Below.refl _ _).drew)
          have z6 : w6.drew.cell? ⟨g, kk * 7 + 6, none⟩ = some (.int .i64 dof) := hcl 6 (by omega)
          have HBl := hid HE6.out.below
          clear hcl
          go_wp2_with (go_at_call 15; refine (num12_any _ _).mono ?_; rintro x w9 ⟨rfl, hw9⟩; obtain rfl := hw9.symm)
          go_ret
          exact ⟨rfl, HBl.out.drew⟩
      · have hd1 : decide ((j : Int) < (len : Int)) = false := by simp; omega
        by_cases hj0 : j = 0
        · subst hj0
          go_wp2_with fail
          go_ret
          exact ⟨rfl, HE.out.below⟩
        have hjn : ((j : Int) == 0) = false := by simp; omega
        have hjn2 : (j : Int) ≠ 0 := by omega
        obtain ⟨hy1, hy2, kk, hkj, hkk⟩ := tmodP kq j (by omega)
        obtain ⟨y, hy⟩ : ∃ y, kq.tmod (j : Int) = y := ⟨_, rfl⟩
        rw [hy] at hy1 hy2 hkk
        have hLl := HE.out.len
        obtain ⟨x, hx⟩ : ∃ x, L[kk]? = some x := ⟨_, List.getElem?_eq_getElem (by omega)⟩
        obtain ⟨d, sl⟩ := x
        obtain ⟨g, a3, m, c3, rfl, -, rfl, hdm, hdk, -, -⟩ := HE.out.at hx
        have hdsj : ds.length = j := by omega
        have hne : ds ≠ [] := fun e => by rw [e] at hdsj; simp at hdsj; omega
        have HAg := hid (HE.out.ag.again hdk hdm (by omega))
        have HNg := hid (HE.out.ag.noteAgain hdk hdm (by omega))
        have HAt : Hid (∀ W n, AgW w t M n T ds L (.slice (some ⟨g, 0, none⟩) j c) W → (∀ i, i < 7 → W.cell? ⟨g, kk * 7 + i, none⟩ = (noL d (.slice a3 m c3))[i]?) ∧ OwnR W w.heap.size (.slice a3 m c3) (List.replicate m recK)) := fun W n hW => by
          obtain ⟨g', a', m', c', e1, -, e2, -, -, h1, h2⟩ := hW.at hx
          cases e1
          cases e2
          exact ⟨h1, h2⟩
        have HEn : Hid (∀ W n, AgW w t M n T ds L (.slice (some ⟨g, 0, none⟩) j c) W → n ≤ 101 → Calls Try.prog 20 #[.pointer (some ⟨t, 0, none⟩)] W fun e w' => ∃ v L, e = .returned v ∧ OwnE w' W.heap.size v L ∧ L.map (·.1) = [3].map (entOf T) ∧ Below W.heap.size W w') := fun W n hW hn => Entries_any hW.tab (keys3 hW.ag hne) (by omega)
        obtain ⟨nx, hnx⟩ : ∃ nx, (T.get 3).next = nx := ⟨_, rfl⟩
        obtain ⟨n5, hn5⟩ : ∃ n5, (T.get 3).last.length = n5 := ⟨_, rfl⟩
        have hHg : Hid ((T.get 3).next = nx ∧ (T.get 3).last.length = n5) := ⟨hnx, hn5⟩
        rw [hdsj] at HAg HNg
        obtain ⟨dsq, hdsq⟩ : ∃ dsq, d.seq = dsq := ⟨_, rfl⟩
        obtain ⟨dof, hdof⟩ : ∃ dof, d.off = dof := ⟨_, rfl⟩
        unfold noL at HAt
        rw [hdsq, hdof] at HAt HAg
        rw [hdsq] at HNg
        have hzl : kk < j := hkj
        clear hx hdm hdk hdsj hne hnx hn5 hdsq hdof hLl hsq hLj
        by_cases hk5 : j ≤ kk + 5
        · skip
          have hdk : decide ((j : Int) - 5 ≤ (kk : Int)) = true := by simp; omega
          have hDc : Hid (∀ W, AgW w t M j T ds L (.slice (some ⟨g, 0, none⟩) j c) W → Calls Try.prog 17 #[.pointer (some ⟨t, 0, none⟩), .agg #[.int .i64 1, .int .i64 3, .int .i64 2, .int .i64 dsq, .bool false, .slice a3 m c3]] W fun x w' => x = .returned (.tuple #[.int .i64 dof, .bool true, .int .i64 0]) ∧ Below W.heap.size W w') := fun W hW => by
            have h := Decide_any hW.tab 1 3 2 dsq false (List.replicate m recK) a3 m c3 ((HAt.out W j hW).2.arg (by simp) (recK_size m) _ _ _ _ _)
            have e : decN T ⟨1, 3, 2, dsq, false, List.replicate m recK⟩ = (dof, true, 0) := HAg.out.trans (if_pos hk5)
            rw [e] at h
            exact h
          have hNt : Hid (∀ W, AgW w t M j T ds L (.slice (some ⟨g, 0, none⟩) j c) W → Calls Try.prog 19 #[.pointer (some ⟨t, 0, none⟩), .agg #[.int .i64 1, .int .i64 3, .int .i64 2, .int .i64 dsq, .bool false, .slice a3 m c3], .int .i64 5] W fun x w' => x = .returned (.int .i64 0) ∧ TPic w' t M (j + 1) T ∧ Chg [M] W w') := fun W hW => by
            have h := Note_any hW.tab (by unfold maxLen; omega) 1 3 2 dsq false (List.replicate m recK) a3 m c3 5 ((HAt.out W j hW).2.arg (by simp) (recK_size m) _ _ _ _ _)
            have e : notN T ⟨1, 3, 2, dsq, false, List.replicate m recK⟩ 5 = (0, T) := HNg.out.trans (by rw [if_pos hk5])
            rw [e] at h
            exact h
          have hwx : IntKind.i64.wrap ((j : Int) - 5) = (j : Int) - 5 := by rw [IntKind.wrap_i64]; omega
          go_wp2_with (first
            | (go_at_call 20; (with_reducible_and_instances (refine (HEn.out _ j HE.out (by omega)).mono ?_)); rintro x w2 ⟨v1, L1, rfl, ho1, hm1, hb1⟩; obtain ⟨g1, c1, b1, d1, rfl, hg1, k1, k2⟩ := one_entry ho1 hm1; obtain ⟨q1, q2⟩ := hHg.out; rw [q1] at k1; rw [q2] at k2; have HE2 := hid (HE.out.later hb1); have HTy1 := hid (ho1.block g1 rfl); obtain ⟨hcl, -⟩ := HAt.out w2 j HE2.out; have z0 : w2.cell? ⟨g, kk * 7, none⟩ = some (.int .i64 1) := hcl 0 (by omega); have z1 : w2.cell? ⟨g, kk * 7 + 1, none⟩ = some (.int .i64 3) := hcl 1 (by omega); have z2 : w2.cell? ⟨g, kk * 7 + 2, none⟩ = some (.int .i64 2) := hcl 2 (by omega); have z3 : w2.cell? ⟨g, kk * 7 + 3, none⟩ = some (.int .i64 dsq) := hcl 3 (by omega); have z4 : w2.cell? ⟨g, kk * 7 + 4, none⟩ = some (.bool false) := hcl 4 (by omega); have z5 : w2.cell? ⟨g, kk * 7 + 5, none⟩ = some (.slice a3 m c3) := hcl 5 (by omega); have hdc2 := hid (hDc.out w2 HE2.out); clear ho1 hm1 hb1 hcl)
            | (go_at_call 17; (with_reducible_and_instances (refine hdc2.out.mono ?_)); rintro x w4 ⟨rfl, hb4⟩; have HE4 := hid (HE2.out.later hb4); have k1' := (hb4.cell (p := ⟨g1, 2, none⟩) hg1).trans k1; have k2' := (hb4.cell (p := ⟨g1, 3, none⟩) hg1).trans k2; have HTy4 : Hid (∃ cur, w4.heap[g1]? = some (.cells cur TEn (0, 0))) := (by obtain ⟨-, cur, hcur⟩ := HTy1.out; exact ⟨cur, (hb4.block g1 hg1).trans hcur⟩); have hg14 := Nat.lt_of_lt_of_le hg1 hb4.size; obtain ⟨hcl, -⟩ := HAt.out w4 j HE4.out; have z0 : w4.cell? ⟨g, kk * 7, none⟩ = some (.int .i64 1) := hcl 0 (by omega); have z1 : w4.cell? ⟨g, kk * 7 + 1, none⟩ = some (.int .i64 3) := hcl 1 (by omega); have z2 : w4.cell? ⟨g, kk * 7 + 2, none⟩ = some (.int .i64 2) := hcl 2 (by omega); have z3 : w4.cell? ⟨g, kk * 7 + 3, none⟩ = some (.int .i64 dsq) := hcl 3 (by omega); have z4 : w4.cell? ⟨g, kk * 7 + 4, none⟩ = some (.bool false) := hcl 4 (by omega); have z5 : w4.cell? ⟨g, kk * 7 + 5, none⟩ = some (.slice a3 m c3) := hcl 5 (by omega); have hnt4 := hid (hNt.out w4 HE4.out); clear hb4 hcl k1 k2)
            | (go_at_call 19; (with_reducible_and_instances (refine hnt4.out.mono ?_)); rintro x w5 ⟨rfl, ht5, hc5⟩; have HE5 := hid (HE4.out.noted ht5 hc5); have hk5g : w5.heap[g1]? = w4.heap[g1]? := (by obtain ⟨cur, hcur⟩ := HTy4.out; exact (HE4.out.own.noted HE4.out.tab hc5).2 0 g1 cur TEn hcur (by decide)); have k1'' : w5.cell? ⟨g1, 2, none⟩ = _ := (by simp only [World.cell?, hk5g]; exact k1'); have k2'' : w5.cell? ⟨g1, 3, none⟩ = _ := (by simp only [World.cell?, hk5g]; exact k2'); have hg15 : g1 < w5.heap.size := Nat.lt_of_lt_of_le hg14 hc5.size; have hen5 := hid (HEn.out _ (j + 1) HE5.out (by omega)); clear ht5 hc5 k1' k2' hk5g))
          go_wp2_with (go_at_call 20; (with_reducible_and_instances (refine hen5.out.mono ?_)); rintro x w6 ⟨v2, L2, rfl, ho2, hm2, hb2⟩; obtain ⟨g2, c2, b2, d2, rfl, hg2, k3, k4⟩ := one_entry ho2 hm2; obtain ⟨q1, q2⟩ := hHg.out; rw [q1] at k3; rw [q2] at k4; have HE6 := hid (HE5.out.later hb2); have k5 := (hb2.cell (p := ⟨g1, 2, none⟩) hg15).trans k1''; have k6 := (hb2.cell (p := ⟨g1, 3, none⟩) hg15).trans k2''; have hg16 := Nat.lt_of_lt_of_le hg15 hb2.size; clear ho2 hm2 hb2 k1'' k2'')
          have HS22 : Hid (∀ W, Below w6.heap.size w6 W → (W.cell? ⟨g1, 2, none⟩ = some (.int .i64 nx)) ∧ W.cell? ⟨g1, 3, none⟩ = some (.slice b1 n5 d1) ∧ W.cell? ⟨g2, 2, none⟩ = some (.int .i64 nx) ∧ W.cell? ⟨g2, 3, none⟩ = some (.slice b2 n5 d2)) := fun W hW => ⟨(hW.cell (p := ⟨g1, 2, none⟩) hg16).trans k5, (hW.cell (p := ⟨g1, 3, none⟩) hg16).trans k6, (hW.cell (p := ⟨g2, 2, none⟩) hg2).trans k3, (hW.cell (p := ⟨g2, 3, none⟩) hg2).trans k4⟩
          clear k3 k4 k5 k6
          refine wp_region_held_drew (S := fun W => (W.cell? ⟨g1, 2, none⟩ = some (.int .i64 nx)) ∧ W.cell? ⟨g1, 3, none⟩ = some (.slice b1 n5 d1) ∧ W.cell? ⟨g2, 2, none⟩ = some (.int .i64 nx) ∧ W.cell? ⟨g2, 3, none⟩ = some (.slice b2 n5 d2)) (by kernel_rfl) (HS22.out _ (Below.refl _ _).drew) (fun hHeld => ?_)
          refine wpAnyH_take (i := 0) (oi := { dst := some 98, op := Op.move (Operand.tmp 16), type := 37, pos := "law.go:206", after := #[], guard := none }) (v := ?_) rfl (by kernel_rfl) (by kernel_rfl) (by kernel_rfl) (fun _ _ _ h => h) (Or.inl ⟨by rfl, ?_⟩) hHeld ?_
          rotate_left
          · intro w hSw; (try dsimp only at hSw); go_simp; try with_reducible rfl
          try simp only [Act.put, List.setIfInBounds_toArray, List.set_cons_zero, List.set_cons_succ]
          refine wpAnyH_take (i := 1) (oi := { dst := some 99, op := Op.call { callee := Callee.builtin Builtin.len, args := #[Operand.tmp 98], argTypes := #[37] }, type := 3, pos := "law.go:206", after := #[{ on := 0, ground := Ground.data }], guard := none }) (v := ?_) rfl (by kernel_rfl) (by kernel_rfl) (by kernel_rfl) (fun _ _ _ h => h) (Or.inl ⟨by rfl, ?_⟩) hHeld ?_
          rotate_left
          · intro w hSw; (try dsimp only at hSw); go_simp; try with_reducible rfl
          try simp only [Act.put, List.setIfInBounds_toArray, List.set_cons_zero, List.set_cons_succ]
          refine wpAnyH_take (i := 2) (oi := { dst := some 100, op := Op.binOp BinOp.neq 3 (Operand.tmp 99) (Operand.const (Value.int IntKind.i64 1)) 3, type := 4, pos := "law.go:206", after := #[{ on := 1, ground := Ground.data }], guard := none }) (v := ?_) rfl (by kernel_rfl) (by kernel_rfl) (by kernel_rfl) (fun _ _ _ h => h) (Or.inl ⟨by rfl, ?_⟩) hHeld ?_
          rotate_left
          · intro w hSw; (try dsimp only at hSw); go_simp; try with_reducible rfl
          try simp only [Act.put, List.setIfInBounds_toArray, List.set_cons_zero, List.set_cons_succ]
          refine wpAnyH_take (i := 3) (oi := { dst := some 101, op := Op.move (Operand.tmp 100), type := 4, pos := "law.go:206", after := #[{ on := 2, ground := Ground.data }], guard := none }) (v := ?_) rfl (by kernel_rfl) (by kernel_rfl) (by kernel_rfl) (fun _ _ _ h => h) (Or.inl ⟨by rfl, ?_⟩) hHeld ?_
          rotate_left
          · intro w hSw; (try dsimp only at hSw); go_simp; try with_reducible rfl
          try simp only [Act.put, List.setIfInBounds_toArray, List.set_cons_zero, List.set_cons_succ]
          refine wpAnyH_take (i := 4) (oi := { dst := some 102, op := Op.move (Operand.tmp 11), type := 37, pos := "law.go:206", after := #[{ on := 3, ground := Ground.guard }], guard := some (3, false) }) (v := ?_) rfl (by kernel_rfl) (by kernel_rfl) (by kernel_rfl) (fun _ _ _ h => h) (Or.inl ⟨by rfl, ?_⟩) hHeld ?_
          rotate_left
          · intro w hSw; (try dsimp only at hSw); go_simp; try with_reducible rfl
          try simp only [Act.put, List.setIfInBounds_toArray, List.set_cons_zero, List.set_cons_succ]
          refine wpAnyH_take (i := 5) (oi := { dst := some 103, op := Op.call { callee := Callee.builtin Builtin.len, args := #[Operand.tmp 102], argTypes := #[37] }, type := 3, pos := "law.go:206", after := #[{ on := 4, ground := Ground.data }, { on := 3, ground := Ground.guard }], guard := some (3, false) }) (v := ?_) rfl (by kernel_rfl) (by kernel_rfl) (by kernel_rfl) (fun _ _ _ h => h) (Or.inl ⟨by rfl, ?_⟩) hHeld ?_
          rotate_left
          · intro w hSw; (try dsimp only at hSw); go_simp; try with_reducible rfl
          try simp only [Act.put, List.setIfInBounds_toArray, List.set_cons_zero, List.set_cons_succ]
          refine wpAnyH_take (i := 6) (oi := { dst := some 104, op := Op.binOp BinOp.neq 3 (Operand.tmp 103) (Operand.const (Value.int IntKind.i64 1)) 3, type := 4, pos := "law.go:206", after := #[{ on := 5, ground := Ground.data }, { on := 3, ground := Ground.guard }], guard := some (3, false) }) (v := ?_) rfl (by kernel_rfl) (by kernel_rfl) (by kernel_rfl) (fun _ _ _ h => h) (Or.inl ⟨by rfl, ?_⟩) hHeld ?_
          rotate_left
          · intro w hSw; (try dsimp only at hSw); go_simp; try with_reducible rfl
          try simp only [Act.put, List.setIfInBounds_toArray, List.set_cons_zero, List.set_cons_succ]
          refine wpAnyH_take (i := 7) (oi := { dst := some 105, op := Op.pick (Operand.tmp 101) (Operand.const (Value.bool true)) (Operand.tmp 104), type := 4, pos := "law.go:206", after := #[{ on := 3, ground := Ground.data }, { on := 6, ground := Ground.data }], guard := none }) (v := ?_) rfl (by kernel_rfl) (by kernel_rfl) (by kernel_rfl) (fun _ _ _ h => h) (Or.inl ⟨by rfl, ?_⟩) hHeld ?_
          rotate_left
          · intro w hSw; (try dsimp only at hSw); go_simp; try with_reducible rfl
          try simp only [Act.put, List.setIfInBounds_toArray, List.set_cons_zero, List.set_cons_succ]
          refine wpAnyH_take (i := 8) (oi := { dst := some 106, op := Op.move (Operand.tmp 105), type := 4, pos := "law.go:206", after := #[{ on := 7, ground := Ground.data }, { on := 3, ground := Ground.chain }], guard := none }) (v := ?_) rfl (by kernel_rfl) (by kernel_rfl) (by kernel_rfl) (fun _ _ _ h => h) (Or.inl ⟨by rfl, ?_⟩) hHeld ?_
          rotate_left
          · intro w hSw; (try dsimp only at hSw); go_simp; try with_reducible rfl
          try simp only [Act.put, List.setIfInBounds_toArray, List.set_cons_zero, List.set_cons_succ]
          refine wpAnyH_take (i := 9) (oi := { dst := some 107, op := Op.move (Operand.tmp 16), type := 37, pos := "law.go:206", after := #[{ on := 8, ground := Ground.guard }], guard := some (8, false) }) (v := ?_) rfl (by kernel_rfl) (by kernel_rfl) (by kernel_rfl) (fun _ _ _ h => h) (Or.inl ⟨by rfl, ?_⟩) hHeld ?_
          rotate_left
          · intro w hSw; (try dsimp only at hSw); go_simp; try with_reducible rfl
          try simp only [Act.put, List.setIfInBounds_toArray, List.set_cons_zero, List.set_cons_succ]
          refine wpAnyH_take (i := 10) (oi := { dst := some 108, op := Op.indexAddr 37 (Operand.tmp 107) (Operand.const (Value.int IntKind.i64 0)), type := 0, pos := "law.go:206", after := #[{ on := 9, ground := Ground.data }, { on := 8, ground := Ground.guard }], guard := some (8, false) }) (v := ?_) rfl (by kernel_rfl) (by kernel_rfl) (by kernel_rfl) (fun _ _ _ h => h) (Or.inl ⟨by rfl, ?_⟩) hHeld ?_
          rotate_left
          · intro w hSw; (try dsimp only at hSw); go_simp; try with_reducible rfl
          try simp only [Act.put, List.setIfInBounds_toArray, List.set_cons_zero, List.set_cons_succ]
          refine wpAnyH_take (i := 11) (oi := { dst := some 109, op := Op.fieldAddr 65 (Operand.tmp 108) 2, type := 0, pos := "law.go:206", after := #[{ on := 10, ground := Ground.data }, { on := 8, ground := Ground.guard }], guard := some (8, false) }) (v := ?_) rfl (by kernel_rfl) (by kernel_rfl) (by kernel_rfl) (fun _ _ _ h => h) (Or.inl ⟨by rfl, ?_⟩) hHeld ?_
          rotate_left
          · intro w hSw; (try dsimp only at hSw); go_simp; try with_reducible rfl
          try simp only [Act.put, List.setIfInBounds_toArray, List.set_cons_zero, List.set_cons_succ]
          refine wpAnyH_take (i := 12) (oi := { dst := some 110, op := Op.load 3 (Operand.tmp 109), type := 3, pos := "law.go:206", after := #[{ on := 11, ground := Ground.data }, { on := 8, ground := Ground.guard }], guard := some (8, false) }) (v := ?_) rfl (by kernel_rfl) (by kernel_rfl) (by kernel_rfl) (fun _ _ _ h => h) (Or.inl ⟨by rfl, ?_⟩) hHeld ?_
          rotate_left
          · intro w hSw; (try dsimp only at hSw); go_simp; try with_reducible rfl
          try simp only [Act.put, List.setIfInBounds_toArray, List.set_cons_zero, List.set_cons_succ]
          refine wpAnyH_take (i := 13) (oi := { dst := some 111, op := Op.move (Operand.tmp 11), type := 37, pos := "law.go:206", after := #[{ on := 8, ground := Ground.guard }], guard := some (8, false) }) (v := ?_) rfl (by kernel_rfl) (by kernel_rfl) (by kernel_rfl) (fun _ _ _ h => h) (Or.inl ⟨by rfl, ?_⟩) hHeld ?_
          rotate_left
          · intro w hSw; (try dsimp only at hSw); go_simp; try with_reducible rfl
          try simp only [Act.put, List.setIfInBounds_toArray, List.set_cons_zero, List.set_cons_succ]
          refine wpAnyH_take (i := 14) (oi := { dst := some 112, op := Op.indexAddr 37 (Operand.tmp 111) (Operand.const (Value.int IntKind.i64 0)), type := 0, pos := "law.go:206", after := #[{ on := 13, ground := Ground.data }, { on := 8, ground := Ground.guard }], guard := some (8, false) }) (v := ?_) rfl (by kernel_rfl) (by kernel_rfl) (by kernel_rfl) (fun _ _ _ h => h) (Or.inl ⟨by rfl, ?_⟩) hHeld ?_
          rotate_left
          · intro w hSw; (try dsimp only at hSw); go_simp; try with_reducible rfl
          try simp only [Act.put, List.setIfInBounds_toArray, List.set_cons_zero, List.set_cons_succ]
          refine wpAnyH_take (i := 15) (oi := { dst := some 113, op := Op.fieldAddr 65 (Operand.tmp 112) 2, type := 0, pos := "law.go:206", after := #[{ on := 14, ground := Ground.data }, { on := 8, ground := Ground.guard }], guard := some (8, false) }) (v := ?_) rfl (by kernel_rfl) (by kernel_rfl) (by kernel_rfl) (fun _ _ _ h => h) (Or.inl ⟨by rfl, ?_⟩) hHeld ?_
          rotate_left
          · intro w hSw; (try dsimp only at hSw); go_simp; try with_reducible rfl
          try simp only [Act.put, List.setIfInBounds_toArray, List.set_cons_zero, List.set_cons_succ]
          refine wpAnyH_take (i := 16) (oi := { dst := some 114, op := Op.load 3 (Operand.tmp 113), type := 3, pos := "law.go:206", after := #[{ on := 15, ground := Ground.data }, { on := 8, ground := Ground.guard }], guard := some (8, false) }) (v := ?_) rfl (by kernel_rfl) (by kernel_rfl) (by kernel_rfl) (fun _ _ _ h => h) (Or.inl ⟨by rfl, ?_⟩) hHeld ?_
          rotate_left
          · intro w hSw; (try dsimp only at hSw); go_simp; try with_reducible rfl
          try simp only [Act.put, List.setIfInBounds_toArray, List.set_cons_zero, List.set_cons_succ]
          refine wpAnyH_take (i := 17) (oi := { dst := some 115, op := Op.binOp BinOp.neq 3 (Operand.tmp 110) (Operand.tmp 114) 3, type := 4, pos := "law.go:206", after := #[{ on := 12, ground := Ground.data }, { on := 16, ground := Ground.data }, { on := 8, ground := Ground.guard }], guard := some (8, false) }) (v := ?_) rfl (by kernel_rfl) (by kernel_rfl) (by kernel_rfl) (fun _ _ _ h => h) (Or.inl ⟨by rfl, ?_⟩) hHeld ?_
          rotate_left
          · intro w hSw; (try dsimp only at hSw); go_simp; try with_reducible rfl
          try simp only [Act.put, List.setIfInBounds_toArray, List.set_cons_zero, List.set_cons_succ]
          refine wpAnyH_take (i := 18) (oi := { dst := some 116, op := Op.pick (Operand.tmp 106) (Operand.const (Value.bool true)) (Operand.tmp 115), type := 4, pos := "law.go:206", after := #[{ on := 8, ground := Ground.data }, { on := 17, ground := Ground.data }], guard := none }) (v := ?_) rfl (by kernel_rfl) (by kernel_rfl) (by kernel_rfl) (fun _ _ _ h => h) (Or.inl ⟨by rfl, ?_⟩) hHeld ?_
          rotate_left
          · intro w hSw; (try dsimp only at hSw); go_simp; try with_reducible rfl
          try simp only [Act.put, List.setIfInBounds_toArray, List.set_cons_zero, List.set_cons_succ]
          refine wpAnyH_take (i := 19) (oi := { dst := some 117, op := Op.move (Operand.tmp 116), type := 4, pos := "law.go:206", after := #[{ on := 18, ground := Ground.data }, { on := 8, ground := Ground.chain }], guard := none }) (v := ?_) rfl (by kernel_rfl) (by kernel_rfl) (by kernel_rfl) (fun _ _ _ h => h) (Or.inl ⟨by rfl, ?_⟩) hHeld ?_
          rotate_left
          · intro w hSw; (try dsimp only at hSw); go_simp; try with_reducible rfl
          try simp only [Act.put, List.setIfInBounds_toArray, List.set_cons_zero, List.set_cons_succ]
          refine wpAnyH_take (i := 20) (oi := { dst := some 118, op := Op.move (Operand.tmp 16), type := 37, pos := "law.go:206", after := #[{ on := 19, ground := Ground.guard }], guard := some (19, false) }) (v := ?_) rfl (by kernel_rfl) (by kernel_rfl) (by kernel_rfl) (fun _ _ _ h => h) (Or.inl ⟨by rfl, ?_⟩) hHeld ?_
          rotate_left
          · intro w hSw; (try dsimp only at hSw); go_simp; try with_reducible rfl
          try simp only [Act.put, List.setIfInBounds_toArray, List.set_cons_zero, List.set_cons_succ]
          refine wpAnyH_take (i := 21) (oi := { dst := some 119, op := Op.indexAddr 37 (Operand.tmp 118) (Operand.const (Value.int IntKind.i64 0)), type := 0, pos := "law.go:206", after := #[{ on := 20, ground := Ground.data }, { on := 19, ground := Ground.guard }], guard := some (19, false) }) (v := ?_) rfl (by kernel_rfl) (by kernel_rfl) (by kernel_rfl) (fun _ _ _ h => h) (Or.inl ⟨by rfl, ?_⟩) hHeld ?_
          rotate_left
          · intro w hSw; (try dsimp only at hSw); go_simp; try with_reducible rfl
          try simp only [Act.put, List.setIfInBounds_toArray, List.set_cons_zero, List.set_cons_succ]
          refine wpAnyH_take (i := 22) (oi := { dst := some 120, op := Op.fieldAddr 65 (Operand.tmp 119) 3, type := 0, pos := "law.go:206", after := #[{ on := 21, ground := Ground.data }, { on := 19, ground := Ground.guard }], guard := some (19, false) }) (v := ?_) rfl (by kernel_rfl) (by kernel_rfl) (by kernel_rfl) (fun _ _ _ h => h) (Or.inl ⟨by rfl, ?_⟩) hHeld ?_
          rotate_left
          · intro w hSw; (try dsimp only at hSw); go_simp; try with_reducible rfl
          try simp only [Act.put, List.setIfInBounds_toArray, List.set_cons_zero, List.set_cons_succ]
          refine wpAnyH_take (i := 23) (oi := { dst := some 121, op := Op.load 63 (Operand.tmp 120), type := 63, pos := "law.go:206", after := #[{ on := 22, ground := Ground.data }, { on := 19, ground := Ground.guard }], guard := some (19, false) }) (v := ?_) rfl (by kernel_rfl) (by kernel_rfl) (by kernel_rfl) (fun _ _ _ h => h) (Or.inl ⟨by rfl, ?_⟩) hHeld ?_
          rotate_left
          · intro w hSw; (try dsimp only at hSw); go_simp; try with_reducible rfl
          try simp only [Act.put, List.setIfInBounds_toArray, List.set_cons_zero, List.set_cons_succ]
          refine wpAnyH_take (i := 24) (oi := { dst := some 122, op := Op.call { callee := Callee.builtin Builtin.len, args := #[Operand.tmp 121], argTypes := #[63] }, type := 3, pos := "law.go:206", after := #[{ on := 23, ground := Ground.data }, { on := 19, ground := Ground.guard }], guard := some (19, false) }) (v := ?_) rfl (by kernel_rfl) (by kernel_rfl) (by kernel_rfl) (fun _ _ _ h => h) (Or.inl ⟨by rfl, ?_⟩) hHeld ?_
          rotate_left
          · intro w hSw; (try dsimp only at hSw); go_simp; try with_reducible rfl
          try simp only [Act.put, List.setIfInBounds_toArray, List.set_cons_zero, List.set_cons_succ]
          refine wpAnyH_take (i := 25) (oi := { dst := some 123, op := Op.move (Operand.tmp 11), type := 37, pos := "law.go:206", after := #[{ on := 19, ground := Ground.guard }], guard := some (19, false) }) (v := ?_) rfl (by kernel_rfl) (by kernel_rfl) (by kernel_rfl) (fun _ _ _ h => h) (Or.inl ⟨by rfl, ?_⟩) hHeld ?_
          rotate_left
          · intro w hSw; (try dsimp only at hSw); go_simp; try with_reducible rfl
          try simp only [Act.put, List.setIfInBounds_toArray, List.set_cons_zero, List.set_cons_succ]
          refine wpAnyH_take (i := 26) (oi := { dst := some 124, op := Op.indexAddr 37 (Operand.tmp 123) (Operand.const (Value.int IntKind.i64 0)), type := 0, pos := "law.go:206", after := #[{ on := 25, ground := Ground.data }, { on := 19, ground := Ground.guard }], guard := some (19, false) }) (v := ?_) rfl (by kernel_rfl) (by kernel_rfl) (by kernel_rfl) (fun _ _ _ h => h) (Or.inl ⟨by rfl, ?_⟩) hHeld ?_
          rotate_left
          · intro w hSw; (try dsimp only at hSw); go_simp; try with_reducible rfl
          try simp only [Act.put, List.setIfInBounds_toArray, List.set_cons_zero, List.set_cons_succ]
          refine wpAnyH_take (i := 27) (oi := { dst := some 125, op := Op.fieldAddr 65 (Operand.tmp 124) 3, type := 0, pos := "law.go:206", after := #[{ on := 26, ground := Ground.data }, { on := 19, ground := Ground.guard }], guard := some (19, false) }) (v := ?_) rfl (by kernel_rfl) (by kernel_rfl) (by kernel_rfl) (fun _ _ _ h => h) (Or.inl ⟨by rfl, ?_⟩) hHeld ?_
          rotate_left
          · intro w hSw; (try dsimp only at hSw); go_simp; try with_reducible rfl
          try simp only [Act.put, List.setIfInBounds_toArray, List.set_cons_zero, List.set_cons_succ]
          refine wpAnyH_take (i := 28) (oi := { dst := some 126, op := Op.load 63 (Operand.tmp 125), type := 63, pos := "law.go:206", after := #[{ on := 27, ground := Ground.data }, { on := 19, ground := Ground.guard }], guard := some (19, false) }) (v := ?_) rfl (by kernel_rfl) (by kernel_rfl) (by kernel_rfl) (fun _ _ _ h => h) (Or.inl ⟨by rfl, ?_⟩) hHeld ?_
          rotate_left
          · intro w hSw; (try dsimp only at hSw); go_simp; try with_reducible rfl
          try simp only [Act.put, List.setIfInBounds_toArray, List.set_cons_zero, List.set_cons_succ]
          refine wpAnyH_take (i := 29) (oi := { dst := some 127, op := Op.call { callee := Callee.builtin Builtin.len, args := #[Operand.tmp 126], argTypes := #[63] }, type := 3, pos := "law.go:206", after := #[{ on := 28, ground := Ground.data }, { on := 19, ground := Ground.guard }], guard := some (19, false) }) (v := ?_) rfl (by kernel_rfl) (by kernel_rfl) (by kernel_rfl) (fun _ _ _ h => h) (Or.inl ⟨by rfl, ?_⟩) hHeld ?_
          rotate_left
          · intro w hSw; (try dsimp only at hSw); go_simp; try with_reducible rfl
          try simp only [Act.put, List.setIfInBounds_toArray, List.set_cons_zero, List.set_cons_succ]
          refine wpAnyH_take (i := 30) (oi := { dst := some 128, op := Op.binOp BinOp.neq 3 (Operand.tmp 122) (Operand.tmp 127) 3, type := 4, pos := "law.go:206", after := #[{ on := 24, ground := Ground.data }, { on := 29, ground := Ground.data }, { on := 19, ground := Ground.guard }], guard := some (19, false) }) (v := ?_) rfl (by kernel_rfl) (by kernel_rfl) (by kernel_rfl) (fun _ _ _ h => h) (Or.inl ⟨by rfl, ?_⟩) hHeld ?_
          rotate_left
          · intro w hSw; (try dsimp only at hSw); go_simp; try with_reducible rfl
          try simp only [Act.put, List.setIfInBounds_toArray, List.set_cons_zero, List.set_cons_succ]
          refine wpAnyH_take (i := 31) (oi := { dst := some 129, op := Op.pick (Operand.tmp 117) (Operand.const (Value.bool true)) (Operand.tmp 128), type := 4, pos := "law.go:206", after := #[{ on := 19, ground := Ground.data }, { on := 30, ground := Ground.data }], guard := none }) (v := ?_) rfl (by kernel_rfl) (by kernel_rfl) (by kernel_rfl) (fun _ _ _ h => h) (Or.inl ⟨by rfl, ?_⟩) hHeld ?_
          rotate_left
          · intro w hSw; (try dsimp only at hSw); go_simp; try with_reducible rfl
          try simp only [Act.put, List.setIfInBounds_toArray, List.set_cons_zero, List.set_cons_succ]
          refine wpAnyH_done (by kernel_rfl) ?_ _
          clear hHeld HS22
          obtain ⟨hcl, -⟩ := HAt.out w6.drew (j + 1) (HE6.out.later (Below.refl _ _).drew)
          have z6 : w6.drew.cell? ⟨g, kk * 7 + 6, none⟩ = some (.int .i64 dof) := hcl 6 (by omega)
          have HBl := hid HE6.out.below
          clear hcl
          go_wp2_with (go_at_call 15; refine (num12_any _ _).mono ?_; rintro x w9 ⟨rfl, hw9⟩; obtain rfl := hw9.symm)
          go_ret
          exact ⟨rfl, HBl.out.drew⟩
        · skip
          have hdk : decide ((j : Int) - 5 ≤ (kk : Int)) = false := by simp; omega
          have hDc : Hid (∀ W, AgW w t M j T ds L (.slice (some ⟨g, 0, none⟩) j c) W → Calls Try.prog 17 #[.pointer (some ⟨t, 0, none⟩), .agg #[.int .i64 1, .int .i64 3, .int .i64 2, .int .i64 dsq, .bool false, .slice a3 m c3]] W fun x w' => x = .returned (.tuple #[.int .i64 0, .bool false, .int .i64 52]) ∧ Below W.heap.size W w') := fun W hW => by
            have h := Decide_any hW.tab 1 3 2 dsq false (List.replicate m recK) a3 m c3 ((HAt.out W j hW).2.arg (by simp) (recK_size m) _ _ _ _ _)
            have e : decN T ⟨1, 3, 2, dsq, false, List.replicate m recK⟩ = (0, false, 52) := HAg.out.trans (if_neg hk5)
            rw [e] at h
            exact h
          have hNt : Hid (∀ W, AgW w t M j T ds L (.slice (some ⟨g, 0, none⟩) j c) W → Calls Try.prog 19 #[.pointer (some ⟨t, 0, none⟩), .agg #[.int .i64 1, .int .i64 3, .int .i64 2, .int .i64 dsq, .bool false, .slice a3 m c3], .int .i64 5] W fun x w' => x = .returned (.int .i64 52) ∧ TPic w' t M (j + 1) T ∧ Chg [M] W w') := fun W hW => by
            have h := Note_any hW.tab (by unfold maxLen; omega) 1 3 2 dsq false (List.replicate m recK) a3 m c3 5 ((HAt.out W j hW).2.arg (by simp) (recK_size m) _ _ _ _ _)
            have e : notN T ⟨1, 3, 2, dsq, false, List.replicate m recK⟩ 5 = (52, T) := HNg.out.trans (by rw [if_neg hk5])
            rw [e] at h
            exact h
          have hwx : IntKind.i64.wrap ((j : Int) - 5) = (j : Int) - 5 := by rw [IntKind.wrap_i64]; omega
          go_wp2_with (first
            | (go_at_call 20; (with_reducible_and_instances (refine (HEn.out _ j HE.out (by omega)).mono ?_)); rintro x w2 ⟨v1, L1, rfl, ho1, hm1, hb1⟩; obtain ⟨g1, c1, b1, d1, rfl, hg1, k1, k2⟩ := one_entry ho1 hm1; obtain ⟨q1, q2⟩ := hHg.out; rw [q1] at k1; rw [q2] at k2; have HE2 := hid (HE.out.later hb1); have HTy1 := hid (ho1.block g1 rfl); obtain ⟨hcl, -⟩ := HAt.out w2 j HE2.out; have z0 : w2.cell? ⟨g, kk * 7, none⟩ = some (.int .i64 1) := hcl 0 (by omega); have z1 : w2.cell? ⟨g, kk * 7 + 1, none⟩ = some (.int .i64 3) := hcl 1 (by omega); have z2 : w2.cell? ⟨g, kk * 7 + 2, none⟩ = some (.int .i64 2) := hcl 2 (by omega); have z3 : w2.cell? ⟨g, kk * 7 + 3, none⟩ = some (.int .i64 dsq) := hcl 3 (by omega); have z4 : w2.cell? ⟨g, kk * 7 + 4, none⟩ = some (.bool false) := hcl 4 (by omega); have z5 : w2.cell? ⟨g, kk * 7 + 5, none⟩ = some (.slice a3 m c3) := hcl 5 (by omega); have hdc2 := hid (hDc.out w2 HE2.out); clear ho1 hm1 hb1 hcl)
            | (go_at_call 17; (with_reducible_and_instances (refine hdc2.out.mono ?_)); rintro x w4 ⟨rfl, hb4⟩; have HE4 := hid (HE2.out.later hb4); have k1' := (hb4.cell (p := ⟨g1, 2, none⟩) hg1).trans k1; have k2' := (hb4.cell (p := ⟨g1, 3, none⟩) hg1).trans k2; have HTy4 : Hid (∃ cur, w4.heap[g1]? = some (.cells cur TEn (0, 0))) := (by obtain ⟨-, cur, hcur⟩ := HTy1.out; exact ⟨cur, (hb4.block g1 hg1).trans hcur⟩); have hg14 := Nat.lt_of_lt_of_le hg1 hb4.size; obtain ⟨hcl, -⟩ := HAt.out w4 j HE4.out; have z0 : w4.cell? ⟨g, kk * 7, none⟩ = some (.int .i64 1) := hcl 0 (by omega); have z1 : w4.cell? ⟨g, kk * 7 + 1, none⟩ = some (.int .i64 3) := hcl 1 (by omega); have z2 : w4.cell? ⟨g, kk * 7 + 2, none⟩ = some (.int .i64 2) := hcl 2 (by omega); have z3 : w4.cell? ⟨g, kk * 7 + 3, none⟩ = some (.int .i64 dsq) := hcl 3 (by omega); have z4 : w4.cell? ⟨g, kk * 7 + 4, none⟩ = some (.bool false) := hcl 4 (by omega); have z5 : w4.cell? ⟨g, kk * 7 + 5, none⟩ = some (.slice a3 m c3) := hcl 5 (by omega); have hnt4 := hid (hNt.out w4 HE4.out); clear hb4 hcl k1 k2)
            | (go_at_call 19; (with_reducible_and_instances (refine hnt4.out.mono ?_)); rintro x w5 ⟨rfl, ht5, hc5⟩; have HE5 := hid (HE4.out.noted ht5 hc5); have hk5g : w5.heap[g1]? = w4.heap[g1]? := (by obtain ⟨cur, hcur⟩ := HTy4.out; exact (HE4.out.own.noted HE4.out.tab hc5).2 0 g1 cur TEn hcur (by decide)); have k1'' : w5.cell? ⟨g1, 2, none⟩ = _ := (by simp only [World.cell?, hk5g]; exact k1'); have k2'' : w5.cell? ⟨g1, 3, none⟩ = _ := (by simp only [World.cell?, hk5g]; exact k2'); have hg15 : g1 < w5.heap.size := Nat.lt_of_lt_of_le hg14 hc5.size; have hen5 := hid (HEn.out _ (j + 1) HE5.out (by omega)); clear ht5 hc5 k1' k2' hk5g))
          go_wp2_with (go_at_call 20; (with_reducible_and_instances (refine hen5.out.mono ?_)); rintro x w6 ⟨v2, L2, rfl, ho2, hm2, hb2⟩; obtain ⟨g2, c2, b2, d2, rfl, hg2, k3, k4⟩ := one_entry ho2 hm2; obtain ⟨q1, q2⟩ := hHg.out; rw [q1] at k3; rw [q2] at k4; have HE6 := hid (HE5.out.later hb2); have k5 := (hb2.cell (p := ⟨g1, 2, none⟩) hg15).trans k1''; have k6 := (hb2.cell (p := ⟨g1, 3, none⟩) hg15).trans k2''; have hg16 := Nat.lt_of_lt_of_le hg15 hb2.size; clear ho2 hm2 hb2 k1'' k2'')
          have HS22 : Hid (∀ W, Below w6.heap.size w6 W → (W.cell? ⟨g1, 2, none⟩ = some (.int .i64 nx)) ∧ W.cell? ⟨g1, 3, none⟩ = some (.slice b1 n5 d1) ∧ W.cell? ⟨g2, 2, none⟩ = some (.int .i64 nx) ∧ W.cell? ⟨g2, 3, none⟩ = some (.slice b2 n5 d2)) := fun W hW => ⟨(hW.cell (p := ⟨g1, 2, none⟩) hg16).trans k5, (hW.cell (p := ⟨g1, 3, none⟩) hg16).trans k6, (hW.cell (p := ⟨g2, 2, none⟩) hg2).trans k3, (hW.cell (p := ⟨g2, 3, none⟩) hg2).trans k4⟩
          clear k3 k4 k5 k6
          refine wp_region_held_drew (S := fun W => (W.cell? ⟨g1, 2, none⟩ = some (.int .i64 nx)) ∧ W.cell? ⟨g1, 3, none⟩ = some (.slice b1 n5 d1) ∧ W.cell? ⟨g2, 2, none⟩ = some (.int .i64 nx) ∧ W.cell? ⟨g2, 3, none⟩ = some (.slice b2 n5 d2)) (by kernel_rfl) (HS22.out _ (Below.refl _ _).drew) (fun hHeld => ?_)
          refine wpAnyH_take (i := 0) (oi := { dst := some 98, op := Op.move (Operand.tmp 16), type := 37, pos := "law.go:206", after := #[], guard := none }) (v := ?_) rfl (by kernel_rfl) (by kernel_rfl) (by kernel_rfl) (fun _ _ _ h => h) (Or.inl ⟨by rfl, ?_⟩) hHeld ?_
          rotate_left
          · intro w hSw; (try dsimp only at hSw); go_simp; try with_reducible rfl
          try simp only [Act.put, List.setIfInBounds_toArray, List.set_cons_zero, List.set_cons_succ]
          refine wpAnyH_take (i := 1) (oi := { dst := some 99, op := Op.call { callee := Callee.builtin Builtin.len, args := #[Operand.tmp 98], argTypes := #[37] }, type := 3, pos := "law.go:206", after := #[{ on := 0, ground := Ground.data }], guard := none }) (v := ?_) rfl (by kernel_rfl) (by kernel_rfl) (by kernel_rfl) (fun _ _ _ h => h) (Or.inl ⟨by rfl, ?_⟩) hHeld ?_
          rotate_left
          · intro w hSw; (try dsimp only at hSw); go_simp; try with_reducible rfl
          try simp only [Act.put, List.setIfInBounds_toArray, List.set_cons_zero, List.set_cons_succ]
          refine wpAnyH_take (i := 2) (oi := { dst := some 100, op := Op.binOp BinOp.neq 3 (Operand.tmp 99) (Operand.const (Value.int IntKind.i64 1)) 3, type := 4, pos := "law.go:206", after := #[{ on := 1, ground := Ground.data }], guard := none }) (v := ?_) rfl (by kernel_rfl) (by kernel_rfl) (by kernel_rfl) (fun _ _ _ h => h) (Or.inl ⟨by rfl, ?_⟩) hHeld ?_
          rotate_left
          · intro w hSw; (try dsimp only at hSw); go_simp; try with_reducible rfl
          try simp only [Act.put, List.setIfInBounds_toArray, List.set_cons_zero, List.set_cons_succ]
          refine wpAnyH_take (i := 3) (oi := { dst := some 101, op := Op.move (Operand.tmp 100), type := 4, pos := "law.go:206", after := #[{ on := 2, ground := Ground.data }], guard := none }) (v := ?_) rfl (by kernel_rfl) (by kernel_rfl) (by kernel_rfl) (fun _ _ _ h => h) (Or.inl ⟨by rfl, ?_⟩) hHeld ?_
          rotate_left
          · intro w hSw; (try dsimp only at hSw); go_simp; try with_reducible rfl
          try simp only [Act.put, List.setIfInBounds_toArray, List.set_cons_zero, List.set_cons_succ]
          refine wpAnyH_take (i := 4) (oi := { dst := some 102, op := Op.move (Operand.tmp 11), type := 37, pos := "law.go:206", after := #[{ on := 3, ground := Ground.guard }], guard := some (3, false) }) (v := ?_) rfl (by kernel_rfl) (by kernel_rfl) (by kernel_rfl) (fun _ _ _ h => h) (Or.inl ⟨by rfl, ?_⟩) hHeld ?_
          rotate_left
          · intro w hSw; (try dsimp only at hSw); go_simp; try with_reducible rfl
          try simp only [Act.put, List.setIfInBounds_toArray, List.set_cons_zero, List.set_cons_succ]
          refine wpAnyH_take (i := 5) (oi := { dst := some 103, op := Op.call { callee := Callee.builtin Builtin.len, args := #[Operand.tmp 102], argTypes := #[37] }, type := 3, pos := "law.go:206", after := #[{ on := 4, ground := Ground.data }, { on := 3, ground := Ground.guard }], guard := some (3, false) }) (v := ?_) rfl (by kernel_rfl) (by kernel_rfl) (by kernel_rfl) (fun _ _ _ h => h) (Or.inl ⟨by rfl, ?_⟩) hHeld ?_
          rotate_left
          · intro w hSw; (try dsimp only at hSw); go_simp; try with_reducible rfl
          try simp only [Act.put, List.setIfInBounds_toArray, List.set_cons_zero, List.set_cons_succ]
          refine wpAnyH_take (i := 6) (oi := { dst := some 104, op := Op.binOp BinOp.neq 3 (Operand.tmp 103) (Operand.const (Value.int IntKind.i64 1)) 3, type := 4, pos := "law.go:206", after := #[{ on := 5, ground := Ground.data }, { on := 3, ground := Ground.guard }], guard := some (3, false) }) (v := ?_) rfl (by kernel_rfl) (by kernel_rfl) (by kernel_rfl) (fun _ _ _ h => h) (Or.inl ⟨by rfl, ?_⟩) hHeld ?_
          rotate_left
          · intro w hSw; (try dsimp only at hSw); go_simp; try with_reducible rfl
          try simp only [Act.put, List.setIfInBounds_toArray, List.set_cons_zero, List.set_cons_succ]
          refine wpAnyH_take (i := 7) (oi := { dst := some 105, op := Op.pick (Operand.tmp 101) (Operand.const (Value.bool true)) (Operand.tmp 104), type := 4, pos := "law.go:206", after := #[{ on := 3, ground := Ground.data }, { on := 6, ground := Ground.data }], guard := none }) (v := ?_) rfl (by kernel_rfl) (by kernel_rfl) (by kernel_rfl) (fun _ _ _ h => h) (Or.inl ⟨by rfl, ?_⟩) hHeld ?_
          rotate_left
          · intro w hSw; (try dsimp only at hSw); go_simp; try with_reducible rfl
          try simp only [Act.put, List.setIfInBounds_toArray, List.set_cons_zero, List.set_cons_succ]
          refine wpAnyH_take (i := 8) (oi := { dst := some 106, op := Op.move (Operand.tmp 105), type := 4, pos := "law.go:206", after := #[{ on := 7, ground := Ground.data }, { on := 3, ground := Ground.chain }], guard := none }) (v := ?_) rfl (by kernel_rfl) (by kernel_rfl) (by kernel_rfl) (fun _ _ _ h => h) (Or.inl ⟨by rfl, ?_⟩) hHeld ?_
          rotate_left
          · intro w hSw; (try dsimp only at hSw); go_simp; try with_reducible rfl
          try simp only [Act.put, List.setIfInBounds_toArray, List.set_cons_zero, List.set_cons_succ]
          refine wpAnyH_take (i := 9) (oi := { dst := some 107, op := Op.move (Operand.tmp 16), type := 37, pos := "law.go:206", after := #[{ on := 8, ground := Ground.guard }], guard := some (8, false) }) (v := ?_) rfl (by kernel_rfl) (by kernel_rfl) (by kernel_rfl) (fun _ _ _ h => h) (Or.inl ⟨by rfl, ?_⟩) hHeld ?_
          rotate_left
          · intro w hSw; (try dsimp only at hSw); go_simp; try with_reducible rfl
          try simp only [Act.put, List.setIfInBounds_toArray, List.set_cons_zero, List.set_cons_succ]
          refine wpAnyH_take (i := 10) (oi := { dst := some 108, op := Op.indexAddr 37 (Operand.tmp 107) (Operand.const (Value.int IntKind.i64 0)), type := 0, pos := "law.go:206", after := #[{ on := 9, ground := Ground.data }, { on := 8, ground := Ground.guard }], guard := some (8, false) }) (v := ?_) rfl (by kernel_rfl) (by kernel_rfl) (by kernel_rfl) (fun _ _ _ h => h) (Or.inl ⟨by rfl, ?_⟩) hHeld ?_
          rotate_left
          · intro w hSw; (try dsimp only at hSw); go_simp; try with_reducible rfl
          try simp only [Act.put, List.setIfInBounds_toArray, List.set_cons_zero, List.set_cons_succ]
          refine wpAnyH_take (i := 11) (oi := { dst := some 109, op := Op.fieldAddr 65 (Operand.tmp 108) 2, type := 0, pos := "law.go:206", after := #[{ on := 10, ground := Ground.data }, { on := 8, ground := Ground.guard }], guard := some (8, false) }) (v := ?_) rfl (by kernel_rfl) (by kernel_rfl) (by kernel_rfl) (fun _ _ _ h => h) (Or.inl ⟨by rfl, ?_⟩) hHeld ?_
          rotate_left
          · intro w hSw; (try dsimp only at hSw); go_simp; try with_reducible rfl
          try simp only [Act.put, List.setIfInBounds_toArray, List.set_cons_zero, List.set_cons_succ]
          refine wpAnyH_take (i := 12) (oi := { dst := some 110, op := Op.load 3 (Operand.tmp 109), type := 3, pos := "law.go:206", after := #[{ on := 11, ground := Ground.data }, { on := 8, ground := Ground.guard }], guard := some (8, false) }) (v := ?_) rfl (by kernel_rfl) (by kernel_rfl) (by kernel_rfl) (fun _ _ _ h => h) (Or.inl ⟨by rfl, ?_⟩) hHeld ?_
          rotate_left
          · intro w hSw; (try dsimp only at hSw); go_simp; try with_reducible rfl
          try simp only [Act.put, List.setIfInBounds_toArray, List.set_cons_zero, List.set_cons_succ]
          refine wpAnyH_take (i := 13) (oi := { dst := some 111, op := Op.move (Operand.tmp 11), type := 37, pos := "law.go:206", after := #[{ on := 8, ground := Ground.guard }], guard := some (8, false) }) (v := ?_) rfl (by kernel_rfl) (by kernel_rfl) (by kernel_rfl) (fun _ _ _ h => h) (Or.inl ⟨by rfl, ?_⟩) hHeld ?_
          rotate_left
          · intro w hSw; (try dsimp only at hSw); go_simp; try with_reducible rfl
          try simp only [Act.put, List.setIfInBounds_toArray, List.set_cons_zero, List.set_cons_succ]
          refine wpAnyH_take (i := 14) (oi := { dst := some 112, op := Op.indexAddr 37 (Operand.tmp 111) (Operand.const (Value.int IntKind.i64 0)), type := 0, pos := "law.go:206", after := #[{ on := 13, ground := Ground.data }, { on := 8, ground := Ground.guard }], guard := some (8, false) }) (v := ?_) rfl (by kernel_rfl) (by kernel_rfl) (by kernel_rfl) (fun _ _ _ h => h) (Or.inl ⟨by rfl, ?_⟩) hHeld ?_
          rotate_left
          · intro w hSw; (try dsimp only at hSw); go_simp; try with_reducible rfl
          try simp only [Act.put, List.setIfInBounds_toArray, List.set_cons_zero, List.set_cons_succ]
          refine wpAnyH_take (i := 15) (oi := { dst := some 113, op := Op.fieldAddr 65 (Operand.tmp 112) 2, type := 0, pos := "law.go:206", after := #[{ on := 14, ground := Ground.data }, { on := 8, ground := Ground.guard }], guard := some (8, false) }) (v := ?_) rfl (by kernel_rfl) (by kernel_rfl) (by kernel_rfl) (fun _ _ _ h => h) (Or.inl ⟨by rfl, ?_⟩) hHeld ?_
          rotate_left
          · intro w hSw; (try dsimp only at hSw); go_simp; try with_reducible rfl
          try simp only [Act.put, List.setIfInBounds_toArray, List.set_cons_zero, List.set_cons_succ]
          refine wpAnyH_take (i := 16) (oi := { dst := some 114, op := Op.load 3 (Operand.tmp 113), type := 3, pos := "law.go:206", after := #[{ on := 15, ground := Ground.data }, { on := 8, ground := Ground.guard }], guard := some (8, false) }) (v := ?_) rfl (by kernel_rfl) (by kernel_rfl) (by kernel_rfl) (fun _ _ _ h => h) (Or.inl ⟨by rfl, ?_⟩) hHeld ?_
          rotate_left
          · intro w hSw; (try dsimp only at hSw); go_simp; try with_reducible rfl
          try simp only [Act.put, List.setIfInBounds_toArray, List.set_cons_zero, List.set_cons_succ]
          refine wpAnyH_take (i := 17) (oi := { dst := some 115, op := Op.binOp BinOp.neq 3 (Operand.tmp 110) (Operand.tmp 114) 3, type := 4, pos := "law.go:206", after := #[{ on := 12, ground := Ground.data }, { on := 16, ground := Ground.data }, { on := 8, ground := Ground.guard }], guard := some (8, false) }) (v := ?_) rfl (by kernel_rfl) (by kernel_rfl) (by kernel_rfl) (fun _ _ _ h => h) (Or.inl ⟨by rfl, ?_⟩) hHeld ?_
          rotate_left
          · intro w hSw; (try dsimp only at hSw); go_simp; try with_reducible rfl
          try simp only [Act.put, List.setIfInBounds_toArray, List.set_cons_zero, List.set_cons_succ]
          refine wpAnyH_take (i := 18) (oi := { dst := some 116, op := Op.pick (Operand.tmp 106) (Operand.const (Value.bool true)) (Operand.tmp 115), type := 4, pos := "law.go:206", after := #[{ on := 8, ground := Ground.data }, { on := 17, ground := Ground.data }], guard := none }) (v := ?_) rfl (by kernel_rfl) (by kernel_rfl) (by kernel_rfl) (fun _ _ _ h => h) (Or.inl ⟨by rfl, ?_⟩) hHeld ?_
          rotate_left
          · intro w hSw; (try dsimp only at hSw); go_simp; try with_reducible rfl
          try simp only [Act.put, List.setIfInBounds_toArray, List.set_cons_zero, List.set_cons_succ]
          refine wpAnyH_take (i := 19) (oi := { dst := some 117, op := Op.move (Operand.tmp 116), type := 4, pos := "law.go:206", after := #[{ on := 18, ground := Ground.data }, { on := 8, ground := Ground.chain }], guard := none }) (v := ?_) rfl (by kernel_rfl) (by kernel_rfl) (by kernel_rfl) (fun _ _ _ h => h) (Or.inl ⟨by rfl, ?_⟩) hHeld ?_
          rotate_left
          · intro w hSw; (try dsimp only at hSw); go_simp; try with_reducible rfl
          try simp only [Act.put, List.setIfInBounds_toArray, List.set_cons_zero, List.set_cons_succ]
          refine wpAnyH_take (i := 20) (oi := { dst := some 118, op := Op.move (Operand.tmp 16), type := 37, pos := "law.go:206", after := #[{ on := 19, ground := Ground.guard }], guard := some (19, false) }) (v := ?_) rfl (by kernel_rfl) (by kernel_rfl) (by kernel_rfl) (fun _ _ _ h => h) (Or.inl ⟨by rfl, ?_⟩) hHeld ?_
          rotate_left
          · intro w hSw; (try dsimp only at hSw); go_simp; try with_reducible rfl
          try simp only [Act.put, List.setIfInBounds_toArray, List.set_cons_zero, List.set_cons_succ]
          refine wpAnyH_take (i := 21) (oi := { dst := some 119, op := Op.indexAddr 37 (Operand.tmp 118) (Operand.const (Value.int IntKind.i64 0)), type := 0, pos := "law.go:206", after := #[{ on := 20, ground := Ground.data }, { on := 19, ground := Ground.guard }], guard := some (19, false) }) (v := ?_) rfl (by kernel_rfl) (by kernel_rfl) (by kernel_rfl) (fun _ _ _ h => h) (Or.inl ⟨by rfl, ?_⟩) hHeld ?_
          rotate_left
          · intro w hSw; (try dsimp only at hSw); go_simp; try with_reducible rfl
          try simp only [Act.put, List.setIfInBounds_toArray, List.set_cons_zero, List.set_cons_succ]
          refine wpAnyH_take (i := 22) (oi := { dst := some 120, op := Op.fieldAddr 65 (Operand.tmp 119) 3, type := 0, pos := "law.go:206", after := #[{ on := 21, ground := Ground.data }, { on := 19, ground := Ground.guard }], guard := some (19, false) }) (v := ?_) rfl (by kernel_rfl) (by kernel_rfl) (by kernel_rfl) (fun _ _ _ h => h) (Or.inl ⟨by rfl, ?_⟩) hHeld ?_
          rotate_left
          · intro w hSw; (try dsimp only at hSw); go_simp; try with_reducible rfl
          try simp only [Act.put, List.setIfInBounds_toArray, List.set_cons_zero, List.set_cons_succ]
          refine wpAnyH_take (i := 23) (oi := { dst := some 121, op := Op.load 63 (Operand.tmp 120), type := 63, pos := "law.go:206", after := #[{ on := 22, ground := Ground.data }, { on := 19, ground := Ground.guard }], guard := some (19, false) }) (v := ?_) rfl (by kernel_rfl) (by kernel_rfl) (by kernel_rfl) (fun _ _ _ h => h) (Or.inl ⟨by rfl, ?_⟩) hHeld ?_
          rotate_left
          · intro w hSw; (try dsimp only at hSw); go_simp; try with_reducible rfl
          try simp only [Act.put, List.setIfInBounds_toArray, List.set_cons_zero, List.set_cons_succ]
          refine wpAnyH_take (i := 24) (oi := { dst := some 122, op := Op.call { callee := Callee.builtin Builtin.len, args := #[Operand.tmp 121], argTypes := #[63] }, type := 3, pos := "law.go:206", after := #[{ on := 23, ground := Ground.data }, { on := 19, ground := Ground.guard }], guard := some (19, false) }) (v := ?_) rfl (by kernel_rfl) (by kernel_rfl) (by kernel_rfl) (fun _ _ _ h => h) (Or.inl ⟨by rfl, ?_⟩) hHeld ?_
          rotate_left
          · intro w hSw; (try dsimp only at hSw); go_simp; try with_reducible rfl
          try simp only [Act.put, List.setIfInBounds_toArray, List.set_cons_zero, List.set_cons_succ]
          refine wpAnyH_take (i := 25) (oi := { dst := some 123, op := Op.move (Operand.tmp 11), type := 37, pos := "law.go:206", after := #[{ on := 19, ground := Ground.guard }], guard := some (19, false) }) (v := ?_) rfl (by kernel_rfl) (by kernel_rfl) (by kernel_rfl) (fun _ _ _ h => h) (Or.inl ⟨by rfl, ?_⟩) hHeld ?_
          rotate_left
          · intro w hSw; (try dsimp only at hSw); go_simp; try with_reducible rfl
          try simp only [Act.put, List.setIfInBounds_toArray, List.set_cons_zero, List.set_cons_succ]
          refine wpAnyH_take (i := 26) (oi := { dst := some 124, op := Op.indexAddr 37 (Operand.tmp 123) (Operand.const (Value.int IntKind.i64 0)), type := 0, pos := "law.go:206", after := #[{ on := 25, ground := Ground.data }, { on := 19, ground := Ground.guard }], guard := some (19, false) }) (v := ?_) rfl (by kernel_rfl) (by kernel_rfl) (by kernel_rfl) (fun _ _ _ h => h) (Or.inl ⟨by rfl, ?_⟩) hHeld ?_
          rotate_left
          · intro w hSw; (try dsimp only at hSw); go_simp; try with_reducible rfl
          try simp only [Act.put, List.setIfInBounds_toArray, List.set_cons_zero, List.set_cons_succ]
          refine wpAnyH_take (i := 27) (oi := { dst := some 125, op := Op.fieldAddr 65 (Operand.tmp 124) 3, type := 0, pos := "law.go:206", after := #[{ on := 26, ground := Ground.data }, { on := 19, ground := Ground.guard }], guard := some (19, false) }) (v := ?_) rfl (by kernel_rfl) (by kernel_rfl) (by kernel_rfl) (fun _ _ _ h => h) (Or.inl ⟨by rfl, ?_⟩) hHeld ?_
          rotate_left
          · intro w hSw; (try dsimp only at hSw); go_simp; try with_reducible rfl
          try simp only [Act.put, List.setIfInBounds_toArray, List.set_cons_zero, List.set_cons_succ]
          refine wpAnyH_take (i := 28) (oi := { dst := some 126, op := Op.load 63 (Operand.tmp 125), type := 63, pos := "law.go:206", after := #[{ on := 27, ground := Ground.data }, { on := 19, ground := Ground.guard }], guard := some (19, false) }) (v := ?_) rfl (by kernel_rfl) (by kernel_rfl) (by kernel_rfl) (fun _ _ _ h => h) (Or.inl ⟨by rfl, ?_⟩) hHeld ?_
          rotate_left
          · intro w hSw; (try dsimp only at hSw); go_simp; try with_reducible rfl
          try simp only [Act.put, List.setIfInBounds_toArray, List.set_cons_zero, List.set_cons_succ]
          refine wpAnyH_take (i := 29) (oi := { dst := some 127, op := Op.call { callee := Callee.builtin Builtin.len, args := #[Operand.tmp 126], argTypes := #[63] }, type := 3, pos := "law.go:206", after := #[{ on := 28, ground := Ground.data }, { on := 19, ground := Ground.guard }], guard := some (19, false) }) (v := ?_) rfl (by kernel_rfl) (by kernel_rfl) (by kernel_rfl) (fun _ _ _ h => h) (Or.inl ⟨by rfl, ?_⟩) hHeld ?_
          rotate_left
          · intro w hSw; (try dsimp only at hSw); go_simp; try with_reducible rfl
          try simp only [Act.put, List.setIfInBounds_toArray, List.set_cons_zero, List.set_cons_succ]
          refine wpAnyH_take (i := 30) (oi := { dst := some 128, op := Op.binOp BinOp.neq 3 (Operand.tmp 122) (Operand.tmp 127) 3, type := 4, pos := "law.go:206", after := #[{ on := 24, ground := Ground.data }, { on := 29, ground := Ground.data }, { on := 19, ground := Ground.guard }], guard := some (19, false) }) (v := ?_) rfl (by kernel_rfl) (by kernel_rfl) (by kernel_rfl) (fun _ _ _ h => h) (Or.inl ⟨by rfl, ?_⟩) hHeld ?_
          rotate_left
          · intro w hSw; (try dsimp only at hSw); go_simp; try with_reducible rfl
          try simp only [Act.put, List.setIfInBounds_toArray, List.set_cons_zero, List.set_cons_succ]
          refine wpAnyH_take (i := 31) (oi := { dst := some 129, op := Op.pick (Operand.tmp 117) (Operand.const (Value.bool true)) (Operand.tmp 128), type := 4, pos := "law.go:206", after := #[{ on := 19, ground := Ground.data }, { on := 30, ground := Ground.data }], guard := none }) (v := ?_) rfl (by kernel_rfl) (by kernel_rfl) (by kernel_rfl) (fun _ _ _ h => h) (Or.inl ⟨by rfl, ?_⟩) hHeld ?_
          rotate_left
          · intro w hSw; (try dsimp only at hSw); go_simp; try with_reducible rfl
          try simp only [Act.put, List.setIfInBounds_toArray, List.set_cons_zero, List.set_cons_succ]
          refine wpAnyH_done (by kernel_rfl) ?_ _
          clear hHeld HS22
          obtain ⟨hcl, -⟩ := HAt.out w6.drew (j + 1) (HE6.out.later (Below.refl _ _).drew)
          have z6 : w6.drew.cell? ⟨g, kk * 7 + 6, none⟩ = some (.int .i64 dof) := hcl 6 (by omega)
          have HBl := hid HE6.out.below
          clear hcl
          go_wp2_with (go_at_call 15; refine (num12_any _ _).mono ?_; rintro x w9 ⟨rfl, hw9⟩; obtain rfl := hw9.symm)
          go_ret
          exact ⟨rfl, HBl.out.drew⟩
end Go.Proofs.Ytobaeiicacpbnaa
