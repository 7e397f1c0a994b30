/- A store beside boxes of the caller's own. -/
import Derived.Test.YtikomnbhmmjfnaaGreatSUp
import Derived.Test.YtikomnbhmmjfnaaGreatSLookW
import Derived.Laws.StructEq
import Derived.DeepKeys
import Derived.ChangeKeysEq
namespace Go.Proofs.YtikomnbhmmjfnaaGreat
open Go.RowKit Go.Shelf Crcm

/-- A box: its block, its cells, its type. -/
abbrev BxS := Nat × Array Value × TypeId
structure KS (w0 w : World) (S : Nat) (s : SSt) (X : List BxS) : Prop where
  up : ∃ F, SU w F S s ∧ (∀ g ∈ F, w0.heap.size ≤ g) ∧ ∀ x ∈ X, x.1 ∉ F
  box : ∀ x ∈ X, Blk w x.1 x.2.1 x.2.2
  own : ∀ x ∈ X, w0.heap.size ≤ x.1
  below : Below w0.heap.size w0 w
variable {w0 w w' : World} {S : Nat} {s s' : SSt} {X : List BxS}
theorem KS.sa (h : KS w0 w S s X) : SA 0 w S s := by
  obtain ⟨F, h1, -⟩ := h.up
  exact h1.sa
theorem KS.later (h : KS w0 w S s X) (hb : Below w.heap.size w w') : KS w0 w' S s X := by
  obtain ⟨F, h1, h2, h3⟩ := h.up
  exact ⟨⟨F, h1.later hb, h2, h3⟩, fun x hx => (h.box x hx).later hb, h.own, h.below.trans (hb.mono h.below.size)⟩
theorem KS.sub {Y : List BxS} (h : KS w0 w S s X) (hs : ∀ y ∈ Y, y ∈ X) : KS w0 w S s Y := by
  obtain ⟨F, h1, h2, h3⟩ := h.up
  exact ⟨⟨F, h1, h2, fun x hx => h3 x (hs x hx)⟩, fun x hx => h.box x (hs x hx), fun x hx => h.own x (hs x hx), h.below⟩
theorem KS.alloc (h : KS w0 w S s X) (cs : Array Value) (T : TypeId) : KS w0 (w.alloc (.cells cs T)) S s ((w.heap.size, cs, T) :: X) := by
  have hb : Below w.heap.size w (w.alloc (.cells cs T)) := (Below.refl _ _).alloc (Nat.le_refl _) _
  have h' := h.later hb
  obtain ⟨F, h1, h2, h3⟩ := h.up
  have hlt := h1.lt
  refine ⟨⟨F, h1.later hb, h2, fun x hx => ?_⟩, fun x hx => ?_, fun x hx => ?_, h'.below⟩
  · simp only [List.mem_cons] at hx
    rcases hx with rfl | hx
    · exact fun hm => absurd (hlt _ hm) (by simp)
    · exact h3 x hx
  · simp only [List.mem_cons] at hx
    rcases hx with rfl | hx
    · exact heap_alloc_last w _
    · exact h'.box x hx
  · simp only [List.mem_cons] at hx
    rcases hx with rfl | hx
    · exact h.below.size
    · exact h.own x hx
theorem KS.call {o : OpS} (h : KS w0 w S s X) (ho : o.ok w) : ∃ r : Int × SSt, CallOk o.rep s r ∧ Calls Tryz.prog 26 #[.pointer (some ⟨S, 0, none⟩), .agg (opS o)] w fun x w' => x = .returned (.int .i64 r.1) ∧ Hid (KS w0 w' S r.2 X) := by
  obtain ⟨F, h1, h2, h3⟩ := h.up
  obtain ⟨r, hr, hc⟩ := call_any h1 o ho
  refine ⟨r, hr, hc.mono ?_⟩
  rintro x w' ⟨rfl, ⟨F', n1, hF'⟩, hch⟩
  refine ⟨rfl, hide ⟨⟨F', n1, fun g hg => ?_, fun x hx hm => ?_⟩, fun x hx => (h.box x hx).chg hch (h3 x hx), h.own, ?_⟩⟩
  · exact (hF' g hg).elim (h2 g) (fun hh => Nat.le_trans h.below.size hh)
  · exact (hF' _ hm).elim (h3 x hx) (fun hh => absurd (h.box x hx).lt (by omega))
  · exact h.below.trans (hch.below h2 h.below.size)
/-- A box is stored anew, whole. -/
theorem KS.row {B : Nat} {cs cs' : Array Value} {T : TypeId} (h : KS w0 w S s ((B, cs, T) :: X)) (hX : ∀ x ∈ X, x.1 ≠ B) : KS w0 (w.setRow B cs') S s ((B, cs', T) :: X) := by
  obtain ⟨F, h1, h2, h3⟩ := h.up
  have hB := h3 (B, cs, T) List.mem_cons_self
  have ho := h.own (B, cs, T) List.mem_cons_self
  refine ⟨⟨F, h1.keepF (fun g hg => setRow_other w B g cs' (fun e => by subst e; exact hB hg)) (by simp [World.setRow]), h2, fun x hx => ?_⟩, fun x hx => ?_, fun x hx => ?_, below_row h.below ho _⟩
  · simp only [List.mem_cons] at hx
    rcases hx with rfl | hx
    · exact hB
    · exact h3 x (List.mem_cons_of_mem _ hx)
  · simp only [List.mem_cons] at hx
    rcases hx with rfl | hx
    · exact setRow_heap w B cs cs' T _ (h.box (B, cs, T) List.mem_cons_self)
    · exact (setRow_other w B x.1 cs' (hX x hx)).trans (h.box x (List.mem_cons_of_mem _ hx))
  · simp only [List.mem_cons] at hx
    rcases hx with rfl | hx
    · exact ho
    · exact h.own x (List.mem_cons_of_mem _ hx)
theorem KS.make {D : Nat} {FD : List Nat} {n : Nat} (hd : Dk w FD D (newD n)) (hF : ∀ g ∈ FD, w0.heap.size ≤ g) (hb : Below w0.heap.size w0 w) : Calls Tryz.prog 12 #[.pointer (some ⟨D, 0, none⟩)] w fun x w' => ∃ S, x = .returned (.tuple #[.pointer (some ⟨S, 0, none⟩), .int .i64 0]) ∧ Hid (KS w0 w' S (sst0 (newD n)) []) := by
  obtain ⟨f1, f2, f3⟩ := new_free n
  refine (open_new hd f1.on f3).mono ?_
  rintro x w' ⟨S, rfl, FD', G, X, Y, fx, fy, A, hp, k1, k2, hc⟩
  refine ⟨S, rfl, hide ⟨⟨G ++ FD', ⟨⟨FD', G, D, X, Y, fx, fy, A, hp, rfl⟩, f1, f2⟩, fun g hg => ?_, fun x hx => (by cases hx)⟩, fun x hx => (by cases hx), fun x hx => (by cases hx), hb.trans (hc.below hF hb.size)⟩⟩
  rcases List.mem_append.1 hg with h | h
  · exact Nat.le_trans hb.size (k2 g h)
  · exact (k1 g h).elim (hF g) (fun h => Nat.le_trans hb.size h)
end Go.Proofs.YtikomnbhmmjfnaaGreat

/- Tables held against each other; loads and comparisons behind a guard. -/
namespace Go.Proofs.YtikomnbhmmjfnaaGreat
open Go.RowKit Go.Shelf Crcm

section
variable {ops : Array Oper} {rest : List Oper} {o : Oper} {a : Act} {w : World} {Q : Exit → Act → World → Prop}
theorem wpList_want (hw : Region.wanted o (yielded ops a.tmps) = true) (h : ∀ K : Act → World → Prop, (∀ a w, wpList Tryz.prog ops Q rest a w → K a w) → o.wp Tryz.prog a w K Q) : wpList Tryz.prog ops Q (o :: rest) a w :=
  wpList_step fun K hK => by rw [if_pos hw]; exact h K hK
theorem load_wideG (hw : Region.wanted o (yielded ops a.tmps) = true) (ty : TypeId) (x : Operand) (ho : o.op = .load ty x) (d : TypeDesc) (hu : Tryz.prog.underlying ty = some d) (hd : isWide d = true)
    (l : List Value) (hi : (Tryz.prog.info? ty).map (·.size) = some l.length) (g off : Nat) (hx : a.eval x = .pointer (some ⟨g, off, none⟩)) (hc : ∀ j, j < l.length → w.cell? ⟨g, off + j, none⟩ = l[j]?)
    (h : wpList Tryz.prog ops Q rest (a.put o.dst (.agg l.toArray)) w) : wpList Tryz.prog ops Q (o :: rest) a w := by
  refine wpList_want hw fun K hK => ?_
  unfold Oper.wp execOp
  simp only [ho, hx, Instr.loadAt, Instr.sureAddr, Sem.run_bind, Sem.run_pure, Result.andThen_ok, run_loadVar_cells w ty d hu hd l hi g off hc]
  exact hK _ _ h
end
/-- A table held against itself. -/
theorem told_fields : Tryz.prog.underlying TT = some (.struct (Tryz.prog.fieldsOf TT)) := by simp [Program.fieldsOf, Tryz.underlying66]
theorem told_guard : Tryz.prog.eqGuardType Tryz.prog.depth TT = false := by kernel_rfl
theorem told_held : Tryz.prog.stoodInHeld TT = false := by kernel_rfl
theorem arr_eq (t e : TypeId) (n : Nat) (i : TypeInfo) (hu : Tryz.prog.underlying t = some (.array n e)) (hi : Tryz.prog.info? e = some i) (d : Nat) (xs ys : Array Value) (w : World) : (Op.equalIn (d + 1) t (.agg xs) (.agg ys)).run Tryz.prog w = (Op.eqItems d e (Tryz.prog.cellsOf e) xs ys (List.range n)).run Tryz.prog w := run_equalIn_array w d xs ys hu hi
theorem items_self (d : Nat) (e : TypeId) (n : Nat) (xs : Array Value) (w : World) : ∀ is : List Nat, (∀ i ∈ is, ∃ a, (part e xs (i * n)).run Tryz.prog w = .ok a w ∧ (Op.equalIn d e a a).run Tryz.prog w = .ok true w) → (Op.eqItems d e n xs xs is).run Tryz.prog w = .ok true w
  | [], _ => by simp [Op.eqItems]
  | i :: is, h => by
    obtain ⟨a, h1, h2⟩ := h i (by simp)
    have ih := items_self d e n xs w is (fun j hj => h j (by simp [hj]))
    simp [Op.eqItems, h1, h2, ih]
theorem fields_self (d : Nat) (xs : Array Value) (w : World) : ∀ fs : List Field, (∀ f ∈ fs, ∃ a, (part f.type xs f.offset).run Tryz.prog w = .ok a w ∧ (Op.equalIn d f.type a a).run Tryz.prog w = .ok true w) → (Op.eqFields d xs xs fs).run Tryz.prog w = .ok true w
  | [], _ => by simp [Op.eqFields]
  | f :: fs, h => by
    obtain ⟨a, h1, h2⟩ := h f (by simp)
    have ih := fields_self d xs w fs (fun j hj => h j (by simp [hj]))
    simp only [Op.eqFields]
    split
    · simp [h1, h2, ih]
    · exact ih
theorem arr_self (t e : TypeId) (n : Nat) (i : TypeInfo) (hu : Tryz.prog.underlying t = some (.array n e)) (hi : Tryz.prog.info? e = some i) (d : Nat) (xs : Array Value) (w : World)
    (h : ∀ j, j < n → ∃ a, (part e xs (j * Tryz.prog.cellsOf e)).run Tryz.prog w = .ok a w ∧ (Op.equalIn d e a a).run Tryz.prog w = .ok true w) : (Op.equalIn (d + 1) t (.agg xs) (.agg xs)).run Tryz.prog w = .ok true w := by
  rw [arr_eq t e n i hu hi]
  exact items_self _ _ _ _ _ _ (fun j hj => h j (List.mem_range.1 hj))
theorem info_some {e : TypeId} (h : (Tryz.prog.info? e).isSome = true) : ∃ i, Tryz.prog.info? e = some i := Option.isSome_iff_exists.1 h
theorem part_arr {e e' : TypeId} {n : Nat} {i : TypeInfo} (hu : Tryz.prog.underlying e = some (.array n e')) (hi : Tryz.prog.info? e = some i) (xs : Array Value) (off : Nat) (w : World) : (part e xs off).run Tryz.prog w = .ok (.agg (xs.extract off (off + Tryz.prog.cellsOf e))) w := by
  simp [part, isAgg, run_underlying hu, run_sizeOf w hi]
theorem part_str {e : TypeId} (hu : Tryz.prog.underlying e = some .string) {xs : Array Value} {off : Nat} {v : Value} (h : xs[off]? = some v) (w : World) : (part e xs off).run Tryz.prog w = .ok v w := by
  simp [part, isAgg, run_underlying hu, h]
theorem part_bool {e : TypeId} (hu : Tryz.prog.underlying e = some .bool) {xs : Array Value} {off : Nat} {v : Value} (h : xs[off]? = some v) (w : World) : (part e xs off).run Tryz.prog w = .ok v w := by
  simp [part, isAgg, run_underlying hu, h]
theorem part_int {e : TypeId} {q : IntKind} (hu : Tryz.prog.underlying e = some (.int q)) {xs : Array Value} {off : Nat} {v : Value} (h : xs[off]? = some v) (w : World) : (part e xs off).run Tryz.prog w = .ok v w := by
  simp [part, isAgg, run_underlying hu, h]
theorem cells1S : Tryz.prog.cellsOf 9 = 1 ∧ Tryz.prog.cellsOf 4 = 1 ∧ Tryz.prog.cellsOf 3 = 1 ∧ Tryz.prog.cellsOf 59 = 6 ∧ Tryz.prog.cellsOf 61 = 6 ∧ Tryz.prog.cellsOf 60 = 18 ∧ Tryz.prog.cellsOf 62 = 18 ∧ Tryz.prog.cellsOf 63 = 3 ∧ Tryz.prog.cellsOf 64 = 3 := ⟨by kernel_rfl, by kernel_rfl, by kernel_rfl, by kernel_rfl, by kernel_rfl, by kernel_rfl, by kernel_rfl, by kernel_rfl, by kernel_rfl⟩
theorem ex_get (xs : Array Value) (p n j : Nat) (hj : j < n) (h : p + n ≤ xs.size) : (xs.extract p (p + n))[j]? = xs[p + j]? := by
  rw [Array.getElem?_extract, if_pos (by omega)]
theorem ex_size (xs : Array Value) (p n : Nat) (h : p + n ≤ xs.size) : (xs.extract p (p + n)).size = n := by
  rw [Array.size_extract]; omega
theorem told_size (t : Tld) : (toldL t).toArray.size = 42 := by rw [List.size_toArray, toldL_len]
theorem told_get (t : Tld) (j : Nat) (h : j < 42) : (toldL t).toArray[j]? = some (cellT t j) := by rw [List.getElem?_toArray, toldL_at t j h]
set_option maxRecDepth 100000 in
theorem told_same (t : Tld) (w : World) : (binOp .neq TT (.agg (toldL t).toArray) (.agg (toldL t).toArray)).run Tryz.prog w = .ok (.bool false) w := by
  obtain ⟨k1, k2, k3, k4, k5, k6, k7, k8, k9⟩ := cells1S
  obtain ⟨is, his⟩ := info_some (e := 9) (by kernel_rfl)
  obtain ⟨ib, hib⟩ := info_some (e := 4) (by kernel_rfl)
  obtain ⟨ii, hii⟩ := info_some (e := 3) (by kernel_rfl)
  obtain ⟨i6, hi6⟩ := info_some (e := 59) (by kernel_rfl)
  obtain ⟨j6, hj6⟩ := info_some (e := 61) (by kernel_rfl)
  obtain ⟨i18, hi18⟩ := info_some (e := 60) (by kernel_rfl)
  obtain ⟨j18, hj18⟩ := info_some (e := 62) (by kernel_rfl)
  obtain ⟨b3, hb3⟩ := info_some (e := 63) (by kernel_rfl)
  obtain ⟨n3, hn3⟩ := info_some (e := 64) (by kernel_rfl)
  have hE : (Op.eqFields 9999 (toldL t).toArray (toldL t).toArray (Tryz.prog.fieldsOf TT).toList).run Tryz.prog w = .ok true w := by
    refine fields_self 9999 _ w _ (fun f hf => ?_)
    simp only [Program.fieldsOf, Tryz.underlying66, List.mem_cons, List.not_mem_nil, or_false] at hf
    rcases hf with rfl | rfl | rfl | rfl
    all_goals dsimp only
    · refine ⟨_, part_arr Tryz.underlying60 hi18 _ _ w, ?_⟩
      refine arr_self 60 59 3 i6 Tryz.underlying60 hi6 9998 _ w (fun j hj => ⟨_, part_arr Tryz.underlying59 hi6 _ _ w, ?_⟩)
      refine arr_self 59 9 6 is Tryz.underlying59 his 9997 _ w (fun q hq => ?_)
      refine ⟨.string (bstr (t.dat j q)), part_str Tryz.underlying9 ?_ w, ?_⟩
      · rw [k1, k4, k6, Nat.mul_one, ex_get _ _ 6 q hq (by rw [ex_size _ _ _ (by rw [told_size]; omega)]; omega), ex_get _ _ 18 _ (by omega) (by rw [told_size]; omega), Nat.zero_add, told_get t _ (by omega), cellT_dat t j q hj hq]
      · rw [run_equalIn_string w 9996 _ _ _ Tryz.underlying9]; simp
    · refine ⟨_, part_arr Tryz.underlying62 hj18 _ _ w, ?_⟩
      refine arr_self 62 61 3 j6 Tryz.underlying62 hj6 9998 _ w (fun j hj => ⟨_, part_arr Tryz.underlying61 hj6 _ _ w, ?_⟩)
      refine arr_self 61 4 6 ib Tryz.underlying61 hib 9997 _ w (fun q hq => ?_)
      refine ⟨.bool (t.there j q), part_bool Tryz.underlying4 ?_ w, ?_⟩
      · rw [k2, k5, k7, Nat.mul_one, ex_get _ _ 6 q hq (by rw [ex_size _ _ _ (by rw [told_size]; omega)]; omega), ex_get _ _ 18 _ (by omega) (by rw [told_size]; omega), told_get t _ (by omega), ← Nat.add_assoc, cellT_there t j q hj hq]
      · rw [run_equalIn_bool w 9996 _ _ _ Tryz.underlying4]; simp
    · refine ⟨_, part_arr Tryz.underlying63 hb3 _ _ w, ?_⟩
      refine arr_self 63 4 3 ib Tryz.underlying63 hib 9998 _ w (fun q hq => ?_)
      refine ⟨.bool (t.sealed q), part_bool Tryz.underlying4 ?_ w, ?_⟩
      · rw [k2, k8, Nat.mul_one, ex_get _ _ 3 q hq (by rw [told_size]; omega), told_get t _ (by omega), cellT_sealed t q hq]
      · rw [run_equalIn_bool w 9997 _ _ _ Tryz.underlying4]; simp
    · refine ⟨_, part_arr Tryz.underlying64 hn3 _ _ w, ?_⟩
      refine arr_self 64 3 3 ii Tryz.underlying64 hii 9998 _ w (fun q hq => ?_)
      refine ⟨.int .i64 ((t.trim q : Nat) : Int), part_int Tryz.underlying3 ?_ w, ?_⟩
      · rw [k3, k9, Nat.mul_one, ex_get _ _ 3 q hq (by rw [told_size]; omega), told_get t _ (by omega), cellT_trim t q]
      · rw [run_equalIn_int w 9997 _ .i64 _ _ _ Tryz.underlying3]; simp
  rw [run_neq_struct, show (10000 : Nat) = 9999 + 1 from rfl, run_equalIn_struct _ _ _ _ _ told_fields told_held, hE]
  rfl
section
variable {ops : Array Oper} {rest : List Oper} {o : Oper} {a : Act} {w : World} {Q : Exit → Act → World → Prop}
theorem neq_wideG (hw : Region.wanted o (yielded ops a.tmps) = true) (x y : Operand) (ho : o.op = .binOp .neq TT x y TT) (t : Tld) (hx : a.eval x = .agg (toldL t).toArray) (hy : a.eval y = .agg (toldL t).toArray)
    (h : wpList Tryz.prog ops Q rest (a.put o.dst (.bool false)) w) : wpList Tryz.prog ops Q (o :: rest) a w := by
  refine wpList_want hw fun K hK => ?_
  unfold Oper.wp execOp
  simp only [ho, hx, hy, Sem.run_bind, Sem.run_pure, told_same, run_eqGuard_agg w .neq TT x y _ _ told_guard, Result.andThen_ok]
  exact hK _ _ h
end
end Go.Proofs.YtikomnbhmmjfnaaGreat
