/- A table of package producer in memory. Steps of a drawn region that load or store a state. -/
import Derived.Test.YtdifchlbnilenaaGreatPDec
import Derived.Test.YtdifchlbnilenaaGreatMapF
import Derived.Deep.RegionHeld3
namespace Go.Proofs.YtdifchlbnilenaaGreat
open Go.RowKit Go.Shelf
variable {w w' : World} {t M n : Nat} {T : Tb}

abbrev TTb : TypeId := 164
abbrev TMp : TypeId := 162
theorem keyI : Maps.Keyed Tryz.prog 3 := Maps.int_keyed Tryz.underlying3
def kZ (p : Int) : Lit := .int .i64 p
theorem keyOf_z {p : Int} (h1 : -9223372036854775808 ≤ p) (h2 : p ≤ 9223372036854775807) : keyOf Tryz.prog 3 (.int .i64 p) = some (kZ p) :=
  Maps.keyOf_int_mk Tryz.underlying3 (by have e1 : IntKind.i64.min = -9223372036854775808 := rfl; have e2 : IntKind.i64.max = 9223372036854775807 := rfl; simp [Lit.wf, e1, e2]; omega)
theorem kZ_inj {p q : Int} (h : kZ p = kZ q) : p = q := by unfold kZ at h; injection h
/-- The table as its map's function. -/
def tbF (T : Tb) : Lit → Option Value
  | .int .i64 p => (T p).map psV
  | _ => none
theorem tbF_set (T : Tb) (p : Int) (s : PSt) : ∀ kl, updF (tbF T) (kZ p) (some (psV s)) kl = tbF (T.set p s) kl := by
  intro kl
  by_cases h : kl = kZ p
  · subst h; rw [updF_same]; simp [tbF, kZ, Tb.set]
  · rw [updF_other _ h]
    unfold tbF
    split
    · rename_i q
      have hq : q ≠ p := fun e => h (by rw [e]; rfl)
      simp [Tb.set, hq]
    · rfl
/-- .. without one of them. -/
def Tb.del (T : Tb) (p : Int) : Tb := fun q => if q = p then none else T q
theorem tbF_del (T : Tb) (p : Int) : ∀ kl, updF (tbF T) (kZ p) none kl = tbF (T.del p) kl := by
  intro kl
  by_cases h : kl = kZ p
  · subst h; rw [updF_same]; simp [tbF, kZ, Tb.del]
  · rw [updF_other _ h]
    unfold tbF
    split
    · rename_i q
      have hq : q ≠ p := fun e => h (by rw [e]; rfl)
      simp [Tb.del, hq]
    · rfl
/-- In w the block t is a table; its map lies at M, n bounds its size. -/
structure TPic (w : World) (t M n : Nat) (T : Tb) : Prop where
  box : Blk w t #[.map (some M)] TTb
  map : MapF w 3 M n (tbF T)
  ok : ∀ p s, T p = some s → s.ok
theorem TPic.get_ok (h : TPic w t M n T) (p : Int) : (T.get p).ok := by
  unfold Tb.get
  cases hT : T p with
  | none => exact ps0_ok
  | some s => exact h.ok p s hT
theorem TPic.lt (h : TPic w t M n T) : t < w.heap.size ∧ M < w.heap.size := ⟨h.box.lt, h.map.lt⟩
theorem TPic.ne (h : TPic w t M n T) : t ≠ M := by
  rintro rfl
  obtain ⟨es, c, hm⟩ := h.map.isMap
  have := h.box
  unfold Blk at this
  rw [this] at hm; cases hm
theorem TPic.chg {F : List Nat} (h : TPic w t M n T) (hc : Chg F w w') (ht : t ∉ F) (hM : M ∉ F) : TPic w' t M n T := ⟨h.box.chg hc ht, h.map.keep (hc.block M h.map.lt hM), h.ok⟩
theorem TPic.later (h : TPic w t M n T) (hb : Below w.heap.size w w') : TPic w' t M n T := ⟨h.box.later hb, h.map.keep (hb.block M h.map.lt), h.ok⟩
theorem TPic.made (h : TPic w t M n T) : w.cell? ⟨t, 0, none⟩ = some (.map (some M)) := h.box.cell 0
theorem zeroS (w : World) : (zeroValue TSt).run Tryz.prog w = .ok (.agg (psL ps0).toArray) w := Tryz.zeroValue210 w
theorem TPic.look (h : TPic w t M n T) {p : Int} (h1 : -9223372036854775808 ≤ p) (h2 : p ≤ 9223372036854775807) : (Instr.lookup TMp (.map (some M)) (.int .i64 p) false).run Tryz.prog w = .ok (.agg (psL (T.get p)).toArray) w := by
  rw [h.map.look keyI Tryz.underlying162 (zeroS w) (keyOf_z h1 h2)]
  congr 1
  show ((T p).map psV).getD _ = _
  unfold Tb.get
  cases T p <;> rfl
theorem sizeSt (s : PSt) : (Tryz.prog.info? 210).map (·.size) = some (psL s).length := by
  show _ = some 19
  kernel_rfl
theorem psL_one (s : PSt) : ∀ v ∈ psL s, v.oneCell' = true := by
  intro v hv
  simp only [psL, List.mem_cons, List.not_mem_nil, or_false] at hv
  rcases hv with h | h | h | h | h | h | h | h | h | h | h | h | h | h | h | h | h | h | h
  all_goals (subst h; rfl)
theorem box_cells {B : Nat} {s : PSt} (h : SBox w B s) : ∀ j, j < (psL s).length → w.cell? ⟨B, 0 + j, none⟩ = (psL s)[j]? := fun j _ => by rw [Nat.zero_add, Blk.cell h j, List.getElem?_toArray]
/-- A state is loaded, whatever the region's order. -/
theorem exec_load {a : Act} {o : Oper} {B : Nat} {s : PSt} (x : Operand) (ho : o.op = .load TSt x) (hx : a.eval x = .pointer (some ⟨B, 0, none⟩)) (h : SBox w B s) : (execOp a.eval o).run Tryz.prog w = .ok (.value (.agg (psL s).toArray)) w := by
  unfold execOp
  simp only [ho, hx, Instr.loadAt, Instr.sureAddr, Sem.run_bind, Sem.run_pure, Result.andThen_ok, run_loadVar_cells w TSt _ Tryz.underlying210 rfl (psL s) (sizeSt s) B 0 (box_cells h)]
/-- A state is stored in a box. -/
theorem step_store {ops : Array Oper} {o : Oper} {a : Act} {K : Act → World → Prop} {Q : Exit → Act → World → Prop} {E : Prop} {g : Nat} {cur : Array Value} (s : PSt) (hgd : o.guard = none) (x y : Operand) (ho : o.op = .store TSt x y) (hx : a.eval x = .pointer (some ⟨g, 0, none⟩)) (hy : a.eval y = .agg (psL s).toArray)
    (hg : w.heap[g]? = some (.cells cur TSt (0, 0))) (hfit : cur.size = 19) (h : ∀ w', SBox w' g s → Chg [g] w w' → K (a.put o.dst undef) w') : if Region.wanted o (yielded ops a.tmps) = true then Oper.wp Tryz.prog o a w K Q else E := by
  have hw : Region.wanted o (yielded ops a.tmps) = true := by simp [Region.wanted, hgd]
  rw [if_pos hw]
  unfold Oper.wp execOp
  simp only [ho, hx, hy, Instr.storeAt, Instr.sureAddr, Sem.run_bind, Sem.run_pure, Result.andThen_ok, run_storeVar_cells w TSt (psL s) (sizeSt s) g 0 TSt cur hg (by show 0 + 19 ≤ _; omega) (psL_one s)]
  have e : (cur.toList.take 0 ++ psL s ++ cur.toList.drop (0 + (psL s).length)) = psL s := by rw [List.drop_of_length_le (by show cur.toList.length ≤ 0 + 19; simp; omega)]; simp
  rw [e]
  refine h _ (setRow_heap _ _ _ _ _ _ hg) ⟨rfl, rfl, rfl, by simp [World.setRow], fun k _ hn => setRow_other w g k _ (by intro e; exact hn (by simp [e]))⟩
/-- .. in a region that is walked in its own order. -/
theorem store_box {ops : Array Oper} {rest : List Oper} {o : Oper} {a : Act} {Q : Exit → Act → World → Prop} {g : Nat} {cur : Array Value} (s : PSt) (hgd : o.guard = none) (x y : Operand) (ho : o.op = .store TSt x y) (hx : a.eval x = .pointer (some ⟨g, 0, none⟩)) (hy : a.eval y = .agg (psL s).toArray)
    (hg : w.heap[g]? = some (.cells cur TSt (0, 0))) (hfit : cur.size = 19) (h : ∀ w', SBox w' g s → Chg [g] w w' → wpList Tryz.prog ops Q rest (a.put o.dst undef) w') : wpList Tryz.prog ops Q (o :: rest) a w := by
  refine store_wide hgd TSt x y ho (psL s) (sizeSt s) g 0 hx hy TSt cur hg (by show 0 + 19 ≤ _; omega) (psL_one s) ?_
  have e : (cur.toList.take 0 ++ psL s ++ cur.toList.drop (0 + (psL s).length)) = psL s := by rw [List.drop_of_length_le (by show cur.toList.length ≤ 0 + 19; simp; omega)]; simp
  rw [e]
  refine h _ (setRow_heap _ _ _ _ _ _ hg) ⟨rfl, rfl, rfl, by simp [World.setRow], fun k _ hn => setRow_other w g k _ (by intro e; exact hn (by simp [e]))⟩
end Go.Proofs.YtdifchlbnilenaaGreat
