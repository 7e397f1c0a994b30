/- What Write hands on, piece by piece: the steps of a region that draws its order, the world behind append and the map's update. -/
import Derived.Test.YtofpojfkooigiaaAppVer
import Derived.Deep.RegionLaw
import Derived.Deep.RegionHeld
namespace Go.Proofs.Ytofpojfkooigiaa
open Go.RowKit
variable {w w' : World} {F : List Nat} {D B M : Nat} {Dm : DataW Value} {V C : Nat → Nat} {s : DSt}

/-- 'copy(text[:], b)', as one step of a region that draws its order. -/
theorem step_copy {ops : Array Oper} {o : Oper} {a : Act} {K : Act → World → Prop} {Q : Exit → Act → World → Prop} {E : Prop} (hgd : o.guard = none) (d x : Operand)
    (ho : o.op = .call { callee := .builtin .copy, args := #[d, x], argTypes := #[32, 32] }) (g cap : Nat) (ad : Option Addr) (l : List Nat)
    (hd : a.eval d = .slice (some ⟨g, 0, none⟩) 256 256) (hs : a.eval x = .slice ad 256 cap) (hp : Part.ok w ⟨ad, 256, cap, l⟩) (cur : Array Value) (t : TypeId) (hg : w.heap[g]? = some (.cells cur t (0, 0))) (hsz : cur.size = 256)
    (N : Nat) (w0 : World) (hb : Below N w0 w) (hN : N ≤ g)
    (h : ∀ w2, w2.heap[g]? = some (.cells (verV l).toArray t (0, 0)) → Below N w0 w2 → K (a.put o.dst (.int .i64 256)) w2) :
    if Region.wanted o (yielded ops a.tmps) = true then Oper.wp Try.prog o a w K Q else E := by
  have hw : Region.wanted o (yielded ops a.tmps) = true := by simp [Region.wanted, hgd]
  rw [if_pos hw]
  have hl : l.length = 256 := hp.1
  cases ad with
  | none => have := hp.2.1 rfl; simp at this
  | some ad =>
    obtain ⟨i0, hi, hz0, hz1, hz2⟩ := info_parts Try.info5
    have hrun := run_copy_row (P := Try.prog) w 32 32 o.type 5 g 0 256 256 ad 256 cap cur t (verV l) Try.underlying32 (by rw [hi]; simp [hz1]) hg (by unfold verV; rw [List.length_map, hl]; rfl) (row_cells hp.2.2 ad rfl) (by unfold verV; rw [List.length_map, hl]; omega) (verV_one l)
    have e : (cur.toList.take 0 ++ verV l ++ cur.toList.drop (0 + (verV l).length)) = verV l := by
      rw [List.drop_of_length_le (by unfold verV; simp; omega)]; simp
    have e2 : (verV l).length = 256 := by unfold verV; rw [List.length_map, hl]
    rw [e, e2] at hrun
    unfold Oper.wp
    simp [execOp, ho, resolve, invoke, builtin, hd, hs, hrun, Result.andThen]
    exact h _ (setRow_heap w g cur _ t _ hg) ⟨hb.os, hb.tape, hb.output, by rw [setRow_size]; exact hb.size, fun k hk => by rw [setRow_other w g k _ (by omega)]; exact hb.block k hk⟩
theorem takeH {ops : Array Oper} {Q : Exit → Act → World → Prop} {S : World → Prop} {fuel : Nat} {listed : Array Bool} {a : Act} {md : Region.Mode} (i : Nat) (v : Value) (a' : Act) {oi : Oper} (hi : ops[i]? = some oi) (ha : a.put oi.dst v = a') (hs : Region.noSelect ops = true) (hf : Region.free md ops listed i = true) (hr : (Region.ready md ops listed).contains i = true)
    (hQ : ∀ c a w, Q (.panic c) (a.put oi.dst v) w → Q (.panic c) a w) (hg : oi.guard = none) (hy : ∀ w, S w → (execOp a.eval oi).run Try.prog w = .ok (.value v) w) (hS : S w)
    (h : wpAnyH Try.prog md ops Q S fuel (listed.setIfInBounds i true) a' w) : wpAnyH Try.prog md ops Q S (fuel + 1) listed a w := by
  subst ha
  exact wpAnyH_take hi hs hf hr hQ (Or.inl ⟨by simp [Region.wanted, hg], hy⟩) hS h
theorem wp_value {o : Oper} {a : Act} {K : Act → World → Prop} {Q : Exit → Act → World → Prop} {v : Value} (h : (execOp a.eval o).run Try.prog w = .ok (.value v) w') (hK : K (a.put o.dst v) w') : Oper.wp Try.prog o a w K Q := by
  unfold Oper.wp
  rw [h]
  exact hK
/-- One of those that may come up is carried out. -/
theorem stepH {ops : Array Oper} {Q : Exit → Act → World → Prop} {S : World → Prop} {fuel : Nat} {listed : Array Bool} {a : Act} {md : Region.Mode} {rs : List Nat} {i : Nat} {o : Oper} (v : Value) (w' : World) (a' : Act) (ho : ops[i]? = some o) (ha : a.put o.dst v = a') (hg : o.guard = none) (hr : (execOp a.eval o).run Try.prog w = .ok (.value v) w') (hS : S w')
    (h : wpAnyH Try.prog md ops Q S fuel (listed.setIfInBounds i true) a' w') (hs : AllReadyH Try.prog md ops Q S fuel listed a w rs) : AllReadyH Try.prog md ops Q S fuel listed a w (i :: rs) := by
  subst ha
  exact AllReadyH.cons ho (fun K' hK => by
    rw [if_pos (by simp [Region.wanted, hg])]
    exact wp_value hr (hK.out _ _ hS (fun _ => h))) hs
theorem stepSkipH {ops : Array Oper} {Q : Exit → Act → World → Prop} {S : World → Prop} {fuel : Nat} {listed : Array Bool} {a : Act} {md : Region.Mode} {rs : List Nat} {i : Nat} {o : Oper} (w' : World) (a' : Act) (ho : ops[i]? = some o) (ha : a.put o.dst undef = a') (hg : o.guard = none) (hr : (execOp a.eval o).run Try.prog w = .ok .skip w') (hS : S w')
    (h : wpAnyH Try.prog md ops Q S fuel (listed.setIfInBounds i true) a' w') (hs : AllReadyH Try.prog md ops Q S fuel listed a w rs) : AllReadyH Try.prog md ops Q S fuel listed a w (i :: rs) := by
  subst ha
  exact AllReadyH.cons ho (fun K' hK => by
    rw [if_pos (by simp [Region.wanted, hg])]
    unfold Oper.wp
    rw [hr]
    exact hK.out _ _ hS (fun _ => h)) hs
theorem exec_lookup {o : Oper} {ev : Operand → Value} (x y : Operand) (ho : o.op = .lookup 45 x y false) (u k v : Value) (hx : ev x = u) (hy : ev y = k) (hr : (Instr.lookup 45 u k false).run Try.prog w = .ok v w) : (execOp ev o).run Try.prog w = .ok (.value v) w := by
  simp [execOp, ho, hx, hy, hr, Result.andThen]
theorem exec_buildSlice {o : Oper} {ev : Operand → Value} (x : Operand) (ho : o.op = .buildSlice 76 1 #[(0, x)]) (l : List Value) (hl : l.length = 256) (hx : ev x = .agg l.toArray) : (execOp ev o).run Try.prog w = .ok (.value (.slice (some ⟨w.heap.size, 0, none⟩) 1 1)) (w.alloc (.cells l.toArray TB)) := by
  have h := run_buildSliceB w l hl
  simp [execOp, ho, hx, h, Result.andThen]
theorem exec_append {o : Oper} {ev : Operand → Value} (x y : Operand) (ho : o.op = .call { callee := .builtin .append, args := #[x, y], argTypes := #[76, 76] }) (u v r : Value) (hx : ev x = u) (hy : ev y = v) (hr : (Builtin.append_ #[76, 76] o.type #[u, v]).run Try.prog w = .ok r w') : (execOp ev o).run Try.prog w = .ok (.value r) w' := by
  simp [execOp, ho, resolve, invoke, builtin, hx, hy, hr, Result.andThen]
theorem exec_update {o : Oper} {ev : Operand → Value} (x y z : Operand) (ho : o.op = .mapUpdate 45 x y z) (m k v : Value) (hx : ev x = m) (hy : ev y = k) (hz : ev z = v) (hr : (Instr.mapUpdate 45 m k v).run Try.prog w = .ok () w') : (execOp ev o).run Try.prog w = .ok .skip w' := by
  simp [execOp, ho, hx, hy, hz, hr, Result.andThen]
theorem exec_load_wide {o : Oper} {ev : Operand → Value} (ty : TypeId) (x : Operand) (ho : o.op = .load ty x) (d : TypeDesc) (hu : Try.prog.underlying ty = some d) (hd : isWide d = true) (l : List Value) (hi : (Try.prog.info? ty).map (·.size) = some l.length) (g off : Nat) (hx : ev x = .pointer (some ⟨g, off, none⟩)) (hc : ∀ j, j < l.length → w.cell? ⟨g, off + j, none⟩ = l[j]?) :
    (execOp ev o).run Try.prog w = .ok (.value (.agg l.toArray)) w := by
  unfold execOp
  simp only [ho, hx, Instr.loadAt, Instr.sureAddr, Sem.run_bind, Sem.run_pure, Result.andThen_ok, run_loadVar_cells w ty d hu hd l hi g off hc]
/-- What a call does with a disk: the blocks that it may change are its own ones; those that it has then are of those, or new. -/
structure Moved (Dk : World → List Nat → Nat → DSt → Prop) (F : List Nat) (D : Nat) (s : DSt) (w w' : World) : Prop where
  disk : ∃ F', Dk w' F' D s ∧ ∀ g ∈ F', g ∈ F ∨ w.heap.size ≤ g
  chg : Chg F w w'
theorem ownBlock_verN {i k : Nat} (h : (verN V C s i).ownBlock = some k) : (s.at i).vs ≠ [] ∧ k = V i := by
  unfold verN at h
  split at h
  · cases h
  · rename_i hv
    unfold verS at h
    simp [Value.ownBlock] at h
    exact ⟨hv, h.symm⟩
theorem write_key (h : Pic w F D B M Dm V C s) {i : Nat} (hi : i < s.bs.length) (l : List Nat) (hl : l.length = 256 ∧ ∀ y ∈ l, y < 256) {w2 : World} (b2 : Below w.heap.size w w2) (hfew : (s.at i).vs.length ≤ 1073741824) :
    ∃ g c w4 w5, (Builtin.append_ #[76, 76] 76 #[verN V C s i, .slice (some ⟨w2.drew.heap.size, 0, none⟩) 1 1]).run Try.prog (w2.drew.alloc (.cells (verV l).toArray TB)) = .ok (.slice (some ⟨g, 0, none⟩) ((s.at i).vs.length + 1) c) w4 ∧
      (Instr.mapUpdate 45 (.map (some M)) (.int .i64 (i : Int)) (.slice (some ⟨g, 0, none⟩) ((s.at i).vs.length + 1) c)).run Try.prog w4 = .ok () w5 ∧
      Moved Dk F D (s.setB i ((s.at i).add l)) w w5 ∧ (∀ k, k < w2.heap.size → k ∉ F → w4.heap[k]? = w2.heap[k]?) ∧ (∀ k, k < w2.heap.size → k ≠ M → k ∉ F ∨ k = D → w5.heap[k]? = w2.heap[k]?) ∧ w4.heap[D]? = w2.heap[D]? := by
  have h256 : (verV l).length = 256 := by unfold verV; rw [List.length_map]; exact hl.1
  have h2 := h.below b2
  have b23 : Below w2.heap.size w2 (w2.drew.alloc (.cells (verV l).toArray TB)) := ((Below.refl w2.heap.size w2).drew).alloc (Nat.le_refl _) _
  have h3 := h2.below b23
  have hn := h.n2
  obtain ⟨g, c, w4, ha, hg, hrow, hgr⟩ := run_app_ver (h3.rowN hi) 76 w2.drew.heap.size (verV l) h256 (heap_alloc_last _ _) (verV_one l) hfew
  have hsz3 : (w2.drew.alloc (.cells (verV l).toArray TB)).heap.size = w2.heap.size + 1 := by simp
  have hM4 : w4.ownsMap Try.prog 3 RV M (Maps.size Dm) Dm := ownsMap_kept h3.hM (hgr.block M (h3.lt M h3.mM) (fun e => by have := ownBlock_verN e.symm; exact (h.neV hi this.1).2.2 this.2.symm))
  have hlt : Maps.size Dm < maxLen := by
    have := h.size
    have := dirtyBs_le s.bs
    unfold dirtyD at *
    unfold maxLen
    omega
  obtain ⟨w5, hu, hM5, hmt⟩ := hM4.store (t := 45) (e := 76) keyI Try.underlying45 hlt (keyOf_i (i := i) (by omega)) (val := .slice (some ⟨g, 0, none⟩) ((s.at i).vs.length + 1) c) (d := .held (.slice (some ⟨g, 0, none⟩) ((s.at i).vs.length + 1) c)) (ps := []) rfl
  have hg5 := hmt.grown
  have hs25 : w2.heap.size ≤ w5.heap.size := by have := hgr.size; have := hg5.size; omega
  have hown : ∀ k, some k = (verN V C s i).ownBlock → k ∈ F := fun k e => by have := ownBlock_verN e.symm; rw [this.2]; exact h.mV i hi this.1
  have hk4 : ∀ k, k < w2.heap.size → some k ≠ (verN V C s i).ownBlock → w4.heap[k]? = w2.heap[k]? := fun k hk hne => (hgr.block k (by omega) hne).trans (b23.block k hk)
  have hk5 : ∀ k, k < w2.heap.size → k ≠ M → some k ≠ (verN V C s i).ownBlock → w5.heap[k]? = w2.heap[k]? := fun k hk hne hne2 => (hg5.block k (by have := hgr.size; omega) (fun e => hne (by cases e; rfl))).trans (hk4 k hk hne2)
  have hD : some D ≠ (verN V C s i).ownBlock := fun e => by have := ownBlock_verN e.symm; exact (h.neV hi this.1).1 this.2.symm
  have hsz := b2.size
  refine ⟨g, c, w4, w5, ha, hu, ⟨⟨g :: F, ⟨B, M, _, _, _, h2.add (nn := Maps.size Dm + 1) hi l hl g c hs25 ?_ ?_ ?_ ?_ ?_⟩, ?_⟩, ?_⟩, ?_, ?_, ?_⟩
  · intro k hk hne hne2
    exact hk5 k hk hne (fun e => by have := ownBlock_verN e.symm; exact hne2 this.1 this.2)
  · rcases hg with hg | hg
    · exact Or.inl (ownBlock_verN hg)
    · exact Or.inr (by omega)
  · rcases hrow.2 with ⟨e, _⟩ | ⟨g', cap', cur, e, _, r2, _⟩
    · cases e
    · cases e
      have := (Array.getElem?_eq_some_iff.1 r2).1
      have := hg5.size
      omega
  · refine ownsRow_kept hrow (hg5.block g ?_ (fun e => ?_))
    · rcases hrow.2 with ⟨e, _⟩ | ⟨g', cap', cur, e, _, r2, _⟩
      · cases e
      · cases e
        exact (Array.getElem?_eq_some_iff.1 r2).1
    · cases e
      rcases hrow.2 with ⟨e, _⟩ | ⟨g', cap', cur, e, _, r2, _⟩
      · cases e
      · cases e
        obtain ⟨es, clock, hb, _⟩ := hM4
        rw [hb] at r2
        cases r2
  · exact hM5
  · intro k hk
    rcases List.mem_cons.1 hk with rfl | hk
    · rcases hg with hg | hg
      · exact Or.inl (hown k hg.symm)
      · exact Or.inr (by omega)
    · exact Or.inl hk
  · refine ⟨hg5.os.trans (hgr.os.trans (b23.os.trans b2.os)), hg5.tape.trans (hgr.tape.trans (b23.tape.trans b2.tape)), hg5.output.trans (hgr.output.trans (b23.output.trans b2.output)), by omega, fun k hk hn2 => ?_⟩
    exact (hk5 k (by omega) (fun e => hn2 (by rw [e]; exact h.mM)) (fun e => hn2 (hown k e))).trans (b2.block k hk)
  · exact fun k hk hn2 => hk4 k hk (fun e => hn2 (hown k e))
  · rintro k hk hne (hn2 | rfl)
    · exact hk5 k hk hne (fun e => hn2 (hown k e))
    · exact hk5 k hk hne hD
  · exact hk4 D (by have := h2.ltD; omega) hD
end Go.Proofs.Ytofpojfkooigiaa
