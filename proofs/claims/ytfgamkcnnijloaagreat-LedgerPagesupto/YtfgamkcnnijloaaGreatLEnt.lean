/- Own, inTxn and num of the statements of layer 13 (by genlent.py). -/
import Derived.Test.YtfgamkcnnijloaaGreatTk
import Derived.Test.YtfgamkcnnijloaaGreatPZRec
import Derived.Test.YtfgamkcnnijloaaGreatPZTk
import Derived.Test.YtfgamkcnnijloaaGreatPZSm
import Derived.Deep.RegionHeld3
import Derived.OrdersHeld
namespace Go.Proofs.YtfgamkcnnijloaaGreat
open Go.RowKit Go.Shelf
variable {w w' : World}

abbrev TEt : TypeId := 32
def etL (kd nn k p e q : Int) (tx : Bool) (ad : Option Addr) (len cap : Nat) : List Value := [.int .i64 kd, .int .i64 nn, .int .i64 k, .int .i64 p, .int .i64 e, .int .i64 q, .bool tx, .slice ad len cap]
theorem etL_one (kd nn k p e q : Int) (tx : Bool) (ad : Option Addr) (len cap : Nat) : ∀ v ∈ etL kd nn k p e q tx ad len cap, v.oneCell' = true := by
  intro v hv
  simp only [etL, List.mem_cons, List.not_mem_nil, or_false] at hv
  rcases hv with h | h | h | h | h | h | h | h
  all_goals (subst h; rfl)
theorem etL_size (kd nn k p e q : Int) (tx : Bool) (ad : Option Addr) (len cap : Nat) : (Tryz.prog.info? TEt).map (·.size) = some (etL kd nn k p e q tx ad len cap).length := by
  show _ = some 8
  kernel_rfl
theorem step_store_ent {ops : Array Oper} {o : Oper} {a : Act} {K : Act → World → Prop} {Q : Exit → Act → World → Prop} {E : Prop} {g : Nat} {cur : Array Value} (kd nn k p e q : Int) (tx : Bool) (ad : Option Addr) (len cap : Nat) (hgd : o.guard = none) (x y : Operand) (ho : o.op = .store TEt x y) (hx : a.eval x = .pointer (some ⟨g, 0, none⟩)) (hy : a.eval y = .agg #[.int .i64 kd, .int .i64 nn, .int .i64 k, .int .i64 p, .int .i64 e, .int .i64 q, .bool tx, .slice ad len cap])
    (hg : w.heap[g]? = some (.cells cur TEt (0, 0))) (hfit : cur.size = 8) (h : ∀ w', Blk w' g #[.int .i64 kd, .int .i64 nn, .int .i64 k, .int .i64 p, .int .i64 e, .int .i64 q, .bool tx, .slice ad len cap] TEt → Chg [g] w w' → K (a.put o.dst undef) w') : if Region.wanted o (yielded ops a.tmps) = true then Oper.wp Tryz.prog o a w K Q else E := by
  have hw : Region.wanted o (yielded ops a.tmps) = true := by simp [Region.wanted, hgd]
  rw [if_pos hw]
  have hy' : a.eval y = .agg (etL kd nn k p e q tx ad len cap).toArray := hy
  unfold Oper.wp execOp
  simp only [ho, hx, hy', Instr.storeAt, Instr.sureAddr, Sem.run_bind, Sem.run_pure, Result.andThen_ok, run_storeVar_cells w TEt (etL kd nn k p e q tx ad len cap) (etL_size kd nn k p e q tx ad len cap) g 0 TEt cur hg (by show 0 + 8 ≤ _; omega) (etL_one kd nn k p e q tx ad len cap)]
  have e2 : (cur.toList.take 0 ++ etL kd nn k p e q tx ad len cap ++ cur.toList.drop (0 + (etL kd nn k p e q tx ad len cap).length)) = etL kd nn k p e q tx ad len cap := by rw [List.drop_of_length_le (by show cur.toList.length ≤ 0 + 8; simp; omega)]; simp
  rw [e2]
  refine h _ (setRow_heap _ _ _ _ _ _ hg) ⟨rfl, rfl, rfl, by simp [World.setRow], fun k _ hn => setRow_other w g k _ (by intro e; exact hn (by simp [e]))⟩
theorem store_ent {ops : Array Oper} {rest : List Oper} {o : Oper} {a : Act} {Q : Exit → Act → World → Prop} {g : Nat} {cur : Array Value} (kd nn k p e q : Int) (tx : Bool) (ad : Option Addr) (len cap : Nat) (hgd : o.guard = none) (x y : Operand) (ho : o.op = .store TEt x y) (hx : a.eval x = .pointer (some ⟨g, 0, none⟩)) (hy : a.eval y = .agg #[.int .i64 kd, .int .i64 nn, .int .i64 k, .int .i64 p, .int .i64 e, .int .i64 q, .bool tx, .slice ad len cap])
    (hg : w.heap[g]? = some (.cells cur TEt (0, 0))) (hfit : cur.size = 8) (h : ∀ w', Blk w' g #[.int .i64 kd, .int .i64 nn, .int .i64 k, .int .i64 p, .int .i64 e, .int .i64 q, .bool tx, .slice ad len cap] TEt → Chg [g] w w' → wpList Tryz.prog ops Q rest (a.put o.dst undef) w') : wpList Tryz.prog ops Q (o :: rest) a w := by
  have hy' : a.eval y = .agg (etL kd nn k p e q tx ad len cap).toArray := hy
  refine store_wide hgd TEt x y ho (etL kd nn k p e q tx ad len cap) (etL_size kd nn k p e q tx ad len cap) g 0 hx hy' TEt cur hg (by show 0 + 8 ≤ _; omega) (etL_one kd nn k p e q tx ad len cap) ?_
  have e2 : (cur.toList.take 0 ++ etL kd nn k p e q tx ad len cap ++ cur.toList.drop (0 + (etL kd nn k p e q tx ad len cap).length)) = etL kd nn k p e q tx ad len cap := by rw [List.drop_of_length_le (by show cur.toList.length ≤ 0 + 8; simp; omega)]; simp
  rw [e2]
  refine h _ (setRow_heap _ _ _ _ _ _ hg) ⟨rfl, rfl, rfl, by simp [World.setRow], fun k _ hn => setRow_other w g k _ (by intro e; exact hn (by simp [e]))⟩
theorem build_ent (kd nn k p e q : Int) (tx : Bool) (ad : Option Addr) (len cap : Nat) (W : World) : (Instr.build TEt #[(0, .int .i64 kd), (1, .int .i64 nn), (2, .agg #[.int .i64 k, .int .i64 p, .int .i64 e, .int .i64 q, .bool tx, .slice ad len cap])]).run Tryz.prog W = .ok (.agg #[.int .i64 kd, .int .i64 nn, .int .i64 k, .int .i64 p, .int .i64 e, .int .i64 q, .bool tx, .slice ad len cap]) W := by kernel_rfl
theorem exec_ent {a : Act} {o : Oper} {kd nn k p e q : Int} {tx : Bool} {ad : Option Addr} {len cap : Nat} (x1 x2 x3 : Operand) (ho : o.op = .build TEt #[(0, x1), (1, x2), (2, x3)]) (h1 : a.eval x1 = .int .i64 kd) (h2 : a.eval x2 = .int .i64 nn) (h3 : a.eval x3 = .agg #[.int .i64 k, .int .i64 p, .int .i64 e, .int .i64 q, .bool tx, .slice ad len cap]) : (execOp a.eval o).run Tryz.prog w = .ok (.value (.agg #[.int .i64 kd, .int .i64 nn, .int .i64 k, .int .i64 p, .int .i64 e, .int .i64 q, .bool tx, .slice ad len cap])) w := by
  unfold execOp
  simp only [ho, List.map_toArray, List.map_cons, List.map_nil, h1, h2, h3, build_ent, Sem.run_bind, Sem.run_pure, Result.andThen_ok]
theorem num13_any (n : Int) (w : World) : Calls Tryz.prog 13 #[.int .i64 n] w fun e w' => e = .returned (.int .i64 n) ∧ w' = w := by
  go_enter Tryz.func13, Tryz.ntmps13
  go_wp2
  go_ret
  exact ⟨rfl, rfl⟩
theorem ownR_block {base : Nat} {v : Value} {rs : List Rec} (h : OwnR w base v rs) : ∀ g, v.ownBlock = some g → base ≤ g := by
  intro g hg
  rcases h.2 with ⟨e, -⟩ | ⟨g', c', cur, e, hgb, -⟩
  · rw [e] at hg; cases hg
  · rw [e] at hg; cases hg; exact hgb
theorem OwnR.typ {base : Nat} {ad : Option Addr} {len cap : Nat} {rs : List Rec} (h : OwnR w base (.slice ad len cap) rs) : RTyp w ad len := fun hl => by
  rcases h.2 with ⟨e, -⟩ | ⟨g, c, cur, e, -, hg, -⟩
  · cases e; omega
  · cases e; exact ⟨g, 0, cur, rfl, hg⟩
theorem OwnR.barg {base : Nat} {ad : Option Addr} {len cap : Nat} {rs : List Rec} (h : OwnR w base (.slice ad len cap) rs) (hl : rs.length = len) (hs : ∀ r ∈ rs, r.key.size ≤ maxLen ∧ r.val.size ≤ maxLen) (k p e q : Int) (tx : Bool) : BArg w ⟨k, p, e, q, tx, rs⟩ ad len cap := by
  obtain ⟨a, c, hv, h1, h2, h3, h4⟩ := h.form
  rw [hl] at hv h1 h2
  cases hv
  exact ⟨hl, h1, h2, h3, h4, hs⟩
set_option maxRecDepth 20000 in
set_option maxHeartbeats 1000000 in
theorem own13_any (kd nn k p e q : Int) (tx : Bool) (rs : List Rec) (ad : Option Addr) (len cap : Nat) (w : World) (h : BArg w ⟨k, p, e, q, tx, rs⟩ ad len cap) (hm : len * 40 ≤ 140737488351232) : Calls Tryz.prog 9 #[.agg #[.int .i64 kd, .int .i64 nn, .int .i64 k, .int .i64 p, .int .i64 e, .int .i64 q, .bool tx, .slice ad len cap]] w fun r w' => ∃ ad' cap', r = .returned (.agg #[.int .i64 kd, .int .i64 nn, .int .i64 k, .int .i64 p, .int .i64 e, .int .i64 q, .bool tx, .slice ad' len cap']) ∧ BArg w' ⟨k, p, e, q, tx, rs⟩ ad' len cap' ∧ RTyp w' ad' len ∧ Below w.heap.size w w' := by
  obtain ⟨W1, hW1⟩ : ∃ W1, (w.alloc (.cells #[.int .i64 kd, .int .i64 nn, .int .i64 k, .int .i64 p, .int .i64 e, .int .i64 q, .bool tx, .slice ad len cap] 34)).alloc (.cells #[.int .i64 0, .int .i64 0, .int .i64 0, .int .i64 0, .int .i64 0, .int .i64 0, .bool false, .slice none 0 0] TEt) = W1 := ⟨_, rfl⟩
  have b1 : Below w.heap.size w W1 := by rw [← hW1]; exact ((Below.refl _ _).alloc (Nat.le_refl _) _).alloc (by simp) _
  have x1 : Blk W1 w.heap.size #[.int .i64 kd, .int .i64 nn, .int .i64 k, .int .i64 p, .int .i64 e, .int .i64 q, .bool tx, .slice ad len cap] 34 := by
    rw [← hW1]
    exact Blk.later (heap_alloc_new w _) ((Below.refl _ _).alloc (Nat.le_refl _) _)
  have z1 : Blk W1 (w.heap.size + 1) #[.int .i64 0, .int .i64 0, .int .i64 0, .int .i64 0, .int .i64 0, .int .i64 0, .bool false, .slice none 0 0] TEt := by
    have h := heap_alloc_new (w.alloc (.cells #[.int .i64 kd, .int .i64 nn, .int .i64 k, .int .i64 p, .int .i64 e, .int .i64 q, .bool tx, .slice ad len cap] 34)) (.cells #[.int .i64 0, .int .i64 0, .int .i64 0, .int .i64 0, .int .i64 0, .int .i64 0, .bool false, .slice none 0 0] TEt)
    rw [show (w.alloc (.cells #[.int .i64 kd, .int .i64 nn, .int .i64 k, .int .i64 p, .int .i64 e, .int .i64 q, .bool tx, .slice ad len cap] 34)).heap.size = w.heap.size + 1 by simp] at h
    rw [← hW1]
    exact h
  have HS : Hid (∀ W, Below W1.heap.size W1 W → (W.cell? ⟨w.heap.size, 0, none⟩ = some (.int .i64 kd)) ∧ (W.cell? ⟨w.heap.size, 1, none⟩ = some (.int .i64 nn)) ∧ (W.cell? ⟨w.heap.size, 2, none⟩ = some (.int .i64 k)) ∧ (W.cell? ⟨w.heap.size, 3, none⟩ = some (.int .i64 p)) ∧ (W.cell? ⟨w.heap.size, 4, none⟩ = some (.int .i64 e)) ∧ (W.cell? ⟨w.heap.size, 5, none⟩ = some (.int .i64 q)) ∧ (W.cell? ⟨w.heap.size, 6, none⟩ = some (.bool tx)) ∧ (W.cell? ⟨w.heap.size, 7, none⟩ = some (.slice ad len cap))) := fun W hW => by
    have hx := x1.later hW
    exact ⟨hx.cell 0, hx.cell 1, hx.cell 2, hx.cell 3, hx.cell 4, hx.cell 5, hx.cell 6, hx.cell 7⟩
  have HZ : Hid (∀ W, Below W1.heap.size W1 W → Blk W (w.heap.size + 1) #[.int .i64 0, .int .i64 0, .int .i64 0, .int .i64 0, .int .i64 0, .int .i64 0, .bool false, .slice none 0 0] TEt) := fun W hW => z1.later hW
  have HSc : Hid (∀ W2 W3, Below W1.heap.size W1 W2 → Chg [w.heap.size + 1] W2 W3 → (W3.cell? ⟨w.heap.size, 0, none⟩ = some (.int .i64 kd)) ∧ (W3.cell? ⟨w.heap.size, 1, none⟩ = some (.int .i64 nn)) ∧ (W3.cell? ⟨w.heap.size, 2, none⟩ = some (.int .i64 k)) ∧ (W3.cell? ⟨w.heap.size, 3, none⟩ = some (.int .i64 p)) ∧ (W3.cell? ⟨w.heap.size, 4, none⟩ = some (.int .i64 e)) ∧ (W3.cell? ⟨w.heap.size, 5, none⟩ = some (.int .i64 q)) ∧ (W3.cell? ⟨w.heap.size, 6, none⟩ = some (.bool tx)) ∧ (W3.cell? ⟨w.heap.size, 7, none⟩ = some (.slice ad len cap))) := fun W2 W3 hW hc => by
    have hx := (x1.later hW).chg hc (by simp)
    exact ⟨hx.cell 0, hx.cell 1, hx.cell 2, hx.cell 3, hx.cell 4, hx.cell 5, hx.cell 6, hx.cell 7⟩
  have HCo := hid (copied_own k p e q tx rs ad len cap W1.drew ((h.later b1).later (Below.refl _ W1).drew) hm)
  have HB1 := hid b1
  have HSz := hid h.size
  have HLe := hid h.len_eq
  have lz := z1.lt
  clear h b1 x1 z1
  go_enter Tryz.func9, Tryz.ntmps9
  go_wp2_with fail
  refine wp_region_held_drew (S := fun W => (W.cell? ⟨w.heap.size, 0, none⟩ = some (.int .i64 kd)) ∧ (W.cell? ⟨w.heap.size, 1, none⟩ = some (.int .i64 nn)) ∧ (W.cell? ⟨w.heap.size, 2, none⟩ = some (.int .i64 k)) ∧ (W.cell? ⟨w.heap.size, 3, none⟩ = some (.int .i64 p)) ∧ (W.cell? ⟨w.heap.size, 4, none⟩ = some (.int .i64 e)) ∧ (W.cell? ⟨w.heap.size, 5, none⟩ = some (.int .i64 q)) ∧ (W.cell? ⟨w.heap.size, 6, none⟩ = some (.bool tx)) ∧ (W.cell? ⟨w.heap.size, 7, none⟩ = some (.slice ad len cap))) (by kernel_rfl) (HS.out _ (Below.refl _ W1).drew) (fun hHeld => ?_)
  refine tk 0 3 hHeld ?_
  try simp only [Act.put, p1, p2, p3]
  refine tk 1 4 hHeld ?_
  try simp only [Act.put, p1, p2, p3]
  refine tk 2 5 hHeld ?_
  try simp only [Act.put, p1, p2, p3]
  refine tk 3 6 hHeld ?_
  try simp only [Act.put, p1, p2, p3]
  refine tk 4 7 hHeld ?_
  try simp only [Act.put, p1, p2, p3]
  refine tk 5 8 hHeld ?_
  try simp only [Act.put, p1, p2, p3]
  refine wpAnyH_ready (rs := [6]) (by kernel_rfl) (by simp) ?_
  refine AllReadyH.cons rfl (fun K hK => ?_) (AllReadyH.nil)
  go_simp
  go_wp2_with (go_at_call 22; (with_reducible_and_instances (refine HCo.out.mono ?_)); rintro x W2 ⟨a2, c2, rfl, ho2, hb2⟩; have HB2 := hid ((Below.refl _ W1).drew.trans hb2); have HO2 := hid ho2; clear hb2 ho2)
  refine hK.out _ _ (HS.out _ HB2.out) (fun hHeld => ?_)
  clear hK K
  try simp only [Act.put, p1, p2, p3]
  refine wpAnyH_take (i := 7) (oi := ⟨some 10, _, _, _, _, _⟩) (v := .agg #[.int .i64 kd, .int .i64 nn, .int .i64 k, .int .i64 p, .int .i64 e, .int .i64 q, .bool tx, .slice a2 len c2]) rfl (by kernel_rfl) (by kernel_rfl) (by kernel_rfl) (fun _ _ _ h => h) (Or.inl ⟨by rfl, ?_⟩) hHeld ?_
  · intro w hSw; exact exec_ent (.tmp 4) (.tmp 6) (.tmp 9) (by rfl) (by rfl) (by rfl) (by rfl)
  try simp only [Act.put, p1, p2, p3]
  refine wpAnyH_ready (rs := [8]) (by kernel_rfl) (by simp) ?_
  refine AllReadyH.cons rfl (fun K hK => ?_) (AllReadyH.nil)
  refine step_store_ent kd nn k p e q tx a2 len c2 (by rfl) (.tmp 2) (.tmp 10) (by rfl) (by rfl) (by rfl) (HZ.out W2 HB2.out) (by rfl) ?_
  intro W3 hx3 hc3
  refine hK.out _ _ ((HSc.out W2 W3 HB2.out hc3)) (fun hHeld => ?_)
  clear hK K
  refine wpAnyH_done (by kernel_rfl) ?_ _
  clear hHeld
  go_wp2_with fail
  refine bodyPost_ret (v := .agg #[.int .i64 kd, .int .i64 nn, .int .i64 k, .int .i64 p, .int .i64 e, .int .i64 q, .bool tx, .slice a2 len c2]) (results_cell_row Tryz.results9 _ _ (w.heap.size + 1) TEt _ (0, 0) _ rfl hx3 Tryz.underlying32 rfl (by kernel_rfl)) rfl ⟨a2, c2, rfl, ?_⟩
  have ho3 : OwnR W3 W1.heap.size (.slice a2 len c2) rs := HO2.out.chg hc3 (fun g hg => by have hgb : W1.heap.size ≤ g := ownR_block HO2.out g hg; simp only [List.mem_singleton]; omega)
  exact ⟨ho3.barg HLe.out HSz.out k p e q tx, ho3.typ, HB1.out.trans ((HB2.out.mono HB1.out.size).trans (hc3.below (fun g hg => by simp at hg; omega) (by have := HB2.out.size; have := HB1.out.size; omega)))⟩
set_option maxHeartbeats 1000000 in
theorem inTxn_any (p s : Int) (m : Nat) (hm : m ≤ 64) (w : World) : Calls Tryz.prog 21 #[.int .i64 p, .int .i64 s, .int .i64 (m : Int)] w fun r w' => ∃ ad cap, r = .returned (.agg #[.int .i64 1, .int .i64 0, .int .i64 1, .int .i64 p, .int .i64 0, .int .i64 s, .bool true, .slice ad m cap]) ∧ BArg w' ⟨1, p, 0, s, true, List.replicate m recK⟩ ad m cap ∧ RTyp w' ad m ∧ Below w.heap.size w w' := by
  obtain ⟨W1, hW1⟩ : ∃ W1, w.alloc (.cells #[.int .i64 0, .int .i64 0, .int .i64 0, .int .i64 0, .int .i64 0, .int .i64 0, .bool false, .slice none 0 0] TEt) = W1 := ⟨_, rfl⟩
  have b1 : Below w.heap.size w W1 := by rw [← hW1]; exact (Below.refl _ _).alloc (Nat.le_refl _) _
  have z1 : Blk W1 w.heap.size #[.int .i64 0, .int .i64 0, .int .i64 0, .int .i64 0, .int .i64 0, .int .i64 0, .bool false, .slice none 0 0] TEt := by rw [← hW1]; exact heap_alloc_new w _
  have HZ := hid z1
  have HB1 := hid b1
  have HR := hid (records_any m hm W1)
  have lz := z1.lt
  clear b1 z1
  have hbb : ∀ (c : Value) (W : World), (∃ a n k, c = .slice a n k) → (Instr.build 30 #[(0, .int .i64 1), (1, .int .i64 p), (3, .int .i64 s), (4, .bool true), (5, c)]).run Tryz.prog W = .ok (.agg #[.int .i64 1, .int .i64 p, .int .i64 0, .int .i64 s, .bool true, c]) W := by rintro c W ⟨a, n, k, rfl⟩; kernel_rfl
  go_enter Tryz.func21, Tryz.ntmps21
  go_wp2_with (first
    | (go_at_call 42; (with_reducible_and_instances (refine HR.out.mono ?_)); rintro x W2 ⟨v, rfl, ho2, hb2⟩; obtain ⟨a2, c2, hv2, -⟩ := ho2.form; rw [List.length_replicate] at hv2; subst hv2; have HO2 := hid ho2; have HB2 := hid hb2; have HZ2 := hid (HZ.out.later hb2); clear ho2 hb2)
    | (refine store_ent 1 0 1 p 0 s true a2 m c2 rfl _ _ rfl rfl rfl HZ2.out rfl ?_; intro W3 hx3 hc3))
  refine bodyPost_ret (v := .agg #[.int .i64 1, .int .i64 0, .int .i64 1, .int .i64 p, .int .i64 0, .int .i64 s, .bool true, .slice a2 m c2]) (results_cell_row Tryz.results21 _ _ w.heap.size TEt _ (0, 0) _ rfl hx3 Tryz.underlying32 rfl (by kernel_rfl)) rfl ⟨a2, c2, rfl, ?_⟩
  have ho3 : OwnR W3 W1.heap.size (.slice a2 m c2) (List.replicate m recK) := HO2.out.chg hc3 (fun g hg => by have hgb : W1.heap.size ≤ g := ownR_block HO2.out g hg; simp only [List.mem_singleton]; omega)
  exact ⟨ho3.barg (by simp) (recK_size m) _ _ _ _ _, ho3.typ, HB1.out.trans ((HB2.out.mono HB1.out.size).trans (hc3.below (fun g hg => by simp at hg; omega) (by have := HB2.out.size; have := HB1.out.size; omega)))⟩
end Go.Proofs.YtfgamkcnnijloaaGreat
