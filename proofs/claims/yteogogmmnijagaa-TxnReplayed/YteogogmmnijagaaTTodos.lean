/- todos of package txn: the markers that are to be written, one by one. -/
import Derived.Test.YteogogmmnijagaaTExp
import Derived.Test.YteogogmmnijagaaRangeM
namespace Go.Proofs.Yteogogmmnijagaa
open Go.RowKit Go.Shelf
attribute [local go_sem] Oper.semAt_some
variable {w w' : World} {F : List Nat} {g M pb m c i : Nat} {v : Value} {Z : List (Pr × Sl)} {B : Bk}

/-- A marker that is to be written. -/
structure Td where
  prod : Int
  ep : Int
  place : Int
  yes : Bool
def todoP (n : Nat) (p : Pr) : List Td := if p.dec then p.pl.map (fun x => ⟨(n : Int), p.ep, x, p.st == 2⟩) else []
def todoL : List Pr → Nat → List Td
  | [], _ => []
  | p :: ps, n => todoP n p ++ todoL ps (n + 1)
def Bk.todo (B : Bk) : List Td := todoL B.ps 0
def tdAt (B : Bk) (j : Nat) : List Td := todoL (B.ps.take j) 0
theorem todoL_append (l : List Pr) : ∀ (n : Nat) (l' : List Pr), todoL (l ++ l') n = todoL l n ++ todoL l' (n + l.length) := by
  induction l with
  | nil => intro n l'; simp [todoL]
  | cons p l ih => intro n l'; show todoP n p ++ todoL (l ++ l') (n + 1) = _; rw [ih, ← List.append_assoc, List.length_cons, show n + 1 + l.length = n + (l.length + 1) by omega]; rfl
theorem tdAt_succ {j : Nat} (hj : j < B.ps.length) : tdAt B (j + 1) = tdAt B j ++ todoP j (B.at j) := by
  unfold tdAt
  rw [take_snoc_any B.ps pr0 j hj, todoL_append, List.length_take, Nat.min_eq_left (by omega), Nat.zero_add]
  show _ ++ (todoP j (B.ps.getD j pr0) ++ todoL [] _) = _
  simp only [todoL, List.append_nil]
  rfl
theorem tdAt_all : tdAt B B.ps.length = B.todo := by unfold tdAt Bk.todo; rw [List.take_length]
theorem tdAt_pre (B : Bk) (j : Nat) : ∃ r, B.todo = tdAt B j ++ r := by
  unfold tdAt Bk.todo
  refine ⟨todoL (B.ps.drop j) (0 + (B.ps.take j).length), ?_⟩
  rw [← todoL_append, List.take_append_drop]
theorem todoP_len (n : Nat) {p : Pr} (h : p.dec = true) : (todoP n p).length = p.pl.length := by unfold todoP; rw [if_pos h, List.length_map]
theorem todoP_no (n : Nat) {p : Pr} (h : p.dec = false) : todoP n p = [] := by unfold todoP; rw [h]; rfl
theorem todoL_len : ∀ (l : List Pr) (n : Nat), (∀ p ∈ l, PrOk p) → (todoL l n).length ≤ 100 * l.length
  | [], _, _ => by simp [todoL]
  | p :: l, n, h => by
    have h1 := todoL_len l (n + 1) (fun q hq => h q (List.mem_cons_of_mem _ hq))
    have h2 := (h p (List.mem_cons_self ..)).cnt
    have h3 : (todoP n p).length ≤ p.pl.length := by
      cases hd : p.dec with
      | true => rw [todoP_len n hd]; exact Nat.le_refl _
      | false => rw [todoP_no n hd]; exact Nat.zero_le _
    show (todoP n p ++ todoL l (n + 1)).length ≤ _
    rw [List.length_append, List.length_cons]
    omega
theorem BkOk.todo (h : BkOk B) : B.todo.length ≤ 100000 := by
  have := todoL_len B.ps 0 h.pr
  have := h.cnt
  unfold Bk.todo
  omega
/-- The marker that round (number of those ahead) + l is handed. -/
theorem todo_at {j l : Nat} (hj : j < B.ps.length) (hd : (B.at j).dec = true) (hl : l < (B.at j).pl.length) : B.todo[(tdAt B j).length + l]? = some ⟨(j : Int), (B.at j).ep, (B.at j).pl.getD l 0, (B.at j).st == 2⟩ := by
  obtain ⟨r, hr⟩ := tdAt_pre B (j + 1)
  rw [hr, tdAt_succ hj, List.append_assoc, List.getElem?_append_right (by omega), Nat.add_sub_cancel_left, List.getElem?_append_left (by rw [todoP_len j hd]; exact hl)]
  unfold todoP
  rw [if_pos hd, List.getElem?_map, List.getElem?_eq_getElem hl, List.getD_eq_getElem?_getD, List.getElem?_eq_getElem hl]
  rfl
abbrev kTd : Kd Td := ⟨47, 40, 4, 32, fun t => [.int .i64 t.prod, .int .i64 t.ep, .int .i64 t.place, .bool t.yes], ⟨0, 0, 0, false⟩, .agg #[.int .i64 0, .int .i64 0, .int .i64 0, .bool false]⟩
theorem kTd_ok : kTd.ok := ⟨⟨fun _ => rfl, by decide⟩, fun a v hv => by (have : v = .int .i64 a.prod ∨ v = .int .i64 a.ep ∨ v = .int .i64 a.place ∨ v = .bool a.yes := by simpa using hv); rcases this with rfl | rfl | rfl | rfl <;> rfl, by kernel_rfl, rfl, Try.underlying40⟩
/-- What a round leaves: blocks of producers. -/
def KpT (X Y : World) : Prop := X.heap.size ≤ Y.heap.size ∧ ∀ (b : Nat) (cs : Array Value), Blk X b cs TPr → Blk Y b cs TPr
theorem KpT.trans {X Y U : World} (h : KpT X Y) (k : KpT Y U) : KpT X U := ⟨Nat.le_trans h.1 k.1, fun b cs hb => k.2 b cs (h.2 b cs hb)⟩
theorem KpT.below {X Y : World} (h : Below X.heap.size X Y) : KpT X Y := ⟨h.size, fun _ _ hb => hb.later h⟩
/-- Round k is handed the k-th marker. -/
def TdL (L : List Td) (k : Nat) (args : Array Value) (_X : World) : Prop := ∃ t : Td, L[k]? = some t ∧ args = #[.agg #[.int .i64 t.prod, .int .i64 t.ep, .int .i64 t.place, .bool t.yes]]
abbrev TdR (B : Bk) := TdL B.todo
theorem isDecided_cell {b o : Nat} {st : Int} (c2 : w.cell? ⟨b, o + 2, none⟩ = some (.int .i64 st)) : Calls Try.prog 45 #[.pointer (some ⟨b, o, none⟩)] w fun e w' => e = .returned (.bool (st == 2 || st == 3)) ∧ w' = w := by
  by_cases h2 : st = 2
  · subst h2
    go_enter Try.func45, Try.ntmps45
    go_wp2_with fail
    go_ret
    exact ⟨rfl, rfl⟩
  · have d2 : (st == 2) = false := by simpa using h2
    go_enter Try.func45, Try.ntmps45
    go_wp2_with fail
    go_ret
    exact ⟨by simp [h2], rfl⟩
set_option maxRecDepth 100000 in
set_option maxHeartbeats 1000000 in
theorem todos_seq (hB : BkOk B) (hv : ∃ ad cap, v = .slice ad B.ps.length cap) (hp : 0 < B.ps.length → ∃ pb c, v = .slice (some ⟨pb, 0, none⟩) B.ps.length c) (w : World) :
    SeqM Try.prog 22 #[.pointer (some ⟨g, 0, none⟩)] #[] KpT (fun _ X => BP X F g M v Z B) (TdR B) B.todo.length w := by
  intro q J Jx W hW hJ _ hJK hY h0
  have HJ := hid hJ
  have HJK := hid hJK
  have HY := hid hY
  have hcnt := hB.cnt
  obtain ⟨ad, cap, hv⟩ := hv
  have hb0 := hJK 0 W h0
  have cg0 : W.cell? ⟨g, 0, none⟩ = some (.slice ad B.ps.length cap) := by rw [← hv]; exact hb0.box.cell 0
  have HM := hid (made_any hb0)
  have HP := hid hp
  have HOk := hid hB
  have HV := hid hv
  obtain ⟨N, hN0⟩ : ∃ N, B.todo.length = N := ⟨_, rfl⟩
  rw [hN0] at HY ⊢
  have HN0 := hid hN0
  clear hW hJ hJK hY hp hb0 hB hN0 hv
  obtain ⟨len, hlen⟩ : ∃ len, B.ps.length = len := ⟨_, rfl⟩
  have HLn := hid hlen
  rw [hlen] at cg0 hcnt
  clear hlen
  refine callsIn_of_wp Try.func22 rfl trivial ?_ rfl
  simp only [Try.ntmps22, List.size_toArray, List.length_cons, List.length_nil, Nat.reduceAdd, Nat.reduceSub, Array.replicate_succ, Array.replicate_zero, List.push_toArray, List.append_toArray, List.nil_append, List.cons_append]
  gi_wp2_with (refine ⟨trivial, ?_⟩; gi_at_call 15; refine (callsIn_wide.2 HM.out).mono ?_; rintro e w2 ⟨rfl, hw2⟩; obtain rfl := hw2.symm)
  gi_loopw [16] (fun i wr => ∃ j : Nat, j ≤ len ∧ i = .int .i64 (j : Int) ∧ Hid (J (tdAt B j).length wr)) (fun i _ => len - (intOf i).toNat)
  case atStart => exact ⟨0, Nat.zero_le _, rfl, h0⟩
  case round =>
    obtain ⟨j, hj, rfl, HJk⟩ := hrel
    by_cases hjn : j < len
    · have hjl : j < B.ps.length := by rw [HLn.out]; exact hjn
      have hb1 := HJK.out _ _ HJk.out
      obtain ⟨pb, c, hpv⟩ := HP.out (by omega)
      have hac : ad = some ⟨pb, 0, none⟩ ∧ cap = c := by
        have := HV.out.symm.trans hpv
        injection this with e1 e2 e3
        exact ⟨e1, e3⟩
      obtain ⟨rfl, rfl⟩ := hac
      have hb1' := hb1
      rw [hpv] at hb1'
      obtain ⟨s, hs, hpl, -⟩ := hb1'.get hjl
      obtain ⟨p0, p1, p2, p3, p4, -⟩ := hb1'.cells hjl hs
      obtain ⟨W1, hW1⟩ : ∃ W1, wr.alloc (.cells #[.int .i64 (B.at j).tmo, .int .i64 (B.at j).ep, .int .i64 (B.at j).st, .int .i64 (B.at j).since, .slice s.ad s.m s.c] TPr) = W1 := ⟨_, rfl⟩
      have hbx : Blk W1 wr.heap.size #[.int .i64 (B.at j).tmo, .int .i64 (B.at j).ep, .int .i64 (B.at j).st, .int .i64 (B.at j).since, .slice s.ad s.m s.c] TPr := by rw [← hW1]; exact heap_alloc_new wr _
      have hbl : Below wr.heap.size wr W1 := by rw [← hW1]; exact (Below.refl _ _).alloc (Nat.le_refl _) _
      have HD := hid (isDecided_cell (b := wr.heap.size) (o := 0) (st := (B.at j).st) (hbx.cell 2))
      have HJ1 := hid (HJ.out _ _ _ HJk.out hbl)
      have q4 : W1.cell? ⟨wr.heap.size, 4, none⟩ = some (.slice s.ad s.m s.c) := hbx.cell 4
      have HX := hid hbx
      obtain ⟨ad', cap', hf, -⟩ := hpl.form kZ_ok.tofit
      have esm : s.m = (B.at j).pl.length := by
        have : (Value.slice s.ad s.m s.c) = .slice ad' (B.at j).pl.length cap' := hf
        injection this
      have HSm := hid esm
      have hsm : s.m ≤ 100 := by rw [esm]; exact (HOk.out.at j).cnt
      have HS := hid hs
      cases ho : (B.at j).dec with
      | false =>
        have hd : ((B.at j).st == 2 || (B.at j).st == 3) = false := ho
        rw [hd] at HD
        have HJn : Hid (J (tdAt B (j + 1)).length W1) := by rw [tdAt_succ hjl, todoP_no j ho, List.append_nil]; exact HJ1.out
        clear hb1 hb1' hbx hbl HJk hpl hf esm hd ho hs cg0
        generalize (B.at j).tmo = e0 at *
        generalize (B.at j).ep = e1 at *
        generalize (B.at j).st = e2 at *
        generalize (B.at j).since = e3 at *
        gi_wp2_with (refine ⟨trivial, ?_⟩; gi_at_call 45; refine (callsIn_wide.2 HD.out).mono ?_; rintro e w2 ⟨rfl, hw2⟩; obtain rfl := hw2.symm)
        go_roundw
        case rel => exact ⟨j + 1, by omega, by go_num, HJn⟩
        case measure => simp [intOf]; omega
      | true =>
        have hd : ((B.at j).st == 2 || (B.at j).st == 3) = true := ho
        rw [hd] at HD
        have HTA := hid (fun l (hl : l < s.m) => todo_at hjl ho (l := l) (by rw [← esm]; exact hl))
        have HTN : Hid ((tdAt B (j + 1)).length = (tdAt B j).length + s.m) := hid (by rw [tdAt_succ hjl, List.length_append, todoP_len j ho, esm])
        have HPc : Hid (∀ X, BP X F g M v Z B → ∀ l, l < s.m → ∃ pb' , s.ad = some ⟨pb', 0, none⟩ ∧ X.cell? ⟨pb', l, none⟩ = some (.int .i64 ((B.at j).pl.getD l 0))) := fun X hX l hl => by
          rcases own_cells (hX.pl j _ hs) with ⟨-, e⟩ | ⟨b, c, cur, e, h3, -, -, -, h5⟩
          · have e' : (B.at j).pl = [] := e
            rw [esm, e'] at hl
            exact absurd hl (by simp)
          · have : (Value.slice s.ad s.m s.c) = .slice (some ⟨b, 0, none⟩) (B.at j).pl.length c := e
            injection this with e1 e2 e3
            have := cells_at h3 h5 l (by show l < (B.at j).pl.length; omega)
            rw [Nat.zero_add] at this
            exact ⟨b, e1, this⟩
        clear hb1 hb1' hbx hbl HJk hpl hf esm hd ho hs cg0
        generalize (B.at j).tmo = e0 at *
        generalize (B.at j).ep = e1 at *
        generalize (B.at j).st = e2 at *
        generalize (B.at j).since = e3 at *
        gi_wp2_with (refine ⟨trivial, ?_⟩; gi_at_call 45; refine (callsIn_wide.2 HD.out).mono ?_; rintro e w2 ⟨rfl, hw2⟩; obtain rfl := hw2.symm)
        gi_loopw [26] (fun i X => ∃ l : Nat, l ≤ s.m ∧ i = .int .i64 (l : Int) ∧ Hid (J ((tdAt B j).length + l) X) ∧ Hid (Blk X wr.heap.size #[.int .i64 e0, .int .i64 e1, .int .i64 e2, .int .i64 e3, .slice s.ad s.m s.c] TPr)) (fun i _ => s.m - (intOf i).toNat)
        case atStart => exact ⟨0, Nat.zero_le _, rfl, HJ1, HX⟩
        case round =>
          obtain ⟨l, hl, rfl, HJl, HXl⟩ := hrel
          by_cases hls : l < s.m
          · have hta := HTA.out l hls
            obtain ⟨pb', hpa, hpc⟩ := HPc.out _ (HJK.out _ _ HJl.out) l hls
            have x1 : _ = some (Value.int .i64 e1) := HXl.out.cell 1
            have x2 : _ = some (Value.int .i64 e2) := HXl.out.cell 2
            have hlt : (tdAt B j).length + l < N := by rw [← HN0.out]; exact (List.getElem?_eq_some_iff.1 hta).1
            obtain ⟨fn, tmps, assign, body, hy, hR⟩ := YieldAt.mono (R' := fun e Y => ∃ b : Bool, e = .returned (.bool b) ∧ Hid ((b = true → J ((tdAt B j).length + (l + 1)) Y ∧ Blk Y _ #[.int .i64 e0, .int .i64 e1, .int .i64 e2, .int .i64 e3, .slice s.ad s.m s.c] TPr) ∧ (b = false → Jx ((tdAt B j).length + l + 1) Y))) (HY.out ((tdAt B j).length + l) #[.agg #[.int .i64 (j : Int), .int .i64 e1, .int .i64 ((B.at j).pl.getD l 0), .bool (e2 == 2)]] _ hlt HJl.out ⟨_, hta, rfl⟩) (by
              rintro e Y (⟨rfl, h1⟩ | ⟨rfl, h1⟩)
              · exact ⟨true, rfl, fun _ => ⟨h1.1, h1.2.2 _ _ HXl.out⟩, fun h => (by cases h)⟩
              · exact ⟨false, rfl, fun h => (by cases h), fun _ => h1⟩)
            have HRd := hid hR
            have HLt := hid hlt
            clear hR hta hlt HY HTA HPc HJ1 HX HD
            generalize (B.at j).pl.getD l 0 = pl0 at *
            generalize s.ad = sa at *
            subst hpa
            gi_wp2_with (refine HRd.out.mono ?_; rintro e W3 ⟨b, rfl, hb⟩)
            · cases b
              · have HXx := hid (hb.out.2 rfl)
                refine bodyPost_ret (results_none rfl _ _ _) rfl ⟨⟨_, rfl⟩, .inr ⟨(tdAt B j).length + l + 1, HLt.out, HXx.out⟩⟩
              · first | contradiction | (exfalso; simp_all; done)
            · cases b
              · first | contradiction | (exfalso; simp_all; done)
              · exact ⟨⟨l + 1, by omega, by go_num, hid (hb.out.1 rfl).1, hid (hb.out.1 rfl).2⟩, by simp [intOf]; omega⟩
          · obtain rfl : l = s.m := by omega
            have HE : Hid (J (tdAt B (j + 1)).length _) := hid (by rw [HTN.out]; exact HJl.out)
            clear HTA HPc HJ1 HX HD HY
            gi_wp2
            go_roundw
            case rel => exact ⟨j + 1, by omega, by go_num, HE⟩
            case measure => simp [intOf]; omega
    · obtain rfl : j = len := by omega
      have HE : Hid (J N wr) := by rw [← HN0.out, ← tdAt_all, HLn.out]; exact HJk.out
      gi_wp2
      go_end0
      exact ⟨⟨_, rfl⟩, .inl HE.out⟩
theorem enters_todos : ∀ args w, (callFunc 22 args).run Try.prog w = .ok (.enter 22 args) w := fun _ _ => by kernel_rfl
/-- What Todo keeps while its loop runs. -/
structure TdI (w : World) (l : List Td) (X : World) : Prop where
  below : Below w.heap.size w X
  box : ∃ u, Blk X w.heap.size #[u] 40 ∧ OwnK kTd X (w.heap.size + 3) u l
theorem TdI.chg {l : List Td} {X Y : World} {G : List Nat} (h : TdI w l X) (hc : Chg G X Y) (hG : ∀ b ∈ G, b = w.heap.size + 1 ∨ b = w.heap.size + 2) : TdI w l Y := by
  obtain ⟨u, h1, h2⟩ := h.box
  exact ⟨below_chg h.below hc (Nat.le_refl _) (fun b hb => by have := hG b hb; omega), u, h1.chg hc (fun hm => by have := hG _ hm; omega), h2.chg hc (fun b hb hm => by have := hG _ hm; have := (h2.block b hb).1; omega)⟩
/-- One marker more is appended, and the slice put back into its box. -/
theorem TdI.step {l : List Td} {Y W3 : World} {u u' : Value} {t : Td} {o : Obj} (hb : Below w.heap.size w Y) (hsz : w.heap.size + 3 ≤ Y.heap.size) (hbox : Blk Y w.heap.size #[u] 40) (hown : OwnK kTd Y (w.heap.size + 3) u l)
    (h' : OwnK kTd W3 (w.heap.size + 3) u' (l ++ [t])) (hg : (Y.alloc o).grownBy W3 u.ownBlock) :
    (∃ ad c, u' = .slice ad (l.length + 1) c) ∧ W3.cell? ⟨w.heap.size, 0, none⟩ = some u ∧ W3.frozen? ⟨w.heap.size, 0, none⟩ = false ∧ TdI w (l ++ [t]) (W3.setCell ⟨w.heap.size, 0, none⟩ u') ∧ KpT Y (W3.setCell ⟨w.heap.size, 0, none⟩ u') ∧ ∀ b, b < w.heap.size + 3 → b ≠ w.heap.size → (W3.setCell ⟨w.heap.size, 0, none⟩ u').heap[b]? = Y.heap[b]? := by
  have hblk : ∀ b, b < Y.heap.size → u.ownBlock ≠ some b → W3.heap[b]? = Y.heap[b]? := fun b hbl hne => by
    rw [hg.block b (by simp; omega) (fun e => hne e.symm)]
    exact Below.heap_alloc _ _ _ (by omega)
  have hnb : ∀ b, b < w.heap.size + 3 → u.ownBlock ≠ some b := fun b hbl e => by have := (hown.block b e).1; omega
  have hb3 : Blk W3 w.heap.size #[u] 40 := (hblk _ (by omega) (hnb _ (by omega))).trans hbox
  have hbw : Below w.heap.size w W3 := (hb.alloc hb.size o).grown hg (by simp; omega) (fun k hk => by have := (hown.block k hk).1; omega)
  have hs : Chg [w.heap.size] W3 (W3.setCell ⟨w.heap.size, 0, none⟩ u') := (Chg.refl _ _).set (Or.inl (by simp)) _ _
  have hsw : Y.heap.size ≤ W3.heap.size := by have := hg.size; simp at this; omega
  obtain ⟨ad, c, hv, -⟩ := h'.form kTd_ok.tofit
  refine ⟨⟨ad, c, by rw [hv]; simp⟩, hb3.cell 0, hb3.free 0, ⟨hbw.setCell (p := ⟨w.heap.size, 0, none⟩) (Nat.le_refl _) _, u', hb3.set 0 u', h'.chg hs (fun b hb => by have := (h'.block b hb).1; simp; omega)⟩, ⟨Nat.le_trans hsw hs.size, fun b cs hq => ?_⟩, fun b hbl hne => ?_⟩
  · have hne : b ≠ w.heap.size := fun e => by
      subst e
      have h1 : _ = _ := hbox
      have h2 : _ = _ := hq
      rw [h1] at h2
      injection h2 with h2
      injection h2 with h3 h4 h5
      exact absurd h4 (by decide)
    have hno : u.ownBlock ≠ some b := fun e => own_blk_ne hown e hq (by decide) rfl
    exact (Blk.chg ((hblk b hq.lt hno).trans hq) hs (by simpa using hne))
  · exact (Below.heap_setCell _ _ _ _ hne).trans (hblk b (by omega) (hnb b hbl))
theorem td_cells (Y : World) (t : Td) : ∀ j u, (kTd.V t)[j]? = some u → (Y.alloc (.cells #[.int .i64 t.prod, .int .i64 t.ep, .int .i64 t.place, .bool t.yes] 47)).cell? ((⟨Y.heap.size, 0, none⟩ : Addr).add j) = some u := by
  intro j u hu
  have hb : Blk (Y.alloc (.cells #[.int .i64 t.prod, .int .i64 t.ep, .int .i64 t.place, .bool t.yes] 47)) Y.heap.size _ _ := heap_alloc_new Y _
  rw [addr_add, Nat.zero_add, hb.cell j, List.getElem?_toArray]
  exact hu
theorem Try.infoTd : (Try.prog.info? 47).map (fun i => (i.zero, i.size, i.bytes)) = some (some (.agg #[.int .i64 0, .int .i64 0, .int .i64 0, .bool false]), 4, 32) := by kernel_rfl
theorem td_get {L : List Td} {k : Nat} {t : Td} (h : L[k]? = some t) : L.take (k + 1) = L.take k ++ [t] ∧ k < L.length := by
  obtain ⟨h1, h2⟩ := List.getElem?_eq_some_iff.1 h
  exact ⟨by rw [List.take_succ_eq_append_getElem h1, h2], h1⟩
set_option maxRecDepth 100000 in
set_option maxHeartbeats 1000000 in
theorem Todo_core {gv : Option Addr} {L : List Td} {K : World → Prop} (hl : L.length ≤ 100000) (hsq : SeqM Try.prog 22 #[.pointer gv] #[] KpT (fun _ X => K X) (TdL L) L.length (w.alloc (.cells #[.slice none 0 0] 40))) (hK : ∀ X, Below w.heap.size w X → K X) :
    Calls Try.prog 12 #[.pointer gv] w fun e w' => ∃ u, e = .returned u ∧ OwnK kTd w' w.heap.size u L ∧ Below w.heap.size w w' := by
  obtain ⟨i0, hi, hz0, hz1, hz2⟩ := info_parts Try.infoTd
  have hmf : ∀ (fn : Fn) (first cap : Array Value) (w : World), (Instr.makeFunc fn first cap).run Try.prog w = .ok (.func fn first cap) w := fun _ _ _ _ => rfl
  obtain ⟨W1, hW1⟩ : ∃ W1, w.alloc (.cells #[.slice none 0 0] 40) = W1 := ⟨_, rfl⟩
  have hb1 : Below w.heap.size w W1 := by rw [← hW1]; exact (Below.refl _ w).alloc (Nat.le_refl _) _
  have hs1 : W1.heap.size = w.heap.size + 1 := by rw [← hW1]; simp
  have hI1 : TdI w [] W1 := ⟨hb1, .slice none 0 0, by rw [← hW1]; exact heap_alloc_new w _, OwnK.nil _ _⟩
  rw [hW1] at hsq
  have HSq := hid hsq
  have HK : Hid (∀ X, Below w.heap.size w X → K X) := hK
  have HI := hid hI1
  clear hsq hK hb1 hI1
  refine (callsIn_wide (n := 3)).1 ?_
  refine callsIn_of_wp_marks Try.func12 rfl trivial ?_ rfl
  simp only [Try.ntmps12, List.size_toArray, List.length_cons, List.length_nil, Nat.reduceAdd, Nat.reduceSub, Array.replicate_succ, Array.replicate_zero, List.push_toArray, List.append_toArray, List.nil_append, List.cons_append]
  gi_wp2
  clear hW1
  refine range_M (w.heap.size + 1) hs1 (gf := 22) (fs := #[.pointer gv]) (lb := #[]) rfl enters_todos HSq.out (fun h k => h.trans k) ?kb (fun k X => TdI w (L.take k) X) (fun _ _ => False) ?hI (fun _ _ _ h _ => h) (fun k X hX => HK.out X hX.below) HI.out ?hps
    (fun args X => { tmps := #[.pointer gv, undef, .slice none 0 0, .pointer (some ⟨w.heap.size, 0, none⟩), .pointer (some ⟨X.heap.size, 0, none⟩), .pointer gv, .func (.func 22) #[.pointer gv] #[], args.getD 0 undef, undef, undef, undef, undef, undef], defers := [] })
    (fun args X => X.alloc (.cells (match args.getD 0 undef with | .agg cs => cs | _ => #[]) 47)) ?hx1 ?hKa ?assign ?body ?done ?stop
  case kb => exact fun X o o' hX => ⟨by simp, fun b cs hb => (World.putObj_heap_other (fun e => by subst e; have h2 : _ = _ := hb; rw [hX] at h2; cases h2)).trans hb⟩
  case hI => exact fun k X Y h1 hc => h1.chg hc (fun b hb => by simp at hb; omega)
  case hps => rintro k args X ⟨t, -, rfl⟩; rfl
  case hx1 => exact fun k args X _ => (Below.refl _ _).alloc (Nat.le_refl _) _
  case hKa => exact fun k args X _ hX => KpT.below ((Below.refl _ _).alloc (Nat.le_refl _) _)
  case assign =>
    rintro l k args X L ⟨t, -, rfl⟩ hL
    clear HSq HI HK
    gi_wp2
    exact hL
  case body =>
    rintro l k args X Y hk hX hI ⟨t, ht, rfl⟩ hc hsz
    obtain ⟨htk, hkl⟩ := td_get ht
    have hbx : Blk (X.alloc (.cells #[.int .i64 t.prod, .int .i64 t.ep, .int .i64 t.place, .bool t.yes] 47)) X.heap.size _ _ := heap_alloc_new X _
    have hby := hbx.chg hc (by simp; omega)
    have hIY := (hI.chg (G := []) (Chg.of ((Below.refl _ X).alloc (Nat.le_refl _) _)) (fun b hb => by cases hb)).chg hc (fun b hb => by simp at hb; omega)
    obtain ⟨u, hb0, hO⟩ := hIY.box
    obtain ⟨ad, cc, hu, -⟩ := hO.form kTd_ok.tofit
    have hlk : (L.take k).length = k := by rw [List.length_take]; omega
    rw [hlk] at hu
    subst hu
    have c0 : Y.cell? ⟨X.heap.size, 0, none⟩ = some (.int .i64 t.prod) := hby.cell 0
    have c1 : Y.cell? ⟨X.heap.size, 1, none⟩ = some (.int .i64 t.ep) := hby.cell 1
    have c2 : Y.cell? ⟨X.heap.size, 2, none⟩ = some (.int .i64 t.place) := hby.cell 2
    have c3 : Y.cell? ⟨X.heap.size, 3, none⟩ = some (.bool t.yes) := hby.cell 3
    have a0 : Y.cell? ⟨w.heap.size, 0, none⟩ = some (.slice ad k cc) := hb0.cell 0
    have HO2 : Hid ((Y.alloc (.cells #[.int .i64 t.prod, .int .i64 t.ep, .int .i64 t.place, .bool t.yes] 47)).ownsRow (w.heap.size + 3) kTd.T 4 (.slice ad k cc) k (kTd.Vs (L.take k))) := by
      have h := hO.later ((Below.refl _ Y).alloc (Nat.le_refl _) (.cells #[.int .i64 t.prod, .int .i64 t.ep, .int .i64 t.place, .bool t.yes] 47))
      unfold OwnK at h
      rw [hlk] at h
      exact h
    have hYs : w.heap.size + 3 ≤ Y.heap.size := by rw [hsz]; simp; omega
    have HSt : Hid (∀ W3 u', W3.ownsRow (w.heap.size + 3) kTd.T 4 u' (k + 1) (kTd.Vs (L.take k) ++ kTd.V t) → (Y.alloc (.cells #[.int .i64 t.prod, .int .i64 t.ep, .int .i64 t.place, .bool t.yes] 47)).grownBy W3 (Value.slice ad k cc).ownBlock → _) := fun W3 u' h1 h2 => TdI.step (t := t) hIY.below hYs hb0 hO (by unfold OwnK; rw [Kd.Vs_append, Kd.Vs_one, List.length_append, hlk]; exact h1) h2
    rw [hlk] at HSt
    have HCe := hid (td_cells Y t)
    have HTk := hid htk
    clear hI hc hsz hbx hby hIY hb0 hO HSq HI HK ht htk
    dsimp only [kTd] at HO2 HSt HCe
    generalize t.prod = e0 at *
    generalize t.ep = e1 at *
    generalize t.place = e2 at *
    generalize t.yes = e3 at *
    gi_wp2_with (first
      | (gi_at_builtin; refine wpListIn_append_own _ rfl _ _ 40 rfl (w.heap.size + 3) 47 i0 _ 4 32 Try.underlying40 hi hz0 hz1 hz2 rfl (by decide) (.slice ad k cc) k _ rfl HO2.out ⟨Y.heap.size, 0, none⟩ 1 1 [.int .i64 e0, .int .i64 e1, .int .i64 e2, .bool e3] rfl rfl HCe.out (by intro u hu; simp at hu; rcases hu with rfl | rfl | rfl | rfl <;> rfl) (by unfold maxLen; omega) (by omega) (by simp; omega) ?_; intro v3 w3 hown3 hg3 _; obtain ⟨⟨a3, c3', rfl⟩, z0, z1, z2⟩ := HSt.out w3 v3 hown3 hg3; have HZ := hid z2; clear hown3 hg3 z2))
    refine ⟨⟨?_, ?_⟩, ?_, ?_⟩
    · exact HZ.out.2.2 _ (by omega) (by omega)
    · exact HZ.out.2.2 _ (by omega) (by omega)
    · exact HZ.out.2.1
    · rw [HTk.out]
      exact HZ.out.1
  case done =>
    rintro X hX hI hD
    rw [List.take_of_length_le (Nat.le_refl _)] at hI
    obtain ⟨u, hb0, hO⟩ := hI.box
    obtain ⟨ad, cc, hu, -⟩ := hO.form kTd_ok.tofit
    subst hu
    have a0 : X.cell? ⟨w.heap.size, 0, none⟩ = some (.slice ad L.length cc) := hb0.cell 0
    have hpc := putObj_chg X (w.heap.size + 1) _ (.deferred none) (Or.inl rfl)
    have HO := hid ((hO.chg hpc (fun b hb => by have := (hO.block b hb).1; simp; omega)).mono (show w.heap.size ≤ w.heap.size + 3 by omega))
    have HB := hid ((hI.chg hpc (fun b hb => by simp at hb; omega)).below)
    have HD := hid hD
    clear hI hD HSq HI hb0 hO hpc HK
    generalize L.length = tl at *
    gi_wp2
    refine ⟨by simp, .inl ⟨_, _, rfl, run_takeDeferred HD.out, ?_⟩⟩
    exact ⟨_, results_tmp Try.results12 _ _ _, _, rfl, HO.out, HB.out⟩
  case stop => exact fun k X hk h _ => h.elim
theorem Todo_any (h : BP w F g M v Z B) (hB : BkOk B) : Calls Try.prog 12 #[.pointer (some ⟨g, 0, none⟩)] w fun e w' => ∃ u, e = .returned u ∧ OwnK kTd w' w.heap.size u B.todo ∧ Below w.heap.size w w' :=
  Todo_core hB.todo (todos_seq (F := F) (g := g) (M := M) (v := v) (Z := Z) hB h.vform (fun hp => by obtain ⟨pb, c, e, -⟩ := h.form hp; exact ⟨pb, c, e⟩) _) (fun X hX => h.later hX)
end Go.Proofs.Yteogogmmnijagaa
