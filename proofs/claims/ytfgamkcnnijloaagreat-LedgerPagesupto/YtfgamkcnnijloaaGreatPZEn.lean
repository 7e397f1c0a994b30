/- slices.Collect of a window's batches. Entries of package producer (by genpent.py). -/
import Derived.Test.YtfgamkcnnijloaaGreatPZPW
import Derived.Test.YtfgamkcnnijloaaGreatTk
import Derived.Test.YtfgamkcnnijloaaGreatPZMem
import Derived.Test.YtfgamkcnnijloaaGreatPZRange
import Derived.OrdersIn
import Derived.Deep.DeepAppendWide
namespace Go.Proofs.YtfgamkcnnijloaaGreat
open Go.RowKit Go.Shelf
attribute [local go_sem] Oper.semAt_some
variable {w w' : World} {B : Nat} {s : PSt}

abbrev TDs : TypeId := 141
/-- The cells of some batches. -/
def dnsV (l : List Dn) : List Value := l.flatMap dnL
theorem dnsV_snoc (l : List Dn) (d : Dn) : dnsV (l ++ [d]) = dnsV l ++ dnL d := by unfold dnsV; simp
/-- In w the value v is a slice of the batches l, in blocks from base on that the call made. -/
def OwnD (w : World) (base : Nat) (v : Value) (l : List Dn) : Prop := w.ownsRow base TDn 3 v l.length (dnsV l)
theorem Tryz.infoDn : (Tryz.prog.info? 130).map (fun i => (i.zero, i.size, i.bytes)) = some (some (.agg #[.int .i64 0, .int .i64 0, .int .i64 0]), 3, 24) := by kernel_rfl
theorem OwnD.slice {v : Value} {base : Nat} {l : List Dn} (h : OwnD w base v l) : ∃ ad c, v = .slice ad l.length c := by
  rcases h.2 with ⟨e, h0⟩ | ⟨g, cap, cur, e, -⟩
  · exact ⟨none, 0, by rw [e, h0]⟩
  · exact ⟨_, _, e⟩
theorem OwnD.later {v : Value} {base : Nat} {l : List Dn} (h : OwnD w base v l) (hb : Below w.heap.size w w') : OwnD w' base v l := own_kept h hb
theorem OwnD.chg {v : Value} {base : Nat} {l : List Dn} {F : List Nat} (h : OwnD w base v l) (hb : Chg F w w') (hn : ∀ g, base ≤ g → g < w.heap.size → g ∉ F) : OwnD w' base v l := by
  refine ⟨h.1, ?_⟩
  rcases h.2 with h2 | ⟨g, cap, cur, hv, hgb, hg, r⟩
  · exact Or.inl h2
  · refine Or.inr ⟨g, cap, cur, hv, hgb, ?_, r⟩
    have hlt : g < w.heap.size := by
      rcases Nat.lt_or_ge g w.heap.size with hlt | hge
      · exact hlt
      · rw [Array.getElem?_eq_none hge] at hg; cases hg
    rw [hb.block g hlt (hn g hgb hlt)]
    exact hg
theorem OwnD.down {v : Value} {base base' : Nat} {l : List Dn} (h : OwnD w base v l) (hb : base' ≤ base) : OwnD w base' v l := by
  refine ⟨h.1, ?_⟩
  rcases h.2 with h2 | ⟨g, cap, cur, hv, hgb, r⟩
  · exact Or.inl h2
  · exact Or.inr ⟨g, cap, cur, hv, Nat.le_trans hb hgb, r⟩
theorem OwnD.block {v : Value} {base : Nat} {l : List Dn} (h : OwnD w base v l) : ∀ g, v.ownBlock = some g → base ≤ g ∧ g < w.heap.size := by
  intro g hg
  rcases h.2 with ⟨e, -⟩ | ⟨g', cap, cur, e, hgb, hgc, -⟩
  · rw [e] at hg; cases hg
  · rw [e] at hg; cases hg
    refine ⟨hgb, ?_⟩
    rcases Nat.lt_or_ge g' w.heap.size with hlt | hge
    · exact hlt
    · rw [Array.getElem?_eq_none hge] at hgc; cases hgc
theorem SeqR.later {P : Program} {gf : Nat} {lb : Array Value} {Kp : World → World → Prop} {K : Nat → World → Prop} {R : Nat → Array Value → World → Prop} {N : Nat} {w w1 : World} (h : SeqR P gf lb Kp K R N w) (hb : Below w.heap.size w w1) : SeqR P gf lb Kp K R N w1 :=
  fun l J Jx W hW h1 h2 h3 h4 h5 => h l J Jx W (hb.trans (hW.mono hb.size)) h1 h2 h3 h4 h5
/-- What AppendSeq keeps while its loop runs. -/
structure ApI (w : World) (l : List Dn) (Z : World) : Prop where
  below : Below w.heap.size w Z
  box : ∃ v, Blk Z w.heap.size #[v] TDs ∧ OwnD Z (w.heap.size + 3) v l
theorem ApI.chg {l : List Dn} {Z Z' : World} {F : List Nat} (h : ApI w l Z) (hc : Chg F Z Z') (hF : ∀ g ∈ F, g = w.heap.size + 1 ∨ g = w.heap.size + 2) : ApI w l Z' := by
  obtain ⟨v, h1, h2⟩ := h.box
  refine ⟨?_, v, h1.chg hc (fun hm => by have := hF _ hm; omega), h2.chg hc (fun g hg _ hm => by have := hF _ hm; omega)⟩
  exact ⟨hc.os.trans h.below.os, hc.tape.trans h.below.tape, hc.output.trans h.below.output, Nat.le_trans h.below.size hc.size, fun k hk => (hc.block k (Nat.lt_of_lt_of_le hk h.below.size) (fun hm => by have := hF _ hm; omega)).trans (h.below.block k hk)⟩
/-- One batch more is appended, and the slice put back into its box. -/
theorem ApI.step {l : List Dn} {Y w3 : World} {v v' : Value} {d : Dn} {o : Obj} (hb : Below w.heap.size w Y) (hsz : w.heap.size + 3 ≤ Y.heap.size) (hbox : Blk Y w.heap.size #[v] TDs) (hown : OwnD Y (w.heap.size + 3) v l)
    (h' : w3.ownsRow (w.heap.size + 3) TDn 3 v' (l.length + 1) (dnsV l ++ dnL d)) (hg : (Y.alloc o).grownBy w3 v.ownBlock) :
    (∃ ad c, v' = .slice ad (l.length + 1) c) ∧ w3.cell? ⟨w.heap.size, 0, none⟩ = some v ∧ w3.frozen? ⟨w.heap.size, 0, none⟩ = false ∧ ApI w (l ++ [d]) (w3.setCell ⟨w.heap.size, 0, none⟩ v') ∧ Y.heap.size ≤ (w3.setCell ⟨w.heap.size, 0, none⟩ v').heap.size ∧ ∀ g, g < w.heap.size + 3 → g ≠ w.heap.size → (w3.setCell ⟨w.heap.size, 0, none⟩ v').heap[g]? = Y.heap[g]? := by
  have hO : OwnD w3 (w.heap.size + 3) v' (l ++ [d]) := by
    unfold OwnD
    rw [List.length_append, dnsV_snoc]
    exact h'
  have hblk : ∀ g, g < w.heap.size + 3 → w3.heap[g]? = Y.heap[g]? := fun g hgl => by
    rw [hg.block g (by simp; omega) (fun e => by have := (hown.block g e.symm).1; omega)]
    exact Below.heap_alloc _ _ _ (by omega)
  have hb3 : Blk w3 w.heap.size #[v] TDs := (hblk _ (by omega)).trans hbox
  have hbw : Below w.heap.size w w3 := (hb.alloc hb.size o).grown hg (by simp; omega) (fun k hk => by have := (hown.block k hk).1; omega)
  have hs : Chg [w.heap.size] w3 (w3.setCell ⟨w.heap.size, 0, none⟩ v') := (Chg.refl _ _).set (Or.inl (by simp)) _ _
  obtain ⟨ad, c, hv⟩ := hO.slice
  refine ⟨⟨ad, c, by rw [hv]; simp⟩, hb3.cell 0, hb3.free 0, ⟨hbw.setCell (p := ⟨w.heap.size, 0, none⟩) (Nat.le_refl _) _, v', hb3.set 0 v', hO.chg hs (fun g hgb _ => by simp; omega)⟩, by have := hg.size; simp [World.setCell] at this ⊢; omega, fun g hgl hne => ?_⟩
  exact (Below.heap_setCell _ _ _ _ hne).trans (hblk g hgl)
theorem dn_cells (Y : World) (d : Dn) : ∀ j u, (dnL d)[j]? = some u → (Y.alloc (.cells #[.int .i64 d.seq, .int .i64 d.len, .int .i64 d.off] TDn)).cell? ((⟨Y.heap.size, 0, none⟩ : Addr).add j) = some u := by
  intro j u hu
  have hb : Blk (Y.alloc (.cells #[.int .i64 d.seq, .int .i64 d.len, .int .i64 d.off] TDn)) Y.heap.size _ _ := heap_alloc_new Y _
  rw [addr_add, Nat.zero_add, hb.cell j, List.getElem?_toArray]
  exact hu
theorem last_take (s : PSt) (k : Nat) (hk : k < s.cnt) : s.last.take (k + 1) = s.last.take k ++ [s.at k] := by
  have h := s.last_at k hk
  have hl : k < s.last.length := by rw [s.last_len]; exact hk
  rw [List.getElem?_eq_getElem hl] at h
  rw [List.take_succ_eq_append_getElem hl, Option.some.inj h]
set_option maxRecDepth 100000 in
set_option maxHeartbeats 1000000 in
theorem appendSeq_any (h : SBox w B s) (hok : s.ok) (gb : Nat) (hgb : w.cell? ⟨gb, 0, none⟩ = some (.pointer (some ⟨B, 2, none⟩))) (hgl : gb < w.heap.size) :
    Calls Tryz.prog 126 #[.slice none 0 0, .func (.func 127) #[] #[.pointer (some ⟨gb, 0, none⟩)]] w fun e w' => ∃ v, e = .returned v ∧ OwnD w' (w.heap.size + 3) v s.last ∧ Below w.heap.size w w' := by
  obtain ⟨i0, hi, hz0, hz1, hz2⟩ := info_parts Tryz.infoDn
  obtain ⟨W1, hW1⟩ : ∃ W1, w.alloc (.cells #[.slice none 0 0] TDs) = W1 := ⟨_, rfl⟩
  have hb1 : Below w.heap.size w W1 := by rw [← hW1]; exact (Below.refl _ w).alloc (Nat.le_refl _) _
  have hs1 : W1.heap.size = w.heap.size + 1 := by rw [← hW1]; simp
  have hI1 : ApI w [] W1 := ⟨hb1, .slice none 0 0, by rw [← hW1]; exact heap_alloc_new w _, World.ownsRow_nil _ _ _ _⟩
  have hBl : B < w.heap.size := Blk.lt h
  have HSq := hid ((all_seq (K := fun _ _ => True) h hok gb [gb, B] hgb (by simp) (by simp) (fun g hg => by simp at hg; omega)).later hb1)
  have HI := hid hI1
  have h5 := hok.cnt
  have hl := s.last_len
  clear h hok hb1 hI1 hgb
  refine (callsIn_wide (n := 3)).1 ?_
  refine callsIn_of_wp_marks Tryz.func126 rfl trivial ?_ rfl
  simp only [Tryz.ntmps126, List.size_toArray, List.length_cons, List.length_nil, Nat.reduceAdd, Nat.reduceSub, Array.replicate_succ, Array.replicate_zero, List.push_toArray, List.append_toArray, List.nil_append, List.cons_append]
  gi_wp2
  clear hW1
  refine range_A (w.heap.size + 1) hs1 (gf := 127) rfl enters_all HSq.out (fun h k => h.trans k) ?kb (fun k Z => ApI w (s.last.take k) Z) (fun _ _ => False) ?hI ?hIx (fun _ _ _ => trivial) ?h0 ?hps
    (fun args X => { tmps := #[.slice none 0 0, .func (.func 127) #[] #[.pointer (some ⟨gb, 0, none⟩)], .pointer (some ⟨w.heap.size, 0, none⟩), undef, .slice none 0 0, .pointer (some ⟨X.heap.size, 0, none⟩), .func (.func 127) #[] #[.pointer (some ⟨gb, 0, none⟩)], args.getD 0 undef, undef, undef, undef, undef, undef], defers := [] })
    (fun args X => X.alloc (.cells (match args.getD 0 undef with | .agg cs => cs | _ => #[]) TDn)) ?hx1 ?hKa ?assign ?body ?done ?stop
  case kb => exact fun Z o hZ => ⟨by simp, fun g hg => World.putObj_heap_other (by simp at hg; omega)⟩
  case hI => exact fun k Z Z' h1 hc => h1.chg hc (fun g hg => by simp at hg; omega)
  case hIx => exact fun _ _ _ h _ => h
  case h0 => exact HI.out
  case hps =>
    rintro k args X ⟨_, rfl⟩
    rfl
  case hx1 => exact fun k args X _ => (Below.refl _ _).alloc (Nat.le_refl _) _
  case hKa => exact fun k args X _ hX => Kg.below ((Below.refl _ _).alloc (Nat.le_refl _) _) (fun g hg => by simp at hg; omega)
  case assign =>
    rintro l k args X L ⟨hk, rfl⟩ hL
    clear HSq HI
    gi_wp2
    exact hL
  case body =>
    rintro l k args X Y hk hX hI ⟨hkm, rfl⟩ hc hsz
    have hbx : Blk (X.alloc (.cells #[.int .i64 (s.at k).seq, .int .i64 (s.at k).len, .int .i64 (s.at k).off] TDn)) X.heap.size _ _ := heap_alloc_new X _
    have hby := hbx.chg hc (by simp; omega)
    have hIY := (hI.chg (F := []) (Chg.of ((Below.refl _ X).alloc (Nat.le_refl _) _)) (fun g hg => by cases hg)).chg hc (fun g hg => by simp at hg; omega)
    obtain ⟨v, hb0, hO⟩ := hIY.box
    obtain ⟨ad, cc, rfl⟩ := hO.slice
    have hlk : (s.last.take k).length = k := by rw [List.length_take, hl]; omega
    rw [hlk] at hb0 hO
    have c0 : Y.cell? ⟨X.heap.size, 0, none⟩ = some (.int .i64 (s.at k).seq) := hby.cell 0
    have c1 : Y.cell? ⟨X.heap.size, 1, none⟩ = some (.int .i64 (s.at k).len) := hby.cell 1
    have c2 : Y.cell? ⟨X.heap.size, 2, none⟩ = some (.int .i64 (s.at k).off) := hby.cell 2
    have a0 : Y.cell? ⟨w.heap.size, 0, none⟩ = some (.slice ad k cc) := hb0.cell 0
    have HO2 : Hid ((Y.alloc (.cells #[.int .i64 (s.at k).seq, .int .i64 (s.at k).len, .int .i64 (s.at k).off] TDn)).ownsRow (w.heap.size + 3) TDn 3 (.slice ad k cc) k (dnsV (s.last.take k))) := by
      have h := hO.later ((Below.refl _ Y).alloc (Nat.le_refl _) (.cells #[.int .i64 (s.at k).seq, .int .i64 (s.at k).len, .int .i64 (s.at k).off] TDn))
      unfold OwnD at h
      rw [hlk] at h
      exact h
    have hYs : w.heap.size + 3 ≤ Y.heap.size := by rw [hsz]; simp; omega
    have HSt : Hid (∀ w3 v', w3.ownsRow (w.heap.size + 3) TDn 3 v' (k + 1) (dnsV (s.last.take k) ++ dnL (s.at k)) → (Y.alloc (.cells #[.int .i64 (s.at k).seq, .int .i64 (s.at k).len, .int .i64 (s.at k).off] TDn)).grownBy w3 (Value.slice ad k cc).ownBlock → _) := fun w3 v' h1 h2 => ApI.step (d := s.at k) hIY.below hYs hb0 hO (by rw [hlk]; exact h1) h2
    rw [hlk] at HSt
    have HCe := hid (dn_cells Y (s.at k))
    have HLT := hid (last_take s k hkm)
    have hBX : B ≠ w.heap.size ∧ gb ≠ w.heap.size := ⟨by omega, by omega⟩
    clear hI hc hsz hbx hby hIY hb0 hO HSq HI
    unfold dnL at HO2 HSt HCe
    generalize (s.at k).seq = e0 at *
    generalize (s.at k).len = e1 at *
    generalize (s.at k).off = e2 at *
    gi_wp2_with (first
      | (gi_at_builtin; refine wpListIn_append_own _ rfl _ _ TDs rfl (w.heap.size + 3) TDn i0 _ 3 24 Tryz.underlying141 hi hz0 hz1 hz2 rfl (by decide) (.slice ad k cc) k _ rfl HO2.out ⟨Y.heap.size, 0, none⟩ 1 1 [.int .i64 e0, .int .i64 e1, .int .i64 e2] rfl rfl HCe.out (by intro u hu; simp at hu; rcases hu with rfl | rfl | rfl <;> rfl) (by unfold maxLen; omega) (by omega) (by simp; omega) ?_; intro v3 w3 hown3 hg3 _; obtain ⟨⟨a3, c3, rfl⟩, z0, z1, z2⟩ := HSt.out w3 v3 hown3 hg3; have HZ := hid z2; clear hown3 hg3 z2))
    refine ⟨⟨?_, ?_⟩, ?_, ?_⟩
    · exact HZ.out.2.2 _ (by omega) (by omega)
    · exact HZ.out.2.2 _ (by omega) (by omega)
    · exact ⟨HZ.out.2.1, fun g hg => HZ.out.2.2 g (by simp at hg; omega) (by simp at hg; omega)⟩
    · rw [HLT.out]
      exact HZ.out.1
  case done =>
    rintro X hX hI hD
    rw [List.take_of_length_le (by rw [hl]; exact Nat.le_refl _)] at hI
    obtain ⟨v, hb0, hO⟩ := hI.box
    obtain ⟨ad, cc, rfl⟩ := hO.slice
    rw [hl] at hb0 hO
    have a0 : X.cell? ⟨w.heap.size, 0, none⟩ = some (.slice ad s.cnt cc) := hb0.cell 0
    have hpc := putObj_chg X (w.heap.size + 1) _ (.deferred none) (Or.inl rfl)
    have HO := hid (hO.chg hpc (fun g hg _ => by simp; omega))
    have HB := hid ((hI.chg hpc (fun g hg => by simp at hg; omega)).below)
    have HD := hid hD
    clear hI hD HSq HI hb0 hO hpc
    gi_wp2
    refine ⟨by simp, .inl ⟨_, _, rfl, run_takeDeferred HD.out, ?_⟩⟩
    exact ⟨_, results_tmp Tryz.results126 _ _ _, _, rfl, HO.out, HB.out⟩
  case stop => exact fun k X hk h _ => h.elim
theorem collect_any (h : SBox w B s) (hok : s.ok) (gb : Nat) (hgb : w.cell? ⟨gb, 0, none⟩ = some (.pointer (some ⟨B, 2, none⟩))) (hgl : gb < w.heap.size) :
    Calls Tryz.prog 113 #[.func (.func 127) #[] #[.pointer (some ⟨gb, 0, none⟩)]] w fun e w' => ∃ v, e = .returned v ∧ OwnD w' w.heap.size v s.last ∧ Below w.heap.size w w' := by
  have HA := hid (appendSeq_any h hok gb hgb hgl)
  clear h hgb
  go_enter Tryz.func113, Tryz.ntmps113
  go_wp2_with (go_at_call 126; (with_reducible_and_instances (refine HA.out.mono ?_)); rintro e w2 ⟨v, rfl, ho, hb⟩; have HO := hid ho; have HB := hid hb; clear ho hb)
  go_ret
  exact ⟨v, rfl, HO.out.down (by omega), HB.out⟩
end Go.Proofs.YtfgamkcnnijloaaGreat
namespace Go.Proofs.YtfgamkcnnijloaaGreat
open Go.RowKit Go.Shelf
attribute [local go_sem] Oper.semAt_some
variable {w w' : World} {t M n : Nat} {T : Tb}

/-! ### A drawn region inside a round, walked as one outside -/
def noDefer (ops : Array Oper) : Bool := ops.all fun o => match o.op with
  | .defer _ => false
  | _ => true
theorem noDefer_at {ops : Array Oper} (h : noDefer ops = true) {i : Nat} {o : Oper} (ho : ops[i]? = some o) : ∀ c, o.op ≠ .defer c := by
  intro c hc
  unfold noDefer at h
  rw [Array.all_eq_true] at h
  obtain ⟨hi, e⟩ := Array.getElem?_eq_some_iff.1 ho
  have := h i hi
  rw [e, hc] at this
  cases this
theorem oper_in {P : Program} {o : Oper} {a : Act} {w : World} {K : Act → World → Prop} {Q : Exit → Act → World → Prop} (l m : Nat) (hnd : ∀ c, o.op ≠ .defer c) (h : o.wp P a w K Q) : o.wpIn (Fence.wide.inRound l) m P a w K Q := by
  refine ⟨fun f _ => trivial, ?_⟩
  rw [Oper.semAt_eq _ _ _ hnd]
  unfold Oper.wp at h
  generalize (execOp a.eval o).run P w = r at *
  cases r with
  | ok x w' =>
    cases x with
    | enter f args => exact ⟨fun hd => (by cases hd), CallsIn.inRound l (callsIn_wide.2 h)⟩
    | row r args =>
      refine ⟨fun hd => (by cases hd), fun c cs _ => ?_⟩
      obtain ⟨v, w', hr, s⟩ := h c cs
      exact ⟨v, w', hr, stepsIn_wide.2 s⟩
    | round => exact (h : False).elim
    | _ => exact h
  | halt x w' => cases x <;> exact h
theorem any_in {P : Program} {md : Region.Mode} {ops : Array Oper} {Q : Exit → Act → World → Prop} {S : World → Prop} (l m : Nat) (hnd : noDefer ops = true) (hQ : ¬ LetsOut Q) :
    ∀ (fuel : Nat) (listed : Array Bool) (a : Act) (w : World), wpAnyH P md ops Q S fuel listed a w → wpAnyIn (Fence.wide.inRound l) m P md ops Q fuel listed a w
  | 0, _, _, _, h => h
  | fuel + 1, listed, a, w, h => ⟨h.1, fun i hi => by
      have h1 := h.2 i hi
      unfold wpOp at h1
      unfold wpOpIn
      cases ho : ops[i]? with
      | none => rw [ho] at h1; exact any_in l m hnd hQ fuel _ _ _ h1.2
      | some o =>
        rw [ho] at h1
        simp only at h1 ⊢
        split
        · rename_i hw
          rw [if_pos hw] at h1
          rcases h1 with h1 | h1
          · exact Oper.wpIn_mono (fun a' w' h' => any_in l m hnd hQ fuel _ _ _ h'.2) (oper_in l m (noDefer_at hnd ho) h1)
          · exact absurd h1.2 hQ
        · rename_i hw
          rw [if_neg hw] at h1
          exact ⟨fun _ _ => trivial, any_in l m hnd hQ fuel _ _ _ h1.2⟩⟩
theorem region_in {P : Program} {ops : Array Oper} {Q : Exit → Act → World → Prop} {S : World → Prop} {id l m : Nat} {a : Act} {w : World} (hm : P.follows .mixedOrders = true) (hnd : noDefer ops = true) (hQ : ¬ LetsOut Q) (hS : S w.drew)
    (h : S w.drew → wpAnyH P .any ops Q S ops.size (Array.replicate ops.size false) a w.drew) : (Code.region id ops true).wpIn (Fence.wide.inRound l) m P Q a w :=
  wpIn_region_any hm (any_in l m hnd hQ _ _ _ _ (h hS))
theorem store_new_in {F : Fence} {m : Nat} {ops : Array Oper} {rest : List Oper} {o : Oper} {a : Act} {Q : Exit → Act → World → Prop} {w w0 : World} {cur : Array Value} (s : PSt) (hgd : o.guard = none) (x y : Operand) (ho : o.op = .store TSt x y) (hx : a.eval x = .pointer (some ⟨w0.heap.size, 0, none⟩)) (hy : a.eval y = .agg (psL s).toArray)
    (hw : w = w0.alloc (.cells cur TSt)) (hfit : cur.size = 19) (h : wpListIn F m Tryz.prog ops Q rest (a.put o.dst undef) (w0.alloc (.cells (psL s).toArray TSt))) : wpListIn F m Tryz.prog ops Q (o :: rest) a w := by
  subst hw
  refine wpListIn_plain hgd fun K hK => ?_
  unfold Oper.wpIn
  refine ⟨?_, ?_⟩
  · simp [Oper.about, ho]
  · rw [Oper.semAt_plain F _ _ (by rw [ho]; intro c hc; cases hc)]
    have e : (cur.toList.take 0 ++ psL s ++ cur.toList.drop (0 + (psL s).length)) = psL s := by rw [List.drop_of_length_le (by show cur.toList.length ≤ 0 + 19; simp; omega)]; simp
    unfold execOp
    simp only [ho, hx, hy, Instr.storeAt, Instr.sureAddr, Sem.run_bind, Sem.run_pure, Result.andThen_ok, run_storeVar_cells (w0.alloc (.cells cur TSt)) TSt (psL s) (sizeSt s) w0.heap.size 0 TSt cur (heap_alloc_last _ _) (by show 0 + 19 ≤ _; omega) (psL_one s), e, World.setRow_alloc_new]
    exact hK _ _ h
/-! ### Entries -/
abbrev TEn : TypeId := 143
abbrev TEns : TypeId := 140
/-- An entry as plain data. -/
structure En where
  p : Int
  e : Int
  n : Int
  l : List Dn
def entOf (T : Tb) (p : Int) : En := ⟨p, (T.get p).epoch, (T.get p).next, (T.get p).last⟩
def enL (x : En) (sl : Value) : List Value := [.int .i64 x.p, .int .i64 x.e, .int .i64 x.n, sl]
def ensV (L : List (En × Value)) : List Value := L.flatMap fun x => enL x.1 x.2
theorem ensV_snoc (L : List (En × Value)) (x : En × Value) : ensV (L ++ [x]) = ensV L ++ enL x.1 x.2 := by unfold ensV; simp
/-- In w the value v is a slice of the entries L, in blocks from base on. -/
structure OwnE (w : World) (base : Nat) (v : Value) (L : List (En × Value)) : Prop where
  row : w.ownsRow base TEn 4 v L.length (ensV L)
  each : ∀ x ∈ L, OwnD w base x.2 x.1.l
theorem OwnD.keep {base : Nat} {v : Value} {l : List Dn} (h : OwnD w base v l) (hk : ∀ (g : Nat) (cur : Array Value), w.heap[g]? = some (.cells cur TDn (0, 0)) → w'.heap[g]? = w.heap[g]?) : OwnD w' base v l := by
  refine ⟨h.1, ?_⟩
  rcases h.2 with h2 | ⟨g, cap, cur, hv, hgb, hg, r⟩
  · exact Or.inl h2
  · exact Or.inr ⟨g, cap, cur, hv, hgb, (hk g cur hg).trans hg, r⟩
theorem OwnE.later {base : Nat} {v : Value} {L : List (En × Value)} (h : OwnE w base v L) (hb : Below w.heap.size w w') : OwnE w' base v L := ⟨own_kept h.row hb, fun x hx => (h.each x hx).later hb⟩
theorem OwnE.slice {base : Nat} {v : Value} {L : List (En × Value)} (h : OwnE w base v L) : ∃ ad c, v = .slice ad L.length c := by
  rcases h.row.2 with ⟨e, h0⟩ | ⟨g, cap, cur, e, -⟩
  · exact ⟨none, 0, by rw [e, h0]⟩
  · exact ⟨_, _, e⟩
theorem OwnE.block {base : Nat} {v : Value} {L : List (En × Value)} (h : OwnE w base v L) : ∀ g, v.ownBlock = some g → base ≤ g ∧ ∃ cur, w.heap[g]? = some (.cells cur TEn (0, 0)) := by
  intro g hg
  rcases h.row.2 with ⟨e, -⟩ | ⟨g', cap, cur, e, hgb, hgc, -⟩
  · rw [e] at hg; cases hg
  · rw [e] at hg; cases hg
    exact ⟨hgb, cur, hgc⟩
theorem Tryz.infoEn : (Tryz.prog.info? 143).map (fun i => (i.zero, i.size, i.bytes)) = some (some (.agg #[.int .i64 0, .int .i64 0, .int .i64 0, .slice none 0 0]), 4, 48) := by kernel_rfl
/-- 'append(v, Entry)' as one step of a region that draws its order. -/
theorem step_app_en {ops : Array Oper} {o : Oper} {a : Act} {K : Act → World → Prop} {Q : Exit → Act → World → Prop} {E : Prop} (hgd : o.guard = none) (s x : Operand)
    (ho : o.op = .call { callee := .builtin .append, args := #[s, x], argTypes := #[140, 140] })
    (base : Nat) (v : Value) (k : Nat) (L : List (En × Value)) (hs : a.eval s = v) (hown : w.ownsRow base TEn 4 v k (ensV L))
    (g : Nat) (y : En) (sl : Value) (hx : a.eval x = .slice (some ⟨g, 0, none⟩) 1 1) (hob : w.heap[g]? = some (.cells #[.int .i64 y.p, .int .i64 y.e, .int .i64 y.n, sl] TEn))
    (hbytes : k + 1 ≤ 4000000000000) (hbase : base ≤ w.heap.size) (hone : sl.oneCell' = true)
    (h : ∀ v' w', w'.ownsRow base TEn 4 v' (k + 1) (ensV L ++ enL y sl) → w.grownBy w' v.ownBlock → K (a.put o.dst v') w') :
    if Region.wanted o (yielded ops a.tmps) = true then Oper.wp Tryz.prog o a w K Q else E := by
  have hw : Region.wanted o (yielded ops a.tmps) = true := by simp [Region.wanted, hgd]
  rw [if_pos hw]
  obtain ⟨i0, hi, hz0, hz1, hz2⟩ := info_parts Tryz.infoEn
  have hb : Blk w g #[.int .i64 y.p, .int .i64 y.e, .int .i64 y.n, sl] TEn := hob
  refine wp_append_own_wide w s x 140 ho base TEn i0 _ 4 48 Tryz.underlying140 hi hz0 hz1 hz2 rfl (by decide) v k _ hs hown ⟨g, 0, none⟩ 1 1 (enL y sl) hx rfl (fun j u hu => by rw [addr_add, Nat.zero_add, hb.cell j, List.getElem?_toArray]; exact hu) (by intro u hu; simp only [enL, List.mem_cons, List.not_mem_nil, or_false] at hu; rcases hu with rfl | rfl | rfl | rfl <;> first | rfl | exact hone) (by unfold maxLen; omega) (by omega) hbase ?_
  intro v' w' h1 h2 _
  exact h v' w' h1 h2
/-- What Entries keeps while its loop runs. -/
structure EnI (w : World) (l : List En) (Z : World) : Prop where
  below : Below w.heap.size w Z
  box : ∃ v L, Blk Z w.heap.size #[v] TEns ∧ OwnE Z (w.heap.size + 4) v L ∧ L.map (·.1) = l
theorem EnI.chg {l : List En} {Z Z' : World} {F : List Nat} (h : EnI w l Z) (hc : Chg F Z Z') (hF : ∀ g ∈ F, g = w.heap.size + 2 ∨ g = w.heap.size + 3) : EnI w l Z' := by
  obtain ⟨v, L, h1, h2, h3⟩ := h.box
  refine ⟨?_, v, L, h1.chg hc (fun hm => by have := hF _ hm; omega), ⟨?_, fun x hx => (h2.each x hx).chg hc (fun g hg _ hm => by have := hF _ hm; omega)⟩, h3⟩
  · exact ⟨hc.os.trans h.below.os, hc.tape.trans h.below.tape, hc.output.trans h.below.output, Nat.le_trans h.below.size hc.size, fun k hk => (hc.block k (Nat.lt_of_lt_of_le hk h.below.size) (fun hm => by have := hF _ hm; omega)).trans (h.below.block k hk)⟩
  · refine ⟨h2.row.1, ?_⟩
    rcases h2.row.2 with h4 | ⟨g, cap, cur, hv, hgb, hg, r⟩
    · exact Or.inl h4
    · exact Or.inr ⟨g, cap, cur, hv, hgb, (hc.block g (Array.getElem?_eq_some_iff.1 hg).1 (fun hm => by have := hF _ hm; omega)).trans hg, r⟩
theorem EnI.step {l : List En} {L : List (En × Value)} {Y W8 w3 : World} {v v' sl : Value} {y : En} {o : Obj} (hb : Below w.heap.size w Y) (hsz : w.heap.size + 4 ≤ Y.heap.size) (hbox : Blk Y w.heap.size #[v] TEns) (hown : OwnE Y (w.heap.size + 4) v L) (hL : L.map (·.1) = l) (hb8 : Below Y.heap.size Y W8) (hsl : OwnD W8 (w.heap.size + 4) sl y.l)
    (h' : w3.ownsRow (w.heap.size + 4) TEn 4 v' (L.length + 1) (ensV L ++ enL y sl)) (hg : (W8.alloc o).grownBy w3 v.ownBlock) :
    (∃ ad c, v' = .slice ad (L.length + 1) c) ∧ w3.cell? ⟨w.heap.size, 0, none⟩ = some v ∧ w3.frozen? ⟨w.heap.size, 0, none⟩ = false ∧ EnI w (l ++ [y]) (w3.setCell ⟨w.heap.size, 0, none⟩ v') ∧ (∀ g, g < w.heap.size + 4 → g ≠ w.heap.size → (w3.setCell ⟨w.heap.size, 0, none⟩ v').heap[g]? = Y.heap[g]?) ∧
      (Y.heap.size ≤ (w3.setCell ⟨w.heap.size, 0, none⟩ v').heap.size ∧ ∀ (g : Nat) (cur : Array Value), Y.heap[g]? = some (.cells cur 3 (0, 0)) → (w3.setCell ⟨w.heap.size, 0, none⟩ v').heap[g]? = Y.heap[g]?) ∧
      (∀ g i, (∃ cur, Y.heap[g]? = some (.cells cur TSt (0, 0))) → w3.cell? ⟨g, i, none⟩ = Y.cell? ⟨g, i, none⟩) ∧ (∀ g i, (∃ cur, Y.heap[g]? = some (.cells cur TSt (0, 0))) → (w3.setCell ⟨w.heap.size, 0, none⟩ v').cell? ⟨g, i, none⟩ = Y.cell? ⟨g, i, none⟩) := by
  have hwb := hb.size
  have hk3 : ∀ g, g < Y.heap.size → v.ownBlock ≠ some g → w3.heap[g]? = Y.heap[g]? := fun g hgl hne => by
    have hs8 := hb8.size
    rw [hg.block g (by simp; omega) (fun e => hne e.symm), Below.heap_alloc _ _ _ (by omega)]
    exact hb8.block g hgl
  have hnb : ∀ g, g < w.heap.size + 4 → v.ownBlock ≠ some g := fun g hgl e => by have := (hown.block g e).1; omega
  have hb3 : Blk w3 w.heap.size #[v] TEns := (hk3 _ (by omega) (hnb _ (by omega))).trans hbox
  have hs : ∀ g, g ≠ w.heap.size → (w3.setCell ⟨w.heap.size, 0, none⟩ v').heap[g]? = w3.heap[g]? := fun g hne => Below.heap_setCell _ _ _ _ hne
  have hbw : Below w.heap.size w w3 := ((hb.trans (hb8.mono hwb)).alloc (Nat.le_trans hwb hb8.size) o).grown hg (by simp; have := hb8.size; omega) (fun k hk => by have := (hown.block k hk).1; omega)
  have hty : ∀ g (cur : Array Value) (ty : TypeId), Y.heap[g]? = some (.cells cur ty (0, 0)) → ty ≠ TEn → v.ownBlock ≠ some g := fun g cur ty h1 hne e => by
    obtain ⟨-, c2, h2⟩ := hown.block g e
    rw [h1] at h2
    injection h2 with h2
    injection h2 with _ h2
    exact hne h2
  have hrow : w3.ownsRow (w.heap.size + 4) TEn 4 v' (L ++ [(y, sl)]).length (ensV (L ++ [(y, sl)])) := by rw [ensV_snoc, List.length_append]; exact h'
  have hrow2 : (w3.setCell ⟨w.heap.size, 0, none⟩ v').ownsRow (w.heap.size + 4) TEn 4 v' (L ++ [(y, sl)]).length (ensV (L ++ [(y, sl)])) := by
    refine ⟨hrow.1, ?_⟩
    rcases hrow.2 with h4 | ⟨g, cap, cur, hv, hgb, hgc, r⟩
    · exact Or.inl h4
    · exact Or.inr ⟨g, cap, cur, hv, hgb, (hs g (by omega)).trans hgc, r⟩
  have hdn : ∀ x ∈ L ++ [(y, sl)], OwnD (w3.setCell ⟨w.heap.size, 0, none⟩ v') (w.heap.size + 4) x.2 x.1.l := by
    intro x hx
    have key : OwnD w3 (w.heap.size + 4) x.2 x.1.l := by
      rcases List.mem_append.1 hx with hx | hx
      · refine (hown.each x hx).keep (fun g cur hgc => hk3 g (Array.getElem?_eq_some_iff.1 hgc).1 (hty g cur TDn hgc (by decide)))
      · simp at hx; subst hx
        refine OwnD.keep (w := W8) hsl (fun g cur hgc => ?_)
        have hgl := (Array.getElem?_eq_some_iff.1 hgc).1
        rw [hg.block g (by simp; omega) (fun e => ?_), Below.heap_alloc _ _ _ hgl]
        obtain ⟨-, c2, h2⟩ := hown.block g e.symm
        rw [hb8.block g (Array.getElem?_eq_some_iff.1 h2).1, h2] at hgc
        injection hgc with hgc
        injection hgc with _ hgc
        exact absurd hgc (by decide)
    refine OwnD.chg (F := [w.heap.size]) key ⟨rfl, rfl, rfl, by simp [World.setCell], fun g _ hn => hs g (by simpa using hn)⟩ (fun g hgb _ => by simp; omega)
  obtain ⟨ad, c, hv⟩ := OwnE.slice (w := w3.setCell ⟨w.heap.size, 0, none⟩ v') (L := L ++ [(y, sl)]) ⟨hrow2, hdn⟩
  have hsc : ∀ g, (∃ cur, Y.heap[g]? = some (.cells cur TSt (0, 0))) → w3.heap[g]? = Y.heap[g]? ∧ g ≠ w.heap.size := fun g ⟨cur, hc⟩ => by
    refine ⟨hk3 g (Array.getElem?_eq_some_iff.1 hc).1 (hty g cur TSt hc (by decide)), fun e => ?_⟩
    subst e
    unfold Blk at hbox
    rw [hbox] at hc
    injection hc with hc
    injection hc with _ hc
    exact absurd hc (by decide)
  refine ⟨⟨ad, c, by rw [hv]; simp⟩, hb3.cell 0, hb3.free 0, ⟨hbw.setCell (p := ⟨w.heap.size, 0, none⟩) (Nat.le_refl _) _, v', _, hb3.set 0 v', ⟨hrow2, hdn⟩, by simp [hL]⟩, fun g hgl hne => (hs g hne).trans (hk3 g (by omega) (hnb g hgl)), ⟨?_, fun g cur hgc => ?_⟩, fun g i hc => ?_, fun g i hc => ?_⟩
  · have := hg.size; have := hb8.size; simp [World.setCell] at *; omega
  · have hne : g ≠ w.heap.size := fun e => by
      subst e
      unfold Blk at hbox
      rw [hbox] at hgc
      injection hgc with hgc
      injection hgc with _ hgc
      exact absurd hgc (by decide)
    exact (hs g hne).trans (hk3 g (Array.getElem?_eq_some_iff.1 hgc).1 (hty g cur _ hgc (by decide)))
  · simp only [World.cell?, (hsc g hc).1]
  · simp only [World.cell?, (hs g (hsc g hc).2).trans (hsc g hc).1]
set_option maxRecDepth 100000 in
set_option maxHeartbeats 4000000 in
theorem Entries_any (h : TPic w t M n T) {ks : List Int} (hks : KeysT T ks) (hn : n + 1 ≤ 4000000000000) : Calls Tryz.prog 76 #[.pointer (some ⟨t, 0, none⟩)] w fun e w' => ∃ v L, e = .returned v ∧ OwnE w' w.heap.size v L ∧ L.map (·.1) = ks.map (entOf T) ∧ Below w.heap.size w w' := by
  obtain ⟨W2, hW2⟩ : ∃ W2, (w.alloc (.cells #[.slice none 0 0] TEns)).alloc (.cells #[.pointer (some ⟨t, 0, none⟩)] 60) = W2 := ⟨_, rfl⟩
  have hb2 : Below w.heap.size w W2 := by rw [← hW2]; exact ((Below.refl _ w).alloc (Nat.le_refl _) _).alloc (by simp) _
  have hs2 : W2.heap.size = w.heap.size + 2 := by rw [← hW2]; simp
  have hI2 : EnI w [] W2 := by
    refine ⟨hb2, .slice none 0 0, [], ?_, ⟨World.ownsRow_nil _ _ _ _, fun x hx => by cases hx⟩, rfl⟩
    rw [← hW2]
    exact Blk.later (w := w.alloc (.cells #[.slice none 0 0] TEns)) (heap_alloc_new w _) ((Below.refl _ _).alloc (Nat.le_refl _) _)
  have hgb : Blk W2 (w.heap.size + 1) #[.pointer (some ⟨t, 0, none⟩)] 60 := by
    have h := heap_alloc_new (w.alloc (.cells #[.slice none 0 0] TEns)) (.cells #[.pointer (some ⟨t, 0, none⟩)] 60)
    rw [show (w.alloc (.cells #[.slice none 0 0] TEns)).heap.size = w.heap.size + 1 by simp, hW2] at h
    exact h
  have hlt := h.lt
  have HSq := hid (rising_seq (K := fun _ _ => True) (h.later hb2) hks (by omega) (w.heap.size + 1) (hgb.cell 0) (by omega))
  have HI := hid hI2
  have hmd := hid (made_any h.made)
  obtain ⟨-, ks', -, hk', -, -, hle, -⟩ := h.keys
  obtain rfl := hks.uniq hk'
  have HOk : Hid (∀ p, (T.get p).ok) := fun p => h.get_ok p
  obtain ⟨m, hm⟩ : ∃ m, ks.length = m := ⟨_, rfl⟩
  rw [hm] at HSq hle
  have HM := hid hm
  clear h hb2 hI2 hgb hk' hks hm
  refine (callsIn_wide (n := 3)).1 ?_
  refine callsIn_of_wp_marks Tryz.func76 rfl trivial ?_ rfl
  simp only [Tryz.ntmps76, List.size_toArray, List.length_cons, List.length_nil, Nat.reduceAdd, Nat.reduceSub, Array.replicate_succ, Array.replicate_zero, List.push_toArray, List.append_toArray, List.nil_append, List.cons_append]
  gi_wp2_with (first
    | (refine ⟨trivial, ?_⟩; gi_at_call 70; (with_reducible_and_instances (refine (callsIn_wide.2 hmd.out).mono ?_)); rintro e w1 ⟨rfl, hw1⟩; obtain rfl := hw1.symm)
    | (refine ⟨trivial, ?_⟩; gi_at_call 112; refine (callsIn_wide.2 (rising_any t _)).mono ?_; rintro e w1 ⟨rfl, hw1⟩; obtain rfl := hw1.symm))
  clear hW2 hmd
  refine range_B (w.heap.size + 2) hs2 (gf := 123) rfl enters_rising HSq.out (fun h k => h.trans k) ?kb (fun k Z => EnI w ((ks.take k).map (entOf T)) Z) (fun _ _ => False) ?hI ?hIx (fun _ _ _ => trivial) ?h0 ?hps
    (fun args X => { tmps := #[.pointer (some ⟨t, 0, none⟩), undef, .slice none 0 0, .pointer (some ⟨w.heap.size, 0, none⟩), args.getD 0 undef, .pointer (some ⟨X.heap.size, 0, none⟩), .pointer (some ⟨t, 0, none⟩), .bool true, .bool false, .pointer (some ⟨t, 0, none⟩), .func (.func 123) #[] #[.pointer (some ⟨w.heap.size + 1, 0, none⟩)], args.getD 0 undef, args.getD 1 undef, undef, undef, undef, undef, undef, undef, undef, undef, undef, undef, undef, undef, undef], defers := [] })
    (fun args X => X.alloc (.cells (match args.getD 1 undef with | .agg cs => cs | _ => #[]) TSt)) ?hx1 ?hKa ?assign ?body ?done ?stop
  case kb => exact fun Z o o' hZ => ⟨⟨by simp, fun g hg => World.putObj_heap_other (by simp at hg; omega)⟩, fun g cur hg => World.putObj_heap_other (fun e => by subst e; rw [hZ] at hg; cases hg)⟩
  case hI => exact fun k Z Z' h1 hc => h1.chg hc (fun g hg => by simp at hg; omega)
  case hIx => exact fun _ _ _ h _ => h
  case h0 => exact HI.out
  case hps =>
    rintro k args X ⟨_, rfl⟩
    rfl
  case hx1 => exact fun k args X _ => (Below.refl _ _).alloc (Nat.le_refl _) _
  case hKa => exact fun k args X _ hX => KI.below ((Below.refl _ _).alloc (Nat.le_refl _) _) (fun g hg => by simp at hg; omega)
  case assign =>
    as_aux_lemma =>
      rintro l k args X L ⟨hk, rfl⟩ hL
      clear HSq HI hk
      generalize T.get (ks.getD k 0) = stt at *
      generalize ks.getD k 0 = p at *
      gi_wp2_with (refine store_new_in stt rfl (.tmp 5) (.tmp 12) rfl rfl rfl rfl rfl ?_)
      exact hL
  case body =>
    rintro l k args X Y hk hX hI ⟨hkm0, rfl⟩ hc hsz
    have hks1 : ks.take (k + 1) = ks.take k ++ [ks.getD k 0] := by
      rw [List.take_succ_eq_append_getElem hkm0, List.getD_eq_getElem?_getD, List.getElem?_eq_getElem hkm0]; rfl
    have HK1 : Hid ((ks.take (k + 1)).map (entOf T) = (ks.take k).map (entOf T) ++ [entOf T (ks.getD k 0)]) := by rw [hks1, List.map_append]; exact rfl
    have hok := HOk.out (ks.getD k 0)
    have hent : entOf T (ks.getD k 0) = ⟨ks.getD k 0, (T.get (ks.getD k 0)).epoch, (T.get (ks.getD k 0)).next, (T.get (ks.getD k 0)).last⟩ := rfl
    rw [hent] at HK1
    generalize T.get (ks.getD k 0) = stt at *
    generalize ks.getD k 0 = p at *
    have hbx : SBox (X.alloc (.cells (psL stt).toArray TSt)) X.heap.size stt := heap_alloc_new X _
    have hby : SBox Y X.heap.size stt := hbx.chg hc (by simp; omega)
    have hIY := (hI.chg (F := []) (Chg.of ((Below.refl _ X).alloc (Nat.le_refl _) _)) (fun g hg => by cases hg)).chg hc (fun g hg => by simp at hg; omega)
    obtain ⟨v, L, hb0, hO, hLm⟩ := hIY.box
    obtain ⟨ad, cc, hv⟩ := hO.slice
    have hLk : L.length = k := by
      have := congrArg List.length hLm
      rw [List.length_map, List.length_map, List.length_take] at this
      omega
    rw [hLk] at hv
    subst hv
    have hYs : w.heap.size + 4 ≤ Y.heap.size := by rw [hsz]; simp; omega
    have hXY : X.heap.size < Y.heap.size := by rw [hsz]; simp
    obtain ⟨ee, hee⟩ : ∃ ee, stt.epoch = ee := ⟨_, rfl⟩
    obtain ⟨nn, hnn⟩ : ∃ nn, stt.next = nn := ⟨_, rfl⟩
    rw [hee, hnn] at HK1
    have HS : Hid (∀ W, Below Y.heap.size Y W → (W.cell? ⟨X.heap.size, 0, none⟩ = some (.int .i64 ee)) ∧ W.cell? ⟨X.heap.size, 1, none⟩ = some (.int .i64 nn)) := fun W hW => by
      rw [← hee, ← hnn]
      exact ⟨Blk.cell (hby.later hW) 0, Blk.cell (hby.later hW) 1⟩
    have HBx : Hid (∀ W, Below Y.heap.size Y W → W.cell? ⟨w.heap.size, 0, none⟩ = some (.slice ad k cc)) := fun W hW => (hb0.later hW).cell 0
    have HOw : Hid (∀ W, Below Y.heap.size Y W → W.ownsRow (w.heap.size + 4) TEn 4 (.slice ad k cc) k (ensV L)) := fun W hW => by
      have h := (hO.later hW).row
      rw [hLk] at h
      exact h
    have HB7 : Hid (Below Y.heap.size Y (Y.alloc (.cells #[.pointer (some ⟨X.heap.size, 2, none⟩)] 176)).drew) := ((Below.refl _ Y).alloc (Nat.le_refl _) _).drew
    have HCo : Hid (Calls Tryz.prog 113 #[.func (.func 127) #[] #[.pointer (some ⟨Y.heap.size, 0, none⟩)]] (Y.alloc (.cells #[.pointer (some ⟨X.heap.size, 2, none⟩)] 176)).drew fun e w' => ∃ v, e = .returned v ∧ OwnD w' (w.heap.size + 4) v stt.last ∧ Below (Y.alloc (.cells #[.pointer (some ⟨X.heap.size, 2, none⟩)] 176)).drew.heap.size (Y.alloc (.cells #[.pointer (some ⟨X.heap.size, 2, none⟩)] 176)).drew w') := by
      have hbk : Blk (Y.alloc (.cells #[.pointer (some ⟨X.heap.size, 2, none⟩)] 176)).drew Y.heap.size #[.pointer (some ⟨X.heap.size, 2, none⟩)] 176 := heap_alloc_new Y _
      refine (collect_any (hby.later HB7.out) hok Y.heap.size (hbk.cell 0) hbk.lt).mono ?_
      rintro e w' ⟨v, rfl, h1, h2⟩
      exact ⟨v, rfl, h1.down (by simp [World.drew]; omega), h2⟩
    have HSt : Hid (∀ (W8 w3 : World) (o : Obj) (v' sl : Value), Below Y.heap.size Y W8 → OwnD W8 (w.heap.size + 4) sl stt.last → w3.ownsRow (w.heap.size + 4) TEn 4 v' (k + 1) (ensV L ++ enL ⟨p, ee, nn, stt.last⟩ sl) → (W8.alloc o).grownBy w3 (Value.slice ad k cc).ownBlock → _) := fun W8 w3 o v' sl h1 h2 h3 h4 => EnI.step (y := ⟨p, ee, nn, stt.last⟩) hIY.below hYs hb0 hO hLm h1 h2 (by rw [hLk]; exact h3) h4
    rw [hLk] at HSt
    have hkm : Hid (k + 1 ≤ 4000000000000) := by exact (show k + 1 ≤ 4000000000000 by omega)
    have HTy : Hid (∃ cur, Y.heap[X.heap.size]? = some (.cells cur TSt (0, 0))) := ⟨_, hby⟩
    clear hI hc hsz hbx hby hIY hb0 hO hLm hks1 hent HSq HI hok hee hnn hkm0
    gi_wp2
    refine region_in (S := fun W => (W.cell? ⟨X.heap.size, 0, none⟩ = some (.int .i64 ee)) ∧ W.cell? ⟨X.heap.size, 1, none⟩ = some (.int .i64 nn)) (by kernel_rfl) (by kernel_rfl) (fun ⟨_, _, hh⟩ => hh) (HS.out _ (Below.refl _ _).drew) (fun hHeld => ?_)
    refine tk 1 14 hHeld ?_
    try simp only [Act.put, p1, p2, p3]
    refine tk 2 15 hHeld ?_
    try simp only [Act.put, p1, p2, p3]
    refine tk 3 16 hHeld ?_
    try simp only [Act.put, p1, p2, p3]
    refine tk 4 17 hHeld ?_
    try simp only [Act.put, p1, p2, p3]
    refine tk 5 18 hHeld ?_
    try simp only [Act.put, p1, p2, p3]
    refine tk 6 19 hHeld ?_
    try simp only [Act.put, p1, p2, p3]
    refine wpAnyH_ready (rs := [0, 7]) (by kernel_rfl) (by simp) ?_
    refine AllReadyH.cons rfl (fun K hK => ?_) (AllReadyH.cons rfl (fun K hK => ?_) (AllReadyH.nil))
    · as_aux_lemma =>
        have q0 := HBx.out Y.drew (Below.refl _ Y).drew
        go_simp
        clear q0
        refine hK.out _ _ (HS.out _ (Below.refl _ Y).drew) (fun hHeld => ?_)
        clear hK K
        try simp only [Act.put, p1, p2, p3]
        refine wpAnyH_ready (rs := [7]) (by kernel_rfl) (by simp) ?_
        refine AllReadyH.cons rfl (fun K hK => ?_) (AllReadyH.nil)
        go_simp
        go_wp2_with (go_at_call 114; refine (all_any ⟨X.heap.size, 2, none⟩ _).mono ?_; rintro x w7 ⟨rfl, hw7⟩; obtain rfl := hw7.symm)
        refine hK.out _ _ (HS.out _ HB7.out) (fun hHeld => ?_)
        clear hK K
        try simp only [Act.put, p1, p2, p3]
        refine wpAnyH_ready (rs := [8]) (by kernel_rfl) (by simp) ?_
        refine AllReadyH.cons rfl (fun K hK => ?_) (AllReadyH.nil)
        go_simp
        go_wp2_with (go_at_call 113; (with_reducible_and_instances (refine HCo.out.mono ?_)); rintro x W8 ⟨v8, rfl, ho8, hb8⟩; obtain ⟨ad8, cc8, hv8⟩ := ho8.slice; obtain ⟨m8, hm8⟩ : ∃ m8, stt.last.length = m8 := ⟨_, rfl⟩; rw [hm8] at hv8; subst hv8; have HO8 := hid ho8; have HB8 := hid (HB7.out.trans (hb8.mono HB7.out.size)); clear ho8 hb8)
        refine hK.out _ _ (HS.out _ HB8.out) (fun hHeld => ?_)
        clear hK K
        try simp only [Act.put, p1, p2, p3]
        refine tk 9 22 hHeld ?_
        try simp only [Act.put, p1, p2, p3]
        refine wpAnyH_ready (rs := [10]) (by kernel_rfl) (by simp) ?_
        refine AllReadyH.cons rfl (fun K hK => ?_) (AllReadyH.nil)
        go_simp
        refine hK.out _ _ (HS.out _ (HB8.out.alloc HB8.out.size _)) (fun hHeld => ?_)
        clear hK K
        try simp only [Act.put, p1, p2, p3]
        refine wpAnyH_ready (rs := [11]) (by kernel_rfl) (by simp) ?_
        refine AllReadyH.cons rfl (fun K hK => ?_) (AllReadyH.nil)
        refine step_app_en (by rfl) (.tmp 13) (.tmp 23) (by rfl) (w.heap.size + 4) (.slice ad k cc) k L (by rfl) (HOw.out _ (HB8.out.alloc HB8.out.size (.cells #[.int .i64 p, .int .i64 ee, .int .i64 nn, .slice ad8 m8 cc8] TEn))) W8.heap.size ⟨p, ee, nn, stt.last⟩ (.slice ad8 m8 cc8) (by rfl) (heap_alloc_new W8 _) hkm.out (by have := HB8.out.size; simp; omega) (by rfl) ?_
        intro v3 w3 hown3 hg3
        obtain ⟨⟨a3, c3, rfl⟩, z0, z1, z2⟩ := HSt.out W8 w3 _ v3 _ HB8.out HO8.out hown3 hg3
        have HZ := hid z2
        clear z2 hown3 hg3
        refine hK.out _ _ (⟨(HZ.out.2.2.2.1 _ _ HTy.out).trans (HS.out _ (Below.refl _ _)).1, (HZ.out.2.2.2.1 _ _ HTy.out).trans (HS.out _ (Below.refl _ _)).2⟩) (fun hHeld => ?_)
        clear hK K
        refine wpAnyH_ready (rs := [12]) (by kernel_rfl) (by simp) ?_
        refine AllReadyH.cons rfl (fun K hK => ?_) (AllReadyH.nil)
        go_simp
        refine hK.out _ _ (⟨(HZ.out.2.2.2.2 _ _ HTy.out).trans (HS.out _ (Below.refl _ _)).1, (HZ.out.2.2.2.2 _ _ HTy.out).trans (HS.out _ (Below.refl _ _)).2⟩) (fun hHeld => ?_)
        clear hK K
        refine wpAnyH_done (by kernel_rfl) ?_ _
        exact ⟨⟨HZ.out.2.1 _ (by omega) (by omega), HZ.out.2.1 _ (by omega) (by omega)⟩, ⟨⟨HZ.out.2.2.1.1, fun g hg => HZ.out.2.1 g (by simp at hg; omega) (by simp at hg; omega)⟩, HZ.out.2.2.1.2⟩, (by rw [HK1.out]; exact HZ.out.1)⟩
    · skip
      go_simp
      go_wp2_with (go_at_call 114; refine (all_any ⟨X.heap.size, 2, none⟩ _).mono ?_; rintro x w7 ⟨rfl, hw7⟩; obtain rfl := hw7.symm)
      refine hK.out _ _ (HS.out _ HB7.out) (fun hHeld => ?_)
      clear hK K
      try simp only [Act.put, p1, p2, p3]
      refine wpAnyH_ready (rs := [0, 8]) (by kernel_rfl) (by simp) ?_
      refine AllReadyH.cons rfl (fun K hK => ?_) (AllReadyH.cons rfl (fun K hK => ?_) (AllReadyH.nil))
      · as_aux_lemma =>
          have q0 := HBx.out _ HB7.out
          go_simp
          clear q0
          refine hK.out _ _ (HS.out _ HB7.out) (fun hHeld => ?_)
          clear hK K
          try simp only [Act.put, p1, p2, p3]
          refine wpAnyH_ready (rs := [8]) (by kernel_rfl) (by simp) ?_
          refine AllReadyH.cons rfl (fun K hK => ?_) (AllReadyH.nil)
          go_simp
          go_wp2_with (go_at_call 113; (with_reducible_and_instances (refine HCo.out.mono ?_)); rintro x W8 ⟨v8, rfl, ho8, hb8⟩; obtain ⟨ad8, cc8, hv8⟩ := ho8.slice; obtain ⟨m8, hm8⟩ : ∃ m8, stt.last.length = m8 := ⟨_, rfl⟩; rw [hm8] at hv8; subst hv8; have HO8 := hid ho8; have HB8 := hid (HB7.out.trans (hb8.mono HB7.out.size)); clear ho8 hb8)
          refine hK.out _ _ (HS.out _ HB8.out) (fun hHeld => ?_)
          clear hK K
          try simp only [Act.put, p1, p2, p3]
          refine tk 9 22 hHeld ?_
          try simp only [Act.put, p1, p2, p3]
          refine wpAnyH_ready (rs := [10]) (by kernel_rfl) (by simp) ?_
          refine AllReadyH.cons rfl (fun K hK => ?_) (AllReadyH.nil)
          go_simp
          refine hK.out _ _ (HS.out _ (HB8.out.alloc HB8.out.size _)) (fun hHeld => ?_)
          clear hK K
          try simp only [Act.put, p1, p2, p3]
          refine wpAnyH_ready (rs := [11]) (by kernel_rfl) (by simp) ?_
          refine AllReadyH.cons rfl (fun K hK => ?_) (AllReadyH.nil)
          refine step_app_en (by rfl) (.tmp 13) (.tmp 23) (by rfl) (w.heap.size + 4) (.slice ad k cc) k L (by rfl) (HOw.out _ (HB8.out.alloc HB8.out.size (.cells #[.int .i64 p, .int .i64 ee, .int .i64 nn, .slice ad8 m8 cc8] TEn))) W8.heap.size ⟨p, ee, nn, stt.last⟩ (.slice ad8 m8 cc8) (by rfl) (heap_alloc_new W8 _) hkm.out (by have := HB8.out.size; simp; omega) (by rfl) ?_
          intro v3 w3 hown3 hg3
          obtain ⟨⟨a3, c3, rfl⟩, z0, z1, z2⟩ := HSt.out W8 w3 _ v3 _ HB8.out HO8.out hown3 hg3
          have HZ := hid z2
          clear z2 hown3 hg3
          refine hK.out _ _ (⟨(HZ.out.2.2.2.1 _ _ HTy.out).trans (HS.out _ (Below.refl _ _)).1, (HZ.out.2.2.2.1 _ _ HTy.out).trans (HS.out _ (Below.refl _ _)).2⟩) (fun hHeld => ?_)
          clear hK K
          refine wpAnyH_ready (rs := [12]) (by kernel_rfl) (by simp) ?_
          refine AllReadyH.cons rfl (fun K hK => ?_) (AllReadyH.nil)
          go_simp
          refine hK.out _ _ (⟨(HZ.out.2.2.2.2 _ _ HTy.out).trans (HS.out _ (Below.refl _ _)).1, (HZ.out.2.2.2.2 _ _ HTy.out).trans (HS.out _ (Below.refl _ _)).2⟩) (fun hHeld => ?_)
          clear hK K
          refine wpAnyH_done (by kernel_rfl) ?_ _
          exact ⟨⟨HZ.out.2.1 _ (by omega) (by omega), HZ.out.2.1 _ (by omega) (by omega)⟩, ⟨⟨HZ.out.2.2.1.1, fun g hg => HZ.out.2.1 g (by simp at hg; omega) (by simp at hg; omega)⟩, HZ.out.2.2.1.2⟩, (by rw [HK1.out]; exact HZ.out.1)⟩
      · skip
        go_simp
        go_wp2_with (go_at_call 113; (with_reducible_and_instances (refine HCo.out.mono ?_)); rintro x W8 ⟨v8, rfl, ho8, hb8⟩; obtain ⟨ad8, cc8, hv8⟩ := ho8.slice; obtain ⟨m8, hm8⟩ : ∃ m8, stt.last.length = m8 := ⟨_, rfl⟩; rw [hm8] at hv8; subst hv8; have HO8 := hid ho8; have HB8 := hid (HB7.out.trans (hb8.mono HB7.out.size)); clear ho8 hb8)
        refine hK.out _ _ (HS.out _ HB8.out) (fun hHeld => ?_)
        clear hK K
        try simp only [Act.put, p1, p2, p3]
        refine tk 9 22 hHeld ?_
        try simp only [Act.put, p1, p2, p3]
        refine wpAnyH_ready (rs := [0, 10]) (by kernel_rfl) (by simp) ?_
        refine AllReadyH.cons rfl (fun K hK => ?_) (AllReadyH.cons rfl (fun K hK => ?_) (AllReadyH.nil))
        · as_aux_lemma =>
            have q0 := HBx.out _ HB8.out
            go_simp
            clear q0
            refine hK.out _ _ (HS.out _ HB8.out) (fun hHeld => ?_)
            clear hK K
            try simp only [Act.put, p1, p2, p3]
            refine wpAnyH_ready (rs := [10]) (by kernel_rfl) (by simp) ?_
            refine AllReadyH.cons rfl (fun K hK => ?_) (AllReadyH.nil)
            go_simp
            refine hK.out _ _ (HS.out _ (HB8.out.alloc HB8.out.size _)) (fun hHeld => ?_)
            clear hK K
            try simp only [Act.put, p1, p2, p3]
            refine wpAnyH_ready (rs := [11]) (by kernel_rfl) (by simp) ?_
            refine AllReadyH.cons rfl (fun K hK => ?_) (AllReadyH.nil)
            refine step_app_en (by rfl) (.tmp 13) (.tmp 23) (by rfl) (w.heap.size + 4) (.slice ad k cc) k L (by rfl) (HOw.out _ (HB8.out.alloc HB8.out.size (.cells #[.int .i64 p, .int .i64 ee, .int .i64 nn, .slice ad8 m8 cc8] TEn))) W8.heap.size ⟨p, ee, nn, stt.last⟩ (.slice ad8 m8 cc8) (by rfl) (heap_alloc_new W8 _) hkm.out (by have := HB8.out.size; simp; omega) (by rfl) ?_
            intro v3 w3 hown3 hg3
            obtain ⟨⟨a3, c3, rfl⟩, z0, z1, z2⟩ := HSt.out W8 w3 _ v3 _ HB8.out HO8.out hown3 hg3
            have HZ := hid z2
            clear z2 hown3 hg3
            refine hK.out _ _ (⟨(HZ.out.2.2.2.1 _ _ HTy.out).trans (HS.out _ (Below.refl _ _)).1, (HZ.out.2.2.2.1 _ _ HTy.out).trans (HS.out _ (Below.refl _ _)).2⟩) (fun hHeld => ?_)
            clear hK K
            refine wpAnyH_ready (rs := [12]) (by kernel_rfl) (by simp) ?_
            refine AllReadyH.cons rfl (fun K hK => ?_) (AllReadyH.nil)
            go_simp
            refine hK.out _ _ (⟨(HZ.out.2.2.2.2 _ _ HTy.out).trans (HS.out _ (Below.refl _ _)).1, (HZ.out.2.2.2.2 _ _ HTy.out).trans (HS.out _ (Below.refl _ _)).2⟩) (fun hHeld => ?_)
            clear hK K
            refine wpAnyH_done (by kernel_rfl) ?_ _
            exact ⟨⟨HZ.out.2.1 _ (by omega) (by omega), HZ.out.2.1 _ (by omega) (by omega)⟩, ⟨⟨HZ.out.2.2.1.1, fun g hg => HZ.out.2.1 g (by simp at hg; omega) (by simp at hg; omega)⟩, HZ.out.2.2.1.2⟩, (by rw [HK1.out]; exact HZ.out.1)⟩
        · as_aux_lemma =>
            go_simp
            refine hK.out _ _ (HS.out _ (HB8.out.alloc HB8.out.size _)) (fun hHeld => ?_)
            clear hK K
            try simp only [Act.put, p1, p2, p3]
            refine wpAnyH_ready (rs := [0]) (by kernel_rfl) (by simp) ?_
            refine AllReadyH.cons rfl (fun K hK => ?_) (AllReadyH.nil)
            have q0 := HBx.out (W8.alloc (.cells #[.int .i64 p, .int .i64 ee, .int .i64 nn, .slice ad8 m8 cc8] TEn)) (HB8.out.alloc HB8.out.size (.cells #[.int .i64 p, .int .i64 ee, .int .i64 nn, .slice ad8 m8 cc8] TEn))
            go_simp
            clear q0
            refine hK.out _ _ (HS.out _ (HB8.out.alloc HB8.out.size (.cells #[.int .i64 p, .int .i64 ee, .int .i64 nn, .slice ad8 m8 cc8] TEn))) (fun hHeld => ?_)
            clear hK K
            try simp only [Act.put, p1, p2, p3]
            refine wpAnyH_ready (rs := [11]) (by kernel_rfl) (by simp) ?_
            refine AllReadyH.cons rfl (fun K hK => ?_) (AllReadyH.nil)
            refine step_app_en (by rfl) (.tmp 13) (.tmp 23) (by rfl) (w.heap.size + 4) (.slice ad k cc) k L (by rfl) (HOw.out _ (HB8.out.alloc HB8.out.size (.cells #[.int .i64 p, .int .i64 ee, .int .i64 nn, .slice ad8 m8 cc8] TEn))) W8.heap.size ⟨p, ee, nn, stt.last⟩ (.slice ad8 m8 cc8) (by rfl) (heap_alloc_new W8 _) hkm.out (by have := HB8.out.size; simp; omega) (by rfl) ?_
            intro v3 w3 hown3 hg3
            obtain ⟨⟨a3, c3, rfl⟩, z0, z1, z2⟩ := HSt.out W8 w3 _ v3 _ HB8.out HO8.out hown3 hg3
            have HZ := hid z2
            clear z2 hown3 hg3
            refine hK.out _ _ (⟨(HZ.out.2.2.2.1 _ _ HTy.out).trans (HS.out _ (Below.refl _ _)).1, (HZ.out.2.2.2.1 _ _ HTy.out).trans (HS.out _ (Below.refl _ _)).2⟩) (fun hHeld => ?_)
            clear hK K
            refine wpAnyH_ready (rs := [12]) (by kernel_rfl) (by simp) ?_
            refine AllReadyH.cons rfl (fun K hK => ?_) (AllReadyH.nil)
            go_simp
            refine hK.out _ _ (⟨(HZ.out.2.2.2.2 _ _ HTy.out).trans (HS.out _ (Below.refl _ _)).1, (HZ.out.2.2.2.2 _ _ HTy.out).trans (HS.out _ (Below.refl _ _)).2⟩) (fun hHeld => ?_)
            clear hK K
            refine wpAnyH_done (by kernel_rfl) ?_ _
            exact ⟨⟨HZ.out.2.1 _ (by omega) (by omega), HZ.out.2.1 _ (by omega) (by omega)⟩, ⟨⟨HZ.out.2.2.1.1, fun g hg => HZ.out.2.1 g (by simp at hg; omega) (by simp at hg; omega)⟩, HZ.out.2.2.1.2⟩, (by rw [HK1.out]; exact HZ.out.1)⟩
  case done =>
    rintro X hX hI hD
    rw [List.take_of_length_le (by rw [HM.out]; exact Nat.le_refl _)] at hI
    obtain ⟨v, L, hb0, hO, hLm⟩ := hI.box
    obtain ⟨ad, cc, hv⟩ := hO.slice
    obtain ⟨lm, hlm⟩ : ∃ lm, L.length = lm := ⟨_, rfl⟩
    rw [hlm] at hv
    subst hv
    have a0 : X.cell? ⟨w.heap.size, 0, none⟩ = some (.slice ad lm cc) := hb0.cell 0
    have hI2 := hI.chg (putObj_chg X (w.heap.size + 2) _ (.deferred none) (Or.inl rfl)) (fun g hg => by simp at hg; omega)
    have hpc := putObj_chg X (w.heap.size + 2) (w.heap.size + 2) (.deferred none) (Or.inl rfl)
    have HO : Hid (OwnE (X.putObj (w.heap.size + 2) (.deferred none)) w.heap.size (.slice ad lm cc) L) := by
      refine ⟨⟨hO.row.1, ?_⟩, fun x hx => ((hO.each x hx).chg hpc (fun g hg _ => by simp; omega)).down (by omega)⟩
      rcases hO.row.2 with h4 | ⟨g, cap, cur, hv, hgb, hg, r⟩
      · exact Or.inl h4
      · exact Or.inr ⟨g, cap, cur, hv, by omega, (hpc.block g (Array.getElem?_eq_some_iff.1 hg).1 (by simp; omega)).trans hg, r⟩
    have HB := hid hI2.below
    have HD := hid hD
    have HLm := hid hLm
    clear hI hD HSq HI hb0 hO hpc hI2 hLm hlm
    gi_wp2
    refine ⟨by simp, .inl ⟨_, _, rfl, run_takeDeferred HD.out, ?_⟩⟩
    exact ⟨_, results_tmp Tryz.results76 _ _ _, _, L, rfl, HO.out, HLm.out, HB.out⟩
  case stop => exact fun k X hk h _ => h.elim
end Go.Proofs.YtfgamkcnnijloaaGreat
