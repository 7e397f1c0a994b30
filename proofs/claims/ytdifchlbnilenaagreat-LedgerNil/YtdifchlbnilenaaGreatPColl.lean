/- slices.Collect of a window's batches. -/
import Derived.Test.YtdifchlbnilenaaGreatPDec
namespace Go.Proofs.YtdifchlbnilenaaGreat
open Go.RowKit Go.Shelf
attribute [local go_sem] Oper.semAt_some
variable {w w' : World} {B : Nat} {s : PSt}

abbrev TDs : TypeId := 216
/-- The cells of some batches. -/
def dnsV (l : List Dn) : List Value := l.flatMap dnL
theorem dnsV_len (l : List Dn) : (dnsV l).length = l.length * 3 := by
  induction l with
  | nil => rfl
  | cons d l ih => rw [dnsV, List.flatMap_cons, List.length_append, List.length_cons]; unfold dnsV at ih; rw [ih]; show 3 + _ = _; omega
theorem dnsV_snoc (l : List Dn) (d : Dn) : dnsV (l ++ [d]) = dnsV l ++ dnL d := by unfold dnsV; simp
/-- In w the value v is a slice of the batches l, in blocks from base on that the call made. -/
def OwnD (w : World) (base : Nat) (v : Value) (l : List Dn) : Prop := w.ownsRow base TDn 3 v l.length (dnsV l)
theorem Tryz.infoDn : (Tryz.prog.info? 205).map (fun i => (i.zero, i.size, i.bytes)) = some (some (.agg #[.int .i64 0, .int .i64 0, .int .i64 0]), 3, 24) := by kernel_rfl
theorem OwnD.slice {v : Value} {base : Nat} {l : List Dn} (h : OwnD w base v l) : ∃ ad c, v = .slice ad l.length c := by
  rcases h.2 with ⟨e, h0⟩ | ⟨g, cap, cur, e, -⟩
  · exact ⟨none, 0, by rw [e, h0]⟩
  · exact ⟨_, _, e⟩
theorem OwnD.later {v : Value} {base : Nat} {l : List Dn} (h : OwnD w base v l) (hb : Below w.heap.size w w') : OwnD w' base v l := own_kept h hb
theorem OwnD.chg {v : Value} {base : Nat} {l : List Dn} {F : List Nat} (h : OwnD w base v l) (hb : Chg F w w') (hn : ∀ g, base ≤ g → g < w.heap.size → g ∉ F) : OwnD w' base v l := by
  refine ⟨h.1, ?_⟩
  rcases h.2 with h2 | ⟨g, cap, cur, hv, hgb, hg, r⟩
  · exact Or.inl h2
  · refine Or.inr ⟨g, cap, cur, hv, hgb, ?_, r⟩
    have hlt : g < w.heap.size := by
      rcases Nat.lt_or_ge g w.heap.size with hlt | hge
      · exact hlt
      · rw [Array.getElem?_eq_none hge] at hg; cases hg
    rw [hb.block g hlt (hn g hgb hlt)]
    exact hg
theorem OwnD.down {v : Value} {base base' : Nat} {l : List Dn} (h : OwnD w base v l) (hb : base' ≤ base) : OwnD w base' v l := by
  refine ⟨h.1, ?_⟩
  rcases h.2 with h2 | ⟨g, cap, cur, hv, hgb, r⟩
  · exact Or.inl h2
  · exact Or.inr ⟨g, cap, cur, hv, Nat.le_trans hb hgb, r⟩
theorem OwnD.block {v : Value} {base : Nat} {l : List Dn} (h : OwnD w base v l) : ∀ g, v.ownBlock = some g → base ≤ g ∧ g < w.heap.size := by
  intro g hg
  rcases h.2 with ⟨e, -⟩ | ⟨g', cap, cur, e, hgb, hgc, -⟩
  · rw [e] at hg; cases hg
  · rw [e] at hg; cases hg
    refine ⟨hgb, ?_⟩
    rcases Nat.lt_or_ge g' w.heap.size with hlt | hge
    · exact hlt
    · rw [Array.getElem?_eq_none hge] at hgc; cases hgc
theorem SeqR.later {P : Program} {gf : Nat} {lb : Array Value} {Kp : World → World → Prop} {K : Nat → World → Prop} {R : Nat → Array Value → World → Prop} {N : Nat} {w w1 : World} (h : SeqR P gf lb Kp K R N w) (hb : Below w.heap.size w w1) : SeqR P gf lb Kp K R N w1 :=
  fun l J Jx W hW h1 h2 h3 h4 h5 => h l J Jx W (hb.trans (hW.mono hb.size)) h1 h2 h3 h4 h5
/-- What AppendSeq keeps while its loop runs. -/
structure ApI (w : World) (l : List Dn) (Z : World) : Prop where
  below : Below w.heap.size w Z
  box : ∃ v, Blk Z w.heap.size #[v] TDs ∧ OwnD Z (w.heap.size + 3) v l
theorem ApI.chg {l : List Dn} {Z Z' : World} {F : List Nat} (h : ApI w l Z) (hc : Chg F Z Z') (hF : ∀ g ∈ F, g = w.heap.size + 1 ∨ g = w.heap.size + 2) : ApI w l Z' := by
  obtain ⟨v, h1, h2⟩ := h.box
  refine ⟨?_, v, h1.chg hc (fun hm => by have := hF _ hm; omega), h2.chg hc (fun g hg _ hm => by have := hF _ hm; omega)⟩
  exact ⟨hc.os.trans h.below.os, hc.tape.trans h.below.tape, hc.output.trans h.below.output, Nat.le_trans h.below.size hc.size, fun k hk => (hc.block k (Nat.lt_of_lt_of_le hk h.below.size) (fun hm => by have := hF _ hm; omega)).trans (h.below.block k hk)⟩
theorem grown_chg1 {w w' : World} {row : Option Nat} (hg : w.grownBy w' row) (F : List Nat) (hF : ∀ g, row = some g → g ∈ F) : Chg F w w' :=
  ⟨hg.os, hg.tape, hg.output, hg.size, fun k hk hn => hg.block k hk (fun e => hn (hF k e.symm))⟩
/-- One batch more is appended, and the slice put back into its box. -/
theorem ApI.step {l : List Dn} {Y w3 : World} {v v' : Value} {d : Dn} {o : Obj} (hb : Below w.heap.size w Y) (hsz : w.heap.size + 3 ≤ Y.heap.size) (hbox : Blk Y w.heap.size #[v] TDs) (hown : OwnD Y (w.heap.size + 3) v l)
    (h' : w3.ownsRow (w.heap.size + 3) TDn 3 v' (l.length + 1) (dnsV l ++ dnL d)) (hg : (Y.alloc o).grownBy w3 v.ownBlock) :
    (∃ ad c, v' = .slice ad (l.length + 1) c) ∧ w3.cell? ⟨w.heap.size, 0, none⟩ = some v ∧ w3.frozen? ⟨w.heap.size, 0, none⟩ = false ∧ ApI w (l ++ [d]) (w3.setCell ⟨w.heap.size, 0, none⟩ v') ∧ Y.heap.size ≤ (w3.setCell ⟨w.heap.size, 0, none⟩ v').heap.size ∧ ∀ g, g < w.heap.size + 3 → g ≠ w.heap.size → (w3.setCell ⟨w.heap.size, 0, none⟩ v').heap[g]? = Y.heap[g]? := by
  have hO : OwnD w3 (w.heap.size + 3) v' (l ++ [d]) := by
    unfold OwnD
    rw [List.length_append, dnsV_snoc]
    exact h'
  have hblk : ∀ g, g < w.heap.size + 3 → w3.heap[g]? = Y.heap[g]? := fun g hgl => by
    rw [hg.block g (by simp; omega) (fun e => by have := (hown.block g e.symm).1; omega)]
    exact Below.heap_alloc _ _ _ (by omega)
  have hb3 : Blk w3 w.heap.size #[v] TDs := (hblk _ (by omega)).trans hbox
  have hbw : Below w.heap.size w w3 := (hb.alloc hb.size o).grown hg (by simp; omega) (fun k hk => by have := (hown.block k hk).1; omega)
  have hs : Chg [w.heap.size] w3 (w3.setCell ⟨w.heap.size, 0, none⟩ v') := (Chg.refl _ _).set (Or.inl (by simp)) _ _
  obtain ⟨ad, c, hv⟩ := hO.slice
  refine ⟨⟨ad, c, by rw [hv]; simp⟩, hb3.cell 0, hb3.free 0, ⟨hbw.setCell (p := ⟨w.heap.size, 0, none⟩) (Nat.le_refl _) _, v', hb3.set 0 v', hO.chg hs (fun g hgb _ => by simp; omega)⟩, by have := hg.size; simp [World.setCell] at this ⊢; omega, fun g hgl hne => ?_⟩
  exact (Below.heap_setCell _ _ _ _ hne).trans (hblk g hgl)
theorem dn_cells (Y : World) (d : Dn) : ∀ j u, (dnL d)[j]? = some u → (Y.alloc (.cells #[.int .i64 d.seq, .int .i64 d.len, .int .i64 d.off] TDn)).cell? ((⟨Y.heap.size, 0, none⟩ : Addr).add j) = some u := by
  intro j u hu
  have hb : Blk (Y.alloc (.cells #[.int .i64 d.seq, .int .i64 d.len, .int .i64 d.off] TDn)) Y.heap.size _ _ := heap_alloc_new Y _
  rw [addr_add, Nat.zero_add, hb.cell j, List.getElem?_toArray]
  exact hu
theorem last_take (s : PSt) (k : Nat) (hk : k < s.cnt) : s.last.take (k + 1) = s.last.take k ++ [s.at k] := by
  have h := s.last_at k hk
  have hl : k < s.last.length := by rw [s.last_len]; exact hk
  rw [List.getElem?_eq_getElem hl] at h
  rw [List.take_succ_eq_append_getElem hl, Option.some.inj h]
set_option maxRecDepth 100000 in
set_option maxHeartbeats 1000000 in
theorem appendSeq_any (h : SBox w B s) (hok : s.ok) (gb : Nat) (hgb : w.cell? ⟨gb, 0, none⟩ = some (.pointer (some ⟨B, 2, none⟩))) (hgl : gb < w.heap.size) :
    Calls Tryz.prog 174 #[.slice none 0 0, .func (.func 175) #[] #[.pointer (some ⟨gb, 0, none⟩)]] w fun e w' => ∃ v, e = .returned v ∧ OwnD w' (w.heap.size + 3) v s.last ∧ Below w.heap.size w w' := by
  obtain ⟨i0, hi, hz0, hz1, hz2⟩ := info_parts Tryz.infoDn
  obtain ⟨W1, hW1⟩ : ∃ W1, w.alloc (.cells #[.slice none 0 0] TDs) = W1 := ⟨_, rfl⟩
  have hb1 : Below w.heap.size w W1 := by rw [← hW1]; exact (Below.refl _ w).alloc (Nat.le_refl _) _
  have hs1 : W1.heap.size = w.heap.size + 1 := by rw [← hW1]; simp
  have hI1 : ApI w [] W1 := ⟨hb1, .slice none 0 0, by rw [← hW1]; exact heap_alloc_new w _, World.ownsRow_nil _ _ _ _⟩
  have hBl : B < w.heap.size := Blk.lt h
  have HSq := hid ((all_seq (K := fun _ _ => True) h hok gb [gb, B] hgb (by simp) (by simp) (fun g hg => by simp at hg; omega)).later hb1)
  have HI := hid hI1
  have h5 := hok.cnt
  have hl := s.last_len
  clear h hok hb1 hI1 hgb
  refine (callsIn_wide (n := 3)).1 ?_
  refine callsIn_of_wp_marks Tryz.func174 rfl trivial ?_ rfl
  simp only [Tryz.ntmps174, List.size_toArray, List.length_cons, List.length_nil, Nat.reduceAdd, Nat.reduceSub, Array.replicate_succ, Array.replicate_zero, List.push_toArray, List.append_toArray, List.nil_append, List.cons_append]
  gi_wp2
  clear hW1
  refine range_A (w.heap.size + 1) hs1 (gf := 175) rfl enters_all HSq.out (fun h k => h.trans k) ?kb (fun k Z => ApI w (s.last.take k) Z) (fun _ _ => False) ?hI ?hIx (fun _ _ _ => trivial) ?h0 ?hps
    (fun args X => { tmps := #[.slice none 0 0, .func (.func 175) #[] #[.pointer (some ⟨gb, 0, none⟩)], .pointer (some ⟨w.heap.size, 0, none⟩), undef, .slice none 0 0, .pointer (some ⟨X.heap.size, 0, none⟩), .func (.func 175) #[] #[.pointer (some ⟨gb, 0, none⟩)], args.getD 0 undef, undef, undef, undef, undef, undef], defers := [] })
    (fun args X => X.alloc (.cells (match args.getD 0 undef with | .agg cs => cs | _ => #[]) TDn)) ?hx1 ?hKa ?assign ?body ?done ?stop
  case kb => exact fun Z o hZ => ⟨by simp, fun g hg => World.putObj_heap_other (by simp at hg; omega)⟩
  case hI => exact fun k Z Z' h1 hc => h1.chg hc (fun g hg => by simp at hg; omega)
  case hIx => exact fun _ _ _ h _ => h
  case h0 => exact HI.out
  case hps =>
    rintro k args X ⟨_, rfl⟩
    rfl
  case hx1 => exact fun k args X _ => (Below.refl _ _).alloc (Nat.le_refl _) _
  case hKa => exact fun k args X _ hX => Kg.below ((Below.refl _ _).alloc (Nat.le_refl _) _) (fun g hg => by simp at hg; omega)
  case assign =>
    rintro l k args X L ⟨hk, rfl⟩ hL
    clear HSq HI
    gi_wp2
    exact hL
  case body =>
    rintro l k args X Y hk hX hI ⟨hkm, rfl⟩ hc hsz
    have hbx : Blk (X.alloc (.cells #[.int .i64 (s.at k).seq, .int .i64 (s.at k).len, .int .i64 (s.at k).off] TDn)) X.heap.size _ _ := heap_alloc_new X _
    have hby := hbx.chg hc (by simp; omega)
    have hIY := (hI.chg (F := []) (Chg.of ((Below.refl _ X).alloc (Nat.le_refl _) _)) (fun g hg => by cases hg)).chg hc (fun g hg => by simp at hg; omega)
    obtain ⟨v, hb0, hO⟩ := hIY.box
    obtain ⟨ad, cc, rfl⟩ := hO.slice
    have hlk : (s.last.take k).length = k := by rw [List.length_take, hl]; omega
    rw [hlk] at hb0 hO
    have c0 : Y.cell? ⟨X.heap.size, 0, none⟩ = some (.int .i64 (s.at k).seq) := hby.cell 0
    have c1 : Y.cell? ⟨X.heap.size, 1, none⟩ = some (.int .i64 (s.at k).len) := hby.cell 1
    have c2 : Y.cell? ⟨X.heap.size, 2, none⟩ = some (.int .i64 (s.at k).off) := hby.cell 2
    have a0 : Y.cell? ⟨w.heap.size, 0, none⟩ = some (.slice ad k cc) := hb0.cell 0
    have HO2 : Hid ((Y.alloc (.cells #[.int .i64 (s.at k).seq, .int .i64 (s.at k).len, .int .i64 (s.at k).off] TDn)).ownsRow (w.heap.size + 3) TDn 3 (.slice ad k cc) k (dnsV (s.last.take k))) := by
      have h := hO.later ((Below.refl _ Y).alloc (Nat.le_refl _) (.cells #[.int .i64 (s.at k).seq, .int .i64 (s.at k).len, .int .i64 (s.at k).off] TDn))
      unfold OwnD at h
      rw [hlk] at h
      exact h
    have hYs : w.heap.size + 3 ≤ Y.heap.size := by rw [hsz]; simp; omega
    have HSt : Hid (∀ w3 v', w3.ownsRow (w.heap.size + 3) TDn 3 v' (k + 1) (dnsV (s.last.take k) ++ dnL (s.at k)) → (Y.alloc (.cells #[.int .i64 (s.at k).seq, .int .i64 (s.at k).len, .int .i64 (s.at k).off] TDn)).grownBy w3 (Value.slice ad k cc).ownBlock → _) := fun w3 v' h1 h2 => ApI.step (d := s.at k) hIY.below hYs hb0 hO (by rw [hlk]; exact h1) h2
    rw [hlk] at HSt
    have HCe := hid (dn_cells Y (s.at k))
    have HLT := hid (last_take s k hkm)
    have hBX : B ≠ w.heap.size ∧ gb ≠ w.heap.size := ⟨by omega, by omega⟩
    clear hI hc hsz hbx hby hIY hb0 hO HSq HI
    unfold dnL at HO2 HSt HCe
    generalize (s.at k).seq = e0 at *
    generalize (s.at k).len = e1 at *
    generalize (s.at k).off = e2 at *
    gi_wp2_with (first
      | (gi_at_builtin; refine wpListIn_append_own _ rfl _ _ TDs rfl (w.heap.size + 3) TDn i0 _ 3 24 Tryz.underlying216 hi hz0 hz1 hz2 rfl (by decide) (.slice ad k cc) k _ rfl HO2.out ⟨Y.heap.size, 0, none⟩ 1 1 [.int .i64 e0, .int .i64 e1, .int .i64 e2] rfl rfl HCe.out (by intro u hu; simp at hu; rcases hu with rfl | rfl | rfl <;> rfl) (by unfold maxLen; omega) (by omega) (by simp; omega) ?_; intro v3 w3 hown3 hg3 _; obtain ⟨⟨a3, c3, rfl⟩, z0, z1, z2⟩ := HSt.out w3 v3 hown3 hg3; have HZ := hid z2; clear hown3 hg3 z2))
    refine ⟨⟨?_, ?_⟩, ?_, ?_⟩
    · exact HZ.out.2.2 _ (by omega) (by omega)
    · exact HZ.out.2.2 _ (by omega) (by omega)
    · exact ⟨HZ.out.2.1, fun g hg => HZ.out.2.2 g (by simp at hg; omega) (by simp at hg; omega)⟩
    · rw [HLT.out]
      exact HZ.out.1
  case done =>
    rintro X hX hI hD
    rw [List.take_of_length_le (by rw [hl]; exact Nat.le_refl _)] at hI
    obtain ⟨v, hb0, hO⟩ := hI.box
    obtain ⟨ad, cc, rfl⟩ := hO.slice
    rw [hl] at hb0 hO
    have a0 : X.cell? ⟨w.heap.size, 0, none⟩ = some (.slice ad s.cnt cc) := hb0.cell 0
    have hpc := putObj_chg X (w.heap.size + 1) _ (.deferred none) (Or.inl rfl)
    have HO := hid (hO.chg hpc (fun g hg _ => by simp; omega))
    have HB := hid ((hI.chg hpc (fun g hg => by simp at hg; omega)).below)
    have HD := hid hD
    clear hI hD HSq HI hb0 hO hpc
    gi_wp2
    refine ⟨by simp, .inl ⟨_, _, rfl, run_takeDeferred HD.out, ?_⟩⟩
    exact ⟨_, results_tmp Tryz.results174 _ _ _, _, rfl, HO.out, HB.out⟩
  case stop => exact fun k X hk h _ => h.elim
theorem collect_any (h : SBox w B s) (hok : s.ok) (gb : Nat) (hgb : w.cell? ⟨gb, 0, none⟩ = some (.pointer (some ⟨B, 2, none⟩))) (hgl : gb < w.heap.size) :
    Calls Tryz.prog 166 #[.func (.func 175) #[] #[.pointer (some ⟨gb, 0, none⟩)]] w fun e w' => ∃ v, e = .returned v ∧ OwnD w' w.heap.size v s.last ∧ Below w.heap.size w w' := by
  have HA := hid (appendSeq_any h hok gb hgb hgl)
  clear h hgb
  go_enter Tryz.func166, Tryz.ntmps166
  go_wp2_with (go_at_call 174; (with_reducible_and_instances (refine HA.out.mono ?_)); rintro e w2 ⟨v, rfl, ho, hb⟩; have HO := hid ho; have HB := hid hb; clear ho hb)
  go_ret
  exact ⟨v, rfl, HO.out.down (by omega), HB.out⟩
end Go.Proofs.YtdifchlbnilenaaGreat
