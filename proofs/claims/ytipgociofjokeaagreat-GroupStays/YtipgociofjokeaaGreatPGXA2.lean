/- rising of package assign: slices.Sorted(slices.Values(..)) of names. mayBe of package assign: members and partitions that may be. deal of package assign, over any steps (by gendeal.py). What the steps of the dealing want of the world: a deck, what is left over, boxes. What Range and Sticky answer; names and partitions that may be. -/
import Derived.Test.YtipgociofjokeaaGreatPGXA1
import Derived.Test.YtipgociofjokeaaGreatPGOwn
import Derived.Shelf.Abstract
import Derived.WalkLawsBesides
import Derived.Lib.SlicesCompact
namespace Go.Proofs.YtipgociofjokeaaGreat
open Go.RowKit Go.Shelf
attribute [local go_sem] Oper.semAt_some
variable {w w' : World} {ad : Option Addr} {m c : Nat} {l : List Nm}

/-- Round k is handed the k-th name. -/
def ValR (l : List Nm) (m : Nat) (k : Nat) (args : Array Value) (_ : World) : Prop := k < m ∧ args = #[.string (nmS (l.getD k []))]
set_option maxRecDepth 100000 in
set_option maxHeartbeats 400000 in
theorem vals_seq (h : ArgK kS w l ad m c) (gb : Nat) (Gs : List Nat) (K : Nat → World → Prop) (hgb : w.cell? ⟨gb, 0, none⟩ = some (.slice ad m c)) (hg : gb ∈ Gs) (hrow : ∀ b off, ad = some ⟨b, off, none⟩ → m ≠ 0 → b ∈ Gs) (hlt : ∀ g ∈ Gs, g < w.heap.size) :
    SeqR Tryz.prog 104 #[.pointer (some ⟨gb, 0, none⟩)] (Kg Gs) K (ValR l m) m w := by
  intro q J Jx W hW hJ _ _ hY h0
  have hk0 : Kg Gs w W := Kg.below hW hlt
  have HK0 : Hid (Kg Gs w W) := hk0
  have H := hid h
  have HR : Hid (∀ b off, ad = some ⟨b, off, none⟩ → m ≠ 0 → b ∈ Gs) := hrow
  have HY : Hid (∀ k args X, k < m → J k X → ValR l m k args X → YieldAt Fence.wide 1 Tryz.prog q args X fun e Y => (e = .returned (.bool true) ∧ J (k + 1) Y ∧ Kg Gs X Y) ∨ (e = .returned (.bool false) ∧ Jx (k + 1) Y)) := hY
  have ct0 : W.cell? ⟨gb, 0, none⟩ = some (.slice ad m c) := (hk0.cell hg (i := 0)).trans hgb
  have hmx : m ≤ 9223372036854775807 := by have := h.cap; have := h.room; unfold maxLen at this; omega
  clear hW hJ hY h hrow hlt hk0 hgb
  refine callsIn_of_wp Tryz.func104 rfl trivial ?_ rfl
  simp only [Tryz.ntmps104, List.size_toArray, List.length_cons, List.length_nil, Nat.reduceAdd, Nat.reduceSub, Array.replicate_succ, Array.replicate_zero, List.push_toArray, List.append_toArray, List.nil_append, List.cons_append]
  gi_wp2
  gi_loopw [7] (fun i wr => ∃ k : Nat, k ≤ m ∧ i = .int .i64 (k : Int) ∧ Hid (J k wr) ∧ Hid (Kg Gs w wr)) (fun i _ => m - (intOf i).toNat)
  case atStart => exact ⟨0, Nat.zero_le _, rfl, h0, HK0⟩
  case round =>
    obtain ⟨k, hk, rfl, HJk, HKk⟩ := hrel
    by_cases hkl : k < m
    · obtain ⟨b, off, rfl, hs, hc⟩ := H.out.cells (by omega)
      have hbg := HR.out b off rfl (by omega)
      have r0 : wr.cell? ⟨b, off + k, none⟩ = some (.string (nmS (l.getD k []))) := (HKk.out.cell hbg (i := off + k)).trans (by have := hc k hkl 0 (by decide); rw [Nat.mul_one, Nat.add_zero] at this; exact this)
      obtain ⟨fn, tmps, assign, body, hy, hR⟩ := YieldAt.mono (R' := fun e Y => ∃ b : Bool, e = .returned (.bool b) ∧ Hid ((b = true → J (k + 1) Y ∧ Kg Gs wr Y) ∧ (b = false → Jx (k + 1) Y))) (HY.out k _ wr hkl HJk.out ⟨hkl, rfl⟩) (by
        rintro e Y (⟨rfl, h1⟩ | ⟨rfl, h1⟩)
        · exact ⟨true, rfl, fun _ => h1, fun h => (by cases h)⟩
        · exact ⟨false, rfl, fun h => (by cases h), fun _ => h1⟩)
      have HRd := hid hR
      clear hR hc hs hbg ct0 HY
      generalize nmS (l.getD k []) = e0 at *
      gi_wp2_with (refine HRd.out.mono ?_; rintro e W3 ⟨b, rfl, hb⟩; have HBb := hid hb; clear hb; rcases b with _ | _)
      · have HX := hid (HBb.out.out.2 (by first | rfl | trivial))
        refine bodyPost_ret (results_none rfl _ _ _) rfl ?_
        exact ⟨⟨_, rfl⟩, .inr ⟨k + 1, by omega, HX.out⟩⟩
      · have HJn := hid (HBb.out.out.1 (by first | rfl | trivial)).1
        have HKn := hid (HKk.out.trans (HBb.out.out.1 (by first | rfl | trivial)).2)
        exact ⟨⟨k + 1, by omega, by go_num, HJn, HKn⟩, by simp [intOf]; omega⟩
    · obtain rfl : k = m := by omega
      gi_wp2
      go_end0
      exact ⟨⟨_, rfl⟩, .inl HJk.out⟩
theorem enters_vals : ∀ args w, (callFunc 104 args).run Tryz.prog w = .ok (.enter 104 args) w := fun _ _ => by kernel_rfl
theorem vals_any (ad : Option Addr) (m c : Nat) (w : World) : Calls Tryz.prog 99 #[.slice ad m c] w fun e w' => e = .returned (.func (.func 104) #[] #[.pointer (some ⟨w.heap.size, 0, none⟩)]) ∧ w' = w.alloc (.cells #[.slice ad m c] 22) := by
  have hmf : ∀ (fn : Fn) (first cap : Array Value) (w : World), (Instr.makeFunc fn first cap).run Tryz.prog w = .ok (.func fn first cap) w := fun _ _ _ _ => rfl
  go_enter Tryz.func99, Tryz.ntmps99
  go_wp2_with fail
  go_ret
  exact ⟨rfl, rfl⟩
theorem SeqR.later {P : Program} {gf : Nat} {lb : Array Value} {Kp : World → World → Prop} {K : Nat → World → Prop} {R : Nat → Array Value → World → Prop} {N : Nat} {w w1 : World} (h : SeqR P gf lb Kp K R N w) (hb : Below w.heap.size w w1) : SeqR P gf lb Kp K R N w1 :=
  fun l J Jx W hW h1 h2 h3 h4 h5 => h l J Jx W (hb.trans (hW.mono hb.size)) h1 h2 h3 h4 h5
/-- What AppendSeq keeps while its loop runs. -/
structure ApI (w : World) (l : List Nm) (Z : World) : Prop where
  below : Below w.heap.size w Z
  box : ∃ v, Blk Z w.heap.size #[v] 22 ∧ OwnK kS Z (w.heap.size + 3) v l
theorem ApI.chg {l : List Nm} {Z Z' : World} {F : List Nat} (h : ApI w l Z) (hc : Chg F Z Z') (hF : ∀ g ∈ F, g = w.heap.size + 1 ∨ g = w.heap.size + 2) : ApI w l Z' := by
  obtain ⟨v, h1, h2⟩ := h.box
  refine ⟨?_, v, h1.chg hc (fun hm => by have := hF _ hm; omega), h2.chg hc (fun g hg hm => by have := hF _ hm; have := (h2.block g hg).1; omega)⟩
  exact ⟨hc.os.trans h.below.os, hc.tape.trans h.below.tape, hc.output.trans h.below.output, Nat.le_trans h.below.size hc.size, fun k hk => (hc.block k (Nat.lt_of_lt_of_le hk h.below.size) (fun hm => by have := hF _ hm; omega)).trans (h.below.block k hk)⟩
theorem ApI.step {l : List Nm} {Y w3 : World} {v v' : Value} {d : Nm} {o : Obj} (hb : Below w.heap.size w Y) (hsz : w.heap.size + 3 ≤ Y.heap.size) (hbox : Blk Y w.heap.size #[v] 22) (hown : OwnK kS Y (w.heap.size + 3) v l)
    (hO : OwnK kS w3 (w.heap.size + 3) v' (l ++ [d])) (hg : (Y.alloc o).grownBy w3 v.ownBlock) :
    (∃ ad c, v' = .slice ad (l.length + 1) c) ∧ w3.cell? ⟨w.heap.size, 0, none⟩ = some v ∧ w3.frozen? ⟨w.heap.size, 0, none⟩ = false ∧ ApI w (l ++ [d]) (w3.setCell ⟨w.heap.size, 0, none⟩ v') ∧ Y.heap.size ≤ (w3.setCell ⟨w.heap.size, 0, none⟩ v').heap.size ∧ ∀ g, g < w.heap.size + 3 → g ≠ w.heap.size → (w3.setCell ⟨w.heap.size, 0, none⟩ v').heap[g]? = Y.heap[g]? := by
  have hblk : ∀ g, g < w.heap.size + 3 → w3.heap[g]? = Y.heap[g]? := fun g hgl => by
    rw [hg.block g (by simp; omega) (fun e => by have := (hown.block g e.symm).1; omega)]
    exact Below.heap_alloc _ _ _ (by omega)
  have hb3 : Blk w3 w.heap.size #[v] 22 := (hblk _ (by omega)).trans hbox
  have hbw : Below w.heap.size w w3 := (hb.alloc hb.size o).grown hg (by simp; omega) (fun k hk => by have := (hown.block k hk).1; omega)
  have hs : Chg [w.heap.size] w3 (w3.setCell ⟨w.heap.size, 0, none⟩ v') := (Chg.refl _ _).set (Or.inl (by simp)) _ _
  obtain ⟨ad, c, hv, -⟩ := hO.form kS_ok.tofit
  refine ⟨⟨ad, c, by rw [hv]; simp⟩, hb3.cell 0, hb3.free 0, ⟨hbw.setCell (p := ⟨w.heap.size, 0, none⟩) (Nat.le_refl _) _, v', hb3.set 0 v', hO.chg hs (fun g hg hm => by have := (hO.block g hg).1; simp at hm; omega)⟩, by have := hg.size; simp [World.setCell] at this ⊢; omega, fun g hgl hne => ?_⟩
  exact (Below.heap_setCell _ _ _ _ hne).trans (hblk g hgl)
theorem nm_row (Y : World) (s : ByteArray) (d : Nm) (h : nmS d = s) : RowK kS (Y.alloc (.cells #[.string s] 9)) (some ⟨Y.heap.size, 0, none⟩) [d] := by
  subst h
  refine Or.inr ⟨_, 0, rfl, by simp, fun i hi c hc => ?_⟩
  obtain rfl : i = 0 := by simp at hi; omega
  obtain rfl : c = 0 := by have : kS.sz = 1 := rfl; omega
  have hb : Blk (Y.alloc (.cells #[.string (nmS d)] 9)) Y.heap.size _ _ := heap_alloc_new Y _
  exact hb.cell 0
/-- 'append(v, x...)' inside a round of a range over a function. -/
theorem appIn_kd {α : Type} {K : Kd α} {F : Fence} {md : Nat} {ops : Array Oper} {rest : List Oper} {o : Oper} {a : Act} {Q : Exit → Act → World → Prop} {w : World} (hK : K.ok) (hgd : o.guard = none) (s x : Operand)
    (ho : o.op = .call { callee := .builtin .append, args := #[s, x], argTypes := #[K.S, K.S] })
    (base : Nat) (v : Value) (L : List α) (hs : a.eval s = v) (hown : OwnK K w base v L)
    (g : Nat) (y : α) (hx : a.eval x = .slice (some ⟨g, 0, none⟩) 1 1) (hrow : RowK K w (some ⟨g, 0, none⟩) [y])
    (hlen : L.length + 1 ≤ maxLen) (hbytes : (L.length + 1) * K.bytes ≤ 140737488355328) (hbase : base ≤ w.heap.size)
    (h : ∀ v' w', OwnK K w' base v' (L ++ [y]) → w.grownBy w' v.ownBlock → wpListIn F md Tryz.prog ops Q rest (a.put o.dst v') w') : wpListIn F md Tryz.prog ops Q (o :: rest) a w := by
  obtain ⟨i0, hi, hz0, hz1, hz2⟩ := info_parts hK.info
  refine wpListIn_append_own _ hgd s x K.S ho base K.T i0 _ K.sz K.bytes hK.und hi hz0 hz1 hz2 hK.zsz hK.pos v L.length _ hs hown ⟨g, 0, none⟩ 1 1 (K.Vs [y]) hx (by rw [hK.tofit.Vs_len]; rfl) (hrow.cells hK.tofit _ rfl) (hK.Vs_ones _) hlen hbytes hbase ?_
  intro v' w' h1 h2 _
  rw [← Kd.Vs_append] at h1
  refine h v' w' ?_ h2
  unfold OwnK
  rw [List.length_append]
  exact h1
set_option maxRecDepth 100000 in
set_option maxHeartbeats 1000000 in
theorem appendSeq_any (h : ArgK kS w l ad m c) (hby : m * 16 ≤ 140737488355328) (gb : Nat) (hgb : w.cell? ⟨gb, 0, none⟩ = some (.slice ad m c)) (hgl : gb < w.heap.size) :
    Calls Tryz.prog 51 #[.slice none 0 0, .func (.func 104) #[] #[.pointer (some ⟨gb, 0, none⟩)]] w fun e w' => ∃ v, e = .returned v ∧ OwnK kS w' (w.heap.size + 3) v l ∧ Below w.heap.size w w' := by
  obtain ⟨W1, hW1⟩ : ∃ W1, w.alloc (.cells #[.slice none 0 0] 22) = W1 := ⟨_, rfl⟩
  have hb1 : Below w.heap.size w W1 := by rw [← hW1]; exact (Below.refl _ w).alloc (Nat.le_refl _) _
  have hs1 : W1.heap.size = w.heap.size + 1 := by rw [← hW1]; simp
  have hI1 : ApI w [] W1 := ⟨hb1, .slice none 0 0, by rw [← hW1]; exact heap_alloc_new w _, OwnK.nil _ _⟩
  obtain ⟨Gs, hG1, hG2, hG3⟩ : ∃ Gs : List Nat, gb ∈ Gs ∧ (∀ b off, ad = some ⟨b, off, none⟩ → m ≠ 0 → b ∈ Gs) ∧ ∀ g ∈ Gs, g < w.heap.size := by
    by_cases h0 : m = 0
    · exact ⟨[gb], by simp, fun _ _ _ hm => absurd h0 hm, fun g hg => by simp at hg; omega⟩
    · obtain ⟨b, off, e, hb, -⟩ := h.cells (by omega)
      exact ⟨[gb, b], by simp, fun b' off' e' _ => by rw [e] at e'; cases e'; simp, fun g hg => by simp at hg; omega⟩
  have HSq := hid ((vals_seq (K := fun _ _ => True) h gb Gs hgb hG1 hG2 hG3).later hb1)
  have HI := hid hI1
  have HG := hid hG3
  have hl := h.len
  have hmx : m ≤ 8796093022208 := by omega
  clear h hb1 hI1 hgb hG1 hG2 hG3
  refine (callsIn_wide (n := 3)).1 ?_
  refine callsIn_of_wp_marks Tryz.func51 rfl trivial ?_ rfl
  simp only [Tryz.ntmps51, List.size_toArray, List.length_cons, List.length_nil, Nat.reduceAdd, Nat.reduceSub, Array.replicate_succ, Array.replicate_zero, List.push_toArray, List.append_toArray, List.nil_append, List.cons_append]
  gi_wp2
  clear hW1
  refine range_R (w.heap.size + 1) hs1 (gf := 104) rfl enters_vals HSq.out (fun h k => h.trans k) ?kb (fun k Z => ApI w (l.take k) Z) (fun _ _ => False) ?hI ?hIx (fun _ _ _ => trivial) ?h0 ?hps ?hRc
    (fun args => { tmps := #[.slice none 0 0, .func (.func 104) #[] #[.pointer (some ⟨gb, 0, none⟩)], .pointer (some ⟨w.heap.size, 0, none⟩), undef, .slice none 0 0, args.getD 0 undef, .func (.func 104) #[] #[.pointer (some ⟨gb, 0, none⟩)], args.getD 0 undef, undef, undef, undef, undef, undef], defers := [] })
    ?assign ?body ?done ?stop
  case kb => exact fun Z o hZ => ⟨by simp, fun g hg => World.putObj_heap_other (by have := HG.out g hg; omega)⟩
  case hI => exact fun k Z Z' h1 hc => h1.chg hc (fun g hg => by simp at hg; omega)
  case hIx => exact fun _ _ _ h _ => h
  case h0 => exact HI.out
  case hps =>
    rintro k args X ⟨_, rfl⟩
    rfl
  case hRc => exact fun k args X o h _ o' => h
  case assign =>
    rintro q k args X L ⟨hk, rfl⟩ hL
    clear HSq HI HG
    generalize nmS (l.getD k []) = e0 at *
    gi_wp2
    exact hL
  case body =>
    rintro q k args X hk hX hI ⟨hkm, rfl⟩
    obtain ⟨v, hb0, hO⟩ := hI.box
    obtain ⟨ad1, cc, rfl, -⟩ := hO.form kS_ok.tofit
    have hlk : (l.take k).length = k := by rw [List.length_take, hl]; omega
    rw [hlk] at hb0 hO
    have a0 : X.cell? ⟨w.heap.size, 0, none⟩ = some (.slice ad1 k cc) := hb0.cell 0
    have hXs : w.heap.size + 3 ≤ X.heap.size := by omega
    have HLT := hid (take_snoc_any l [] k (by rw [hl]; exact hkm))
    have HLk := hid hlk
    obtain ⟨d, hd⟩ : ∃ d, l.getD k [] = d := ⟨_, rfl⟩
    rw [hd] at HLT ⊢
    obtain ⟨ds, hds⟩ : ∃ ds, nmS d = ds := ⟨_, rfl⟩
    have HRw := hid (nm_row X ds d hds)
    have HO2 := hid (hO.later ((Below.refl _ X).alloc (Nat.le_refl _) (.cells #[.string ds] 9)))
    have HSt : Hid (∀ w3 v', OwnK kS w3 (w.heap.size + 3) v' (l.take k ++ [d]) → (X.alloc (.cells #[.string ds] 9)).grownBy w3 (Value.slice ad1 k cc).ownBlock → _) := fun w3 v' h1 h2 => ApI.step (d := d) hI.below hXs hb0 hO h1 h2
    rw [hlk] at HSt
    show Code.wpIn _ _ _ _ _ { tmps := #[.slice none 0 0, .func (.func 104) #[] #[.pointer (some ⟨gb, 0, none⟩)], .pointer (some ⟨w.heap.size, 0, none⟩), undef, .slice none 0 0, .string (nmS d), .func (.func 104) #[] #[.pointer (some ⟨gb, 0, none⟩)], .string (nmS d), undef, undef, undef, undef, undef], defers := [] } _
    rw [hds]
    clear hI hb0 hO HSq HI hds hd hlk
    gi_wp2_with (first
      | (gi_at_builtin; refine appIn_kd kS_ok rfl _ _ rfl (w.heap.size + 3) (.slice ad1 k cc) (l.take k) rfl HO2.out X.heap.size d rfl HRw.out (by rw [HLk.out]; unfold maxLen; omega) (by rw [HLk.out]; show (k + 1) * 16 ≤ _; omega) (by simp; omega) ?_; intro v3 w3 hown3 hg3; obtain ⟨⟨a3, c3, rfl⟩, z0, z1, z2⟩ := HSt.out w3 v3 hown3 hg3; have HZ := hid z2; clear hown3 hg3 z2))
    refine ⟨⟨?_, ?_⟩, ?_, ?_⟩
    · exact HZ.out.2.2 _ (by omega) (by omega)
    · exact HZ.out.2.2 _ (by omega) (by omega)
    · exact ⟨HZ.out.2.1, fun g hg => HZ.out.2.2 g (by have := HG.out g hg; omega) (by have := HG.out g hg; omega)⟩
    · rw [HLT.out]
      exact HZ.out.1
  case done =>
    rintro X hX hI hD
    rw [List.take_of_length_le (by rw [hl]; exact Nat.le_refl _)] at hI
    obtain ⟨v, hb0, hO⟩ := hI.box
    obtain ⟨ad1, cc, rfl, -⟩ := hO.form kS_ok.tofit
    rw [hl] at hb0 hO
    have a0 : X.cell? ⟨w.heap.size, 0, none⟩ = some (.slice ad1 m cc) := hb0.cell 0
    have hpc := putObj_chg X (w.heap.size + 1) _ (.deferred none) (Or.inl rfl)
    have HO := hid (hO.chg hpc (fun g hg hm => by have := (hO.block g hg).1; simp at hm; omega))
    have HB := hid ((hI.chg hpc (fun g hg => by simp at hg; omega)).below)
    have HD := hid hD
    clear hI hD HSq HI HG hb0 hO hpc
    gi_wp2
    refine ⟨by simp, .inl ⟨_, _, rfl, run_takeDeferred HD.out, ?_⟩⟩
    exact ⟨_, results_tmp Tryz.results51 _ _ _, _, rfl, HO.out, HB.out⟩
  case stop => exact fun k X hk h _ => h.elim
theorem collect_any (h : ArgK kS w l ad m c) (hby : m * 16 ≤ 140737488355328) (gb : Nat) (hgb : w.cell? ⟨gb, 0, none⟩ = some (.slice ad m c)) (hgl : gb < w.heap.size) :
    Calls Tryz.prog 32 #[.func (.func 104) #[] #[.pointer (some ⟨gb, 0, none⟩)]] w fun e w' => ∃ v, e = .returned v ∧ OwnK kS w' w.heap.size v l ∧ Below w.heap.size w w' := by
  have HA := hid (appendSeq_any h hby gb hgb hgl)
  clear h hgb
  go_enter Tryz.func32, Tryz.ntmps32
  go_wp2_with (go_at_call 51; (with_reducible_and_instances (refine HA.out.mono ?_)); rintro e w2 ⟨v, rfl, ho, hb⟩; have HO := hid ho; have HB := hid hb; clear ho hb)
  go_ret
  exact ⟨v, rfl, HO.out.mono (by omega), HB.out⟩
theorem sorted_any (h : ArgK kS w l ad m c) (hby : m * 16 ≤ 140737488355328) (gb : Nat) (hgb : w.cell? ⟨gb, 0, none⟩ = some (.slice ad m c)) (hgl : gb < w.heap.size) :
    Calls Tryz.prog 17 #[.func (.func 104) #[] #[.pointer (some ⟨gb, 0, none⟩)]] w fun e w' => ∃ v, e = .returned v ∧ OwnK kS w' w.heap.size v (risN l) ∧ Below w.heap.size w w' := by
  have HA := hid (collect_any h hby gb hgb hgl)
  have HL : Hid (l.length < 4611686018427387904) := by have := h.len; show _ < _; omega
  clear h hgb
  go_enter Tryz.func17, Tryz.ntmps17
  go_wp2_with (first
    | (go_at_call 32; (with_reducible_and_instances (refine HA.out.mono ?_)); rintro e w2 ⟨v, rfl, ho, hb⟩; have HS := hid (sortS_own ho HL.out); have HB := hid hb; have HBl := hid ho.block; clear ho hb)
    | (go_at_call 33; (with_reducible_and_instances (refine HS.out.mono ?_)); rintro e w3 ⟨rfl, ho, hg⟩; have HO := hid ho; have HG := hid hg; clear ho hg))
  go_ret
  exact ⟨v, rfl, HO.out, HB.out.grown HG.out HB.out.size (fun k hk => (HBl.out k hk).1)⟩
theorem rising_any (h : ArgK kS w l ad m c) (hby : m * 16 ≤ 140737488355328) :
    Calls Tryz.prog 90 #[.slice ad m c] w fun e w' => ∃ v, e = .returned v ∧ OwnK kS w' w.heap.size v (risN l) ∧ Below w.heap.size w w' := by
  have hb0 : Blk (w.alloc (.cells #[.slice ad m c] 22)) w.heap.size _ _ := heap_alloc_new w _
  have hbl := (Below.refl w.heap.size w).alloc (Nat.le_refl _) (.cells #[.slice ad m c] 22)
  have HS := hid (sorted_any (h.later hbl) hby w.heap.size (hb0.cell 0) (by simp))
  have HB := hid hbl
  clear h hb0 hbl
  go_enter Tryz.func90, Tryz.ntmps90
  go_wp2_with (first
    | (go_at_call 99; refine (vals_any ad m c _).mono ?_; rintro e w2 ⟨rfl, hw2⟩; obtain rfl := hw2.symm)
    | (go_at_call 17; (with_reducible_and_instances (refine HS.out.mono ?_)); rintro e w3 ⟨v, rfl, ho, hb⟩; have HO := hid ho; have HB3 := hid hb; clear ho hb))
  go_ret
  exact ⟨v, rfl, HO.out.mono (by simp), HB.out.trans (HB3.out.mono (by simp))⟩
end Go.Proofs.YtipgociofjokeaaGreat
namespace Go.Proofs.YtipgociofjokeaaGreat
open Go.RowKit Go.Sort Go.Lib
variable {w w' : World} {ad : Option Addr} {m c : Nat} {l : List Nm}

def noName (s : Nm) : Bool := s.length == 0 || decide (64 < s.length)
/-- Members and partitions that may be, as the program asks it. -/
def mayN (l : List Nm) (parts : Int) : Bool := !(decide (1000 < l.length) || decide (parts < 0) || decide (32 < parts)) && (!(risN l).any noName && (compact (risN l)).length == l.length)
theorem nmS_size (s : Nm) : (nmS s).size = s.length := by simp [nmS, ByteArray.size]
theorem noName_any (s : Nm) (w : World) : Calls Tryz.prog 92 #[.string (nmS s)] w fun e w' => e = .returned (.bool (noName s)) ∧ w' = w := by
  have hz := nmS_size s
  have HV : Hid (noName s = ((s.length == 0) || decide (64 < s.length))) := rfl
  generalize nmS s = t at *
  rw [HV.out]
  clear HV
  generalize s.length = n at *
  by_cases h0 : n = 0
  · subst h0
    go_enter Tryz.func92, Tryz.ntmps92
    go_wp2_with fail
    go_ret
    exact ⟨by simp, rfl⟩
  · have hb : ((n : Int) == 0) = false := by simp; omega
    by_cases h1 : 64 < n
    · go_enter Tryz.func92, Tryz.ntmps92
      go_wp2_with fail
      go_ret
      exact ⟨by simp [h1]; omega, rfl⟩
    · go_enter Tryz.func92, Tryz.ntmps92
      go_wp2_with fail
      go_ret
      have h2 : ¬ (64 : Int) < (n : Int) := by omega
      have h3 : (n == 0) = false := by simpa using h0
      exact ⟨by simp [h1, h2, h3], rfl⟩
theorem holds_S {base g cap : Nat} (h : OwnK kS w base (.slice (some ⟨g, 0, none⟩) m cap) l) (hl : l.length = m) : Holds encStr w g 0 l.toArray ∧ m ≤ cap ∧ cap ≤ maxLen ∧ g < w.heap.size := by
  subst hl
  rcases h.2 with ⟨e, -⟩ | ⟨g', cap', cur, e, hb, hg, h1, h2, h3, h4⟩
  · cases e
  · cases e
    rw [Vs_S, show kS.sz = 1 from rfl, Nat.mul_one] at h4
    exact ⟨holds_of_block hg h4, h1, h2, (Array.getElem?_eq_some_iff.1 hg).1⟩
theorem eqS (T : TypeId) : EqlAt Tryz.prog T encStr (fun x y => decide (x = y)) :=
  ⟨fun x y w => by simp [binOp, Op.stringOp]; by_cases h : x = y <;> simp [h], fun op a b x y w => by rw [eqGuard_at_string]; rfl⟩
theorem neS (T : TypeId) : NeqAt Tryz.prog T encStr (fun x y => decide (x = y)) :=
  ⟨fun x y w => by simp [binOp, Op.stringOp]; by_cases h : x = y <;> simp [h], fun op a b x y w => by rw [eqGuard_at_string]; rfl⟩
theorem enters_noName : ∀ args w, (callFunc 92 args).run Tryz.prog w = .ok (.enter 92 args) w := fun _ _ => by kernel_rfl
theorem contains_any {base : Nat} {v : Value} (h : OwnK kS w base v l) (hl : l.length ≤ 1048576) : Calls Tryz.prog 91 #[v, .func (.func 92) #[] #[]] w fun e w' => e = .returned (.bool (l.any noName)) ∧ Below w.heap.size w w' := by
  rcases h.2 with ⟨rfl, h0⟩ | ⟨g, cap, cur, rfl, -⟩
  · obtain rfl : l = [] := List.eq_nil_of_length_eq_zero h0
    refine (show Calls Tryz.prog 91 #[.slice none 0 0, .func (.func 92) #[] #[]] w _ from AnyE.slices_ContainsFunc_empty Tryz.containsS none 0 _ w).mono ?_
    rintro e w' ⟨rfl, rfl⟩
    exact ⟨rfl, Below.refl _ _⟩
  · obtain ⟨hH, -, -, -⟩ := holds_S h rfl
    refine (show Calls Tryz.prog 91 #[.slice (some ⟨g, 0, none⟩) l.length cap, .func (.func 92) #[] #[]] w _ from AnyE.slices_ContainsFunc Tryz.containsS encStr noName 92 #[] enters_noName g 0 l.length cap l w (fun W x _ => (show Calls Tryz.prog 92 #[encStr x] W _ from noName_any x W).mono (fun e w' h => ⟨h.1, 0, h.2⟩)) (Nat.le_refl _) (by omega) (fun j hj => ?_)).mono ?_
    · have := (hH j (by simpa using hj)).1
      rw [this]
      congr 2
      simp [getElem!_def]
    · rintro e w' ⟨rfl, q, rfl⟩
      rw [List.take_of_length_le (Nat.le_refl _)]
      exact ⟨rfl, below_drewN' (Below.refl _ _) q⟩
theorem putS_below {base g n off : Nat} (d : Array Nm) (hb : base ≤ g) : Below base w (putRow encStr (Sort.ahead w n) g off d) := by
  refine ⟨rfl, rfl, rfl, by simp [putRow, mapBlock, Sort.ahead], fun k hk => ?_⟩
  have : g ≠ k := by omega
  simp [putRow, mapBlock, Sort.ahead, Array.getElem?_modify, this]
theorem compact_any {base : Nat} {v : Value} (h : OwnK kS w base v l) (hl : l.length ≤ 1048576) : Calls Tryz.prog 93 #[v] w fun e w' => ∃ ad c, e = .returned (.slice ad (compact l).length c) ∧ Below base w w' := by
  rcases h.2 with ⟨rfl, h0⟩ | ⟨g, cap, cur, rfl, hb, -⟩
  · obtain rfl : l = [] := List.eq_nil_of_length_eq_zero h0
    have HB := hid h
    go_enter Tryz.func93, Tryz.ntmps93
    go_wp2_with fail
    go_ret
    exact ⟨none, 0, rfl, Below.refl _ _⟩
  · obtain ⟨hH, h1, h2, -⟩ := holds_S h rfl
    have hz : ∀ w, (zeroValue 9).run Tryz.prog w = .ok (encStr []) w := fun w => by
      obtain ⟨i0, hi, hz0, hz1, hz2⟩ := info_parts kS_ok.info
      simp [zeroValue, typeInfo, hi, hz0]
    have hC := AnyE.slices_Compact Tryz.compactS encStr (by intro _; rfl) (eqS _) (neS _) [] hz g 0 cap l.toArray w hH (by simp; omega) (by simpa using h1)
    simp only [List.size_toArray] at hC
    refine (show Calls Tryz.prog 93 #[.slice (some ⟨g, 0, none⟩) l.length cap] w _ from hC).mono ?_
    rintro e w' ⟨rfl, q, rfl⟩
    exact ⟨_, _, rfl, putS_below _ hb⟩
set_option maxHeartbeats 1000000 in
theorem may_any (h : ArgK kS w l ad m c) (p : Int) : Calls Tryz.prog 72 #[.slice ad m c, .int .i64 p] w fun e w' => e = .returned (.bool (mayN l p)) ∧ Below w.heap.size w w' := by
  have hl := h.len
  have hmm : m ≤ 9223372036854775807 := by have := h.cap; have := h.room; unfold maxLen at this; omega
  by_cases h1 : 1000 < m
  · have HV : Hid (mayN l p = false) := by unfold mayN; rw [hl]; simp [h1]; exact trivial
    rw [HV.out]
    clear h HV
    go_enter Tryz.func72, Tryz.ntmps72
    go_wp2_with fail
    go_ret
    exact ⟨rfl, Below.refl _ _⟩
  · by_cases h2 : p < 0
    · have HV : Hid (mayN l p = false) := by unfold mayN; rw [hl]; simp [h2]; exact trivial
      rw [HV.out]
      clear h HV
      go_enter Tryz.func72, Tryz.ntmps72
      go_wp2_with fail
      go_ret
      exact ⟨rfl, Below.refl _ _⟩
    · by_cases h3 : 32 < p
      · have HV : Hid (mayN l p = false) := by unfold mayN; rw [hl]; simp [h3]; exact trivial
        rw [HV.out]
        clear h HV
        go_enter Tryz.func72, Tryz.ntmps72
        go_wp2_with fail
        go_ret
        exact ⟨rfl, Below.refl _ _⟩
      · have HV : Hid (mayN l p = (!(risN l).any noName && (compact (risN l)).length == m)) := by unfold mayN; rw [hl]; simp [h1, h2, h3]; exact trivial
        rw [HV.out]
        have HR := hid (rising_any h (by omega))
        have HLR : Hid ((risN l).length ≤ 1048576) := by rw [risN_len, hl]; show m ≤ 1048576; omega
        clear h HV hl
        generalize risN l = s at *
        cases hn : s.any noName with
        | true =>
          go_enter Tryz.func72, Tryz.ntmps72
          go_wp2_with (first
            | (go_at_call 90; (with_reducible_and_instances (refine HR.out.mono ?_)); rintro e w1 ⟨v, rfl, ho, hb⟩; have HC := hid (contains_any ho HLR.out); rw [hn] at HC; have HB := hid hb; clear ho hb)
            | (go_at_call 91; (with_reducible_and_instances (refine HC.out.mono ?_)); rintro e w2 ⟨rfl, hb⟩; have HB2 := hid hb; clear hb))
          go_ret
          exact ⟨by simp, HB.out.trans (HB2.out.mono HB.out.size)⟩
        | false =>
          have HV2 : Hid ((!false && (compact s).length == m) = ((compact s).length == m)) := by simp; exact trivial
          rw [HV2.out]
          clear HV2
          have HCn : Hid (∀ (W : World) (v : Value), OwnK kS W w.heap.size v s → Calls Tryz.prog 93 #[v] W fun e w' => ∃ ad c, e = .returned (.slice ad (compact s).length c) ∧ Below w.heap.size W w') := fun W v h => compact_any h HLR.out
          have hq : (compact s).length ≤ 1048576 := by
            have : (compact s).length ≤ s.length := by
              unfold compact compactUpTo
              rw [List.length_map]
              exact Nat.le_trans (List.length_filter_le _ _) (by simp)
            have := HLR.out
            omega
          generalize (compact s).length = q at *
          go_enter Tryz.func72, Tryz.ntmps72
          go_wp2_with (first
            | (go_at_call 90; (with_reducible_and_instances (refine HR.out.mono ?_)); rintro e w1 ⟨v, rfl, ho, hb⟩; have HC := hid (contains_any ho HLR.out); rw [hn] at HC; have HB := hid hb; have HO := hid ho; clear ho hb)
            | (go_at_call 91; (with_reducible_and_instances (refine HC.out.mono ?_)); rintro e w2 ⟨rfl, hb⟩; have HCm := hid (HCn.out w2 v (HO.out.later hb)); have HB2 := hid hb; clear hb)
            | (go_at_call 93; (with_reducible_and_instances (refine HCm.out.mono ?_)); rintro e w3 ⟨ad3, c3, rfl, hb⟩; have HB3 := hid hb; clear hb))
          go_ret
          refine ⟨?_, (HB.out.trans (HB2.out.mono HB.out.size)).trans HB3.out⟩
          congr 2
          by_cases e : q = m
          · subst e; simp
          · have e2 : (q == m) = false := by simpa using e
            rw [e2]; simp; omega
end Go.Proofs.YtipgociofjokeaaGreat
namespace Go.Proofs.YtipgociofjokeaaGreat
open Go.RowKit Go.Sort Go.Shelf
variable {w w' : World} {σ : Type}

/-- What a step gives a member that has so many. -/
abbrev Stp (σ : Type) := σ → Nm → Nat → List Int × σ
/-- A step taken with member i. -/
def stp (f : Stp σ) (names : List Nm) (sp : σ × List (List Int)) (i : Nat) : σ × List (List Int) :=
  ((f sp.1 (names.getD i []) (sp.2.getD i []).length).2, sp.2.set i (sp.2.getD i [] ++ (f sp.1 (names.getD i []) (sp.2.getD i []).length).1))
/-- .. with the first i members. -/
def allS (f : Stp σ) (names : List Nm) (sp : σ × List (List Int)) (i : Nat) : σ × List (List Int) := (List.range i).foldl (stp f names) sp
/-- The first j steps, each with all members. -/
def stepsN (fs : Nat → Stp σ) (names : List Nm) (sp : σ × List (List Int)) : Nat → σ × List (List Int)
  | 0 => sp
  | j + 1 => allS (fs j) names (stepsN fs names sp j) names.length
theorem allS_succ (f : Stp σ) (names : List Nm) (sp : σ × List (List Int)) (i : Nat) : allS f names sp (i + 1) = stp f names (allS f names sp i) i := by simp [allS, List.range_succ, List.foldl_append]
/-- The word of a step: a function value that gives what f says, and changes nothing but F; Inv is what it wants of the world. -/
def StepL (f : Stp σ) (gf : Nat) (lb : Array Value) (F : List Nat) (Inv : σ → World → Prop) : Prop :=
  (∀ args w, (callFunc gf args).run Tryz.prog w = .ok (.enter gf args) w) ∧
  ∀ s W nm ad m c, Inv s W → nm.length ≤ 64 → m ≤ 65536 → (f s nm m).1.length ≤ 1024 ∧ Calls Tryz.prog gf (#[.agg #[.string (nmS nm), .slice ad m c]] ++ lb) W fun e W' => ∃ v, e = .returned v ∧ OwnK kZ W' W.heap.size v (f s nm m).1 ∧ Inv (f s nm m).2 W' ∧ Chg F W W'
theorem sh_row (Y : World) (s : ByteArray) (d : Nm) (h : nmS d = s) : RowK kSh (Y.alloc (.cells #[.string s, .slice none 0 0] 87)) (some ⟨Y.heap.size, 0, none⟩) [(d, sl0)] := by
  subst h
  refine Or.inr ⟨_, 0, rfl, by simp, fun i hi c hc => ?_⟩
  obtain rfl : i = 0 := by simp at hi; omega
  have hb : Blk (Y.alloc (.cells #[.string (nmS d), .slice none 0 0] 87)) Y.heap.size _ _ := heap_alloc_new Y _
  have : kSh.sz = 2 := rfl
  rw [Nat.zero_mul, Nat.zero_add, hb.cell c]
  rcases (show c = 0 ∨ c = 1 by omega) with rfl | rfl <;> rfl
theorem own_chg {N : Nat} {v : Value} {W W' : World} (hg : W.grownBy W' v.ownBlock) (hb : ∀ g, v.ownBlock = some g → N ≤ g) : ∃ G : List Nat, (∀ k ∈ G, N ≤ k) ∧ Chg G W W' := by
  cases ho : v.ownBlock with
  | none => exact ⟨[], by simp, grown_chg hg _ (fun g hg => by rw [ho] at hg; cases hg)⟩
  | some g => exact ⟨[g], fun k hk => by simp at hk; subst hk; exact hb k ho, grown_chg hg _ (fun g' hg' => by rw [ho] at hg'; cases hg'; simp)⟩
/-- The first i sorted. -/
def srtN (P : List (List Int)) (i : Nat) : List (List Int) := (P.take i).map risZ ++ P.drop i
theorem srtN_zero (P : List (List Int)) : srtN P 0 = P := by simp [srtN]
theorem srtN_all (P : List (List Int)) : srtN P P.length = P.map risZ := by simp [srtN]
theorem srtN_at (P : List (List Int)) (i : Nat) (hi : i < P.length) : (srtN P i).getD i [] = P.getD i [] ∧ (srtN P i).set i (risZ (P.getD i [])) = srtN P (i + 1) := by
  have hl : ((P.take i).map risZ).length = i := by rw [List.length_map, List.length_take]; omega
  have hd : P.drop i = P.getD i [] :: P.drop (i + 1) := by rw [List.drop_eq_getElem_cons hi, List.getD_eq_getElem?_getD, List.getElem?_eq_getElem hi]; rfl
  unfold srtN
  constructor
  · rw [List.getD_eq_getElem?_getD, List.getElem?_append_right (by omega), hl, Nat.sub_self, hd]; rfl
  · rw [List.set_append_right _ _ (by omega), hl, Nat.sub_self, hd, take_snoc_any P [] i hi, List.map_append]
    simp
/-- What the box of a loop's share says. -/
def SBx (B : Nat) (ns : ByteArray) (xa : Option Addr) (xm xc : Nat) (W : World) : Prop := W.cell? ⟨B, 0, none⟩ = some (.string ns) ∧ W.cell? ⟨B, 1, none⟩ = some (.slice xa xm xc)
theorem deal_step {W1 W2 W3 : World} {N N1 B g n c i : Nat} {ns : ByteArray} {xa : Option Addr} {xm xc : Nat} {A : List ShA} {P : List (List Int)} {s' : Sl} {got : List Int} {F : List Nat} (hF : ∀ g ∈ F, g < N) (hN : N ≤ N1) (hB : Blk W1 B #[.string ns, .slice xa xm xc] 87) (hBN : N1 ≤ B) (hg : g < B)
    (h : Shs W1 N1 (.slice (some ⟨g, 0, none⟩) n c) A P) (hi : i < A.length) (hx : (A.getD i sh0).2 = ⟨xa, xm, xc⟩) (hxB : ∀ b, (Value.slice xa xm xc).ownBlock = some b → b < B)
    (hC : Chg F W1 W2) (hO : OwnK kZ W3 N1 s'.v (P.getD i [] ++ got)) (hG : W2.grownBy W3 (Value.slice xa xm xc).ownBlock) (hL : ∀ b, s'.v.ownBlock = some b → (Value.slice xa xm xc).ownBlock = some b ∨ W2.heap.size ≤ b) :
    (W3.cell? ⟨g, i * 2 + 1, none⟩ = some (.slice xa xm xc) ∧ W3.frozen? ⟨g, i * 2 + 1, none⟩ = false) ∧ SBx B ns xa xm xc W3 ∧ SBx B ns xa xm xc (W3.setCell ⟨g, i * 2 + 1, none⟩ s'.v) ∧
    Shs (W3.setCell ⟨g, i * 2 + 1, none⟩ s'.v) N1 (.slice (some ⟨g, 0, none⟩) n c) (A.set i ((A.getD i sh0).1, s')) (P.set i (P.getD i [] ++ got)) ∧ (∃ G : List Nat, (∀ k ∈ G, N ≤ k) ∧ Chg G W2 (W3.setCell ⟨g, i * 2 + 1, none⟩ s'.v)) := by
  have h2 : Shs W2 N1 (.slice (some ⟨g, 0, none⟩) n c) A P := h.chg hC (fun g hg => Nat.lt_of_lt_of_le (hF g hg) hN)
  have hv : (A.getD i sh0).2.v = .slice xa xm xc := by rw [hx]; rfl
  have hst := h2.step hi hO (by rw [hv]; exact hG) (by rw [hv]; exact hL)
  have hown : ∀ b, (Value.slice xa xm xc).ownBlock = some b → N1 ≤ b := fun b hb => ((h2.part i hi).block b (by rw [hv]; exact hb)).1
  have hB2 : Blk W2 B #[.string ns, .slice xa xm xc] 87 := hB.chg hC (fun hm => by have := hF B hm; omega)
  have hB3 : Blk W3 B #[.string ns, .slice xa xm xc] 87 := (hG.block B hB2.lt (fun e => by have := hxB B e.symm; omega)).trans hB2
  have hB4 := hB3.other (show B ≠ g by omega) (i * 2 + 1) s'.v
  obtain ⟨G, hGk, hGc⟩ := own_chg (N := N1) hG hown
  have hgN := (h2.row.block g rfl).1
  have hrow3 : OwnK kSh W3 N1 (.slice (some ⟨g, 0, none⟩) n c) A := h2.row.keep (fun g' hg' => hG.block g' (h2.row.block g' hg').2.1 (fun e => by
    have e1 : g = g' := by cases hg'; rfl
    subst e1
    obtain ⟨cur, hgc⟩ := (h2.row.block g hg').2.2
    obtain ⟨cur2, hc2⟩ := ((h2.part i hi).block g (by rw [hv]; exact e.symm)).2.2
    have hgc' : W2.heap[g]? = some (.cells cur 87 (0, 0)) := hgc
    rw [hgc'] at hc2
    simp at hc2))
  obtain ⟨ad', c', e', hA'⟩ := hrow3.form kSh_ok.tofit
  obtain ⟨rfl, -, -⟩ : (some ⟨g, 0, none⟩ : Option Addr) = ad' ∧ n = A.length ∧ c = c' := by injection e' with e1 e2 e3; exact ⟨e1, e2, e3⟩
  obtain ⟨b0, off0, eb, -, hcell⟩ := hA'.cells (by omega)
  cases eb
  have hcc := hcell i hi 1 (by decide)
  rw [Nat.zero_add] at hcc
  have e2 : A.getD i kSh.z = A.getD i sh0 := rfl
  rw [e2] at hcc
  have e3 : (kSh.V (A.getD i sh0))[1]? = some (.slice xa xm xc) := by show some ((A.getD i sh0).2.v) = _; rw [hv]
  obtain ⟨cur3, hg3⟩ := (hrow3.block g rfl).2.2
  refine ⟨⟨hcc.trans e3, Blk.free (cs := cur3) (T := 87) hg3 _⟩, ⟨hB3.cell 0, hB3.cell 1⟩, ⟨hB4.cell 0, hB4.cell 1⟩, hst, ⟨g :: G, fun k hk => by rcases List.mem_cons.1 hk with rfl | hk; omega; have := hGk k hk; omega, (hGc.mono (by intro k hk; exact List.mem_cons_of_mem _ hk)).set (Or.inl (by simp)) _ _⟩⟩
set_option maxRecDepth 20000 in
set_option maxHeartbeats 4000000 in
theorem deal_any {ad : Option Addr} {m c : Nat} {l : List Nm} (h : ArgK kS w l ad m c) (hm : m ≤ 1000) (hnl : ∀ s ∈ l, s.length ≤ 64) (fs : Nat → Stp σ) (k : Nat) (hk : k ≤ 8) (gfs : Nat → Nat) (lbs : Nat → Array Value) (bs : Nat) (hbs : bs < w.heap.size) (hcs : ∀ j, j < k → w.cell? ⟨bs, j, none⟩ = some (.func (.func (gfs j)) #[] (lbs j)))
    (F : List Nat) (hF : ∀ g ∈ F, g < w.heap.size) (hbF : bs ∉ F) (Inv : σ → World → Prop) (hInv : ∀ s W W' G, Inv s W → Chg G W W' → (∀ g ∈ G, w.heap.size ≤ g) → Inv s W') (hst : ∀ j, j < k → StepL (fs j) (gfs j) (lbs j) F Inv) (s0 : σ) (h0 : Inv s0 w) :
    Calls Tryz.prog 82 #[.slice ad m c, .slice (some ⟨bs, 0, none⟩) k k] w fun e w' => ∃ v A, e = .returned v ∧ Shs w' w.heap.size v A ((stepsN fs (risN l) (s0, List.replicate m []) k).2.map risZ) ∧ A.map (·.1) = risN l ∧ Inv (stepsN fs (risN l) (s0, List.replicate m []) k).1 w' ∧ Chg F w w' := by
  have HRi := hid (rising_any h (by omega))
  have HLr : Hid ((risN l).length = m) := by rw [risN_len]; exact h.len
  have HSn : Hid (∀ i, i < m → ((risN l).getD i []).length ≤ 64) := fun i hi => by
    have hmem : (risN l).getD i [] ∈ risN l := by rw [List.getD_eq_getElem?_getD, List.getElem?_eq_getElem (by rw [HLr.out]; exact hi)]; exact List.getElem_mem _
    exact hnl _ ((risN_perm l).mem_iff.1 hmem)
  have HCs := hid hcs
  have HF := hid hF
  have HInv0 := hid hInv
  have HSt := hid hst
  have HI0 := hid h0
  clear h hcs hF hInv hst h0 hnl
  generalize risN l = s at *
  go_enter Tryz.func82, Tryz.ntmps82
  go_wp2_with (go_at_call 90; (with_reducible_and_instances (refine HRi.out.mono ?_)); rintro e w1 ⟨vn, rfl, hOn, hBn⟩; obtain ⟨na, nc, rfl, hAn⟩ := hOn.form kS_ok.tofit; rw [HLr.out] at hAn ⊢; have HAn := hid hAn; have HBn := hid hBn; have HN1 : Hid (w.heap.size ≤ w1.heap.size) := hBn.size; clear hOn hBn hAn)
  obtain ⟨N1, hN1⟩ : ∃ N1, w1.heap.size = N1 := ⟨_, rfl⟩
  rw [hN1] at HN1
  go_loopw [5, 17] (fun v i wr => ∃ (j : Nat) (a : Option Addr) (cc : Nat), j ≤ m ∧ i = .int .i64 (j : Int) ∧ v = .slice a j cc ∧ Hid (OwnK kSh wr N1 (.slice a j cc) ((s.take j).map (fun nm => (nm, sl0)))) ∧ Hid (Below N1 w1 wr)) (fun _ i _ => m - (intOf i).toNat)
  case atStart => exact ⟨0, none, 0, by omega, rfl, rfl, (by rw [List.take_zero]; exact OwnK.nil (K := kSh) w1 _), Below.refl _ _⟩
  case round =>
    obtain ⟨j, a, cc, hj, rfl, rfl, HO, HB⟩ := hrel
    by_cases hlt : j < m
    · have hA := HAn.out.later (by rw [hN1]; exact HB.out)
      obtain ⟨b, off, rfl, hs, hc⟩ := hA.cells (by omega)
      have r0 : wr.cell? ⟨b, off + j, none⟩ = some (.string (nmS (s.getD j []))) := by have := hc j hlt 0 (by decide); rw [Nat.mul_one, Nat.add_zero] at this; exact this
      have HTk := hid (take_snoc_any s [] j (by rw [HLr.out]; exact hlt))
      have HLk : Hid (((s.take j).map (fun nm => ((nm, sl0) : ShA))).length = j) := by rw [List.length_map, List.length_take, HLr.out]; show min j m = j; omega
      have hszr : N1 ≤ wr.heap.size := by have := HB.out.size; omega
      clear hc hs hA
      obtain ⟨d, hd⟩ : ∃ d, s.getD j [] = d := ⟨_, rfl⟩
      rw [hd] at r0 HTk
      obtain ⟨ds, hds⟩ : ∃ ds, nmS d = ds := ⟨_, rfl⟩
      rw [hds] at r0
      have HRw := hid (sh_row wr ds d hds)
      have HO2 := hid (HO.out.later ((Below.refl _ wr).alloc (Nat.le_refl _) (.cells #[.string ds, .slice none 0 0] 87)))
      clear hd hds
      go_wp2_with (first
        | (at_builtin; refine app_kd kSh_ok rfl _ _ rfl N1 (.slice a j cc) ((s.take j).map (fun nm => (nm, sl0))) rfl HO2.out (some ⟨wr.heap.size, 0, none⟩) 1 1 [(d, sl0)] rfl rfl (fun e => by cases e) HRw.out (by rw [HLk.out]; unfold maxLen; omega) (by rw [HLk.out]; show (j + 1) * 40 ≤ _; omega) (by simp; omega) ?_; intro v3 w3 hown3 hg3; obtain ⟨a3, c3, e3, -⟩ := hown3.form kSh_ok.tofit; rw [List.length_append, HLk.out] at e3; subst e3; have HO3 := hid hown3; have HB3 := hid ((HB.out.alloc (by omega) _).grown hg3 (by simp; omega) (fun k hk => (HO2.out.block k hk).1)); clear hown3 hg3))
      refine ⟨⟨j + 1, a3, c3, by omega, by go_num, rfl, (by rw [HTk.out, List.map_append]; exact HO3.out), HB3⟩, by simp [intOf]; omega⟩
    · obtain rfl : m = j := by omega
      clear hlt HAn
      obtain ⟨w2, rfl⟩ : ∃ x, x = wr := ⟨wr, rfl⟩
      have hBw : Below w.heap.size w w2 := HBn.out.trans (HB.out.mono HN1.out)
      have HSh0 : Hid (Shs w2 N1 (.slice a m cc) (s.map (fun nm => (nm, sl0))) (List.replicate m [])) := by
        have h := HO.out
        rw [List.take_of_length_le (by rw [HLr.out]; exact Nat.le_refl _)] at h
        have h2 := Shs.new h
        rw [HLr.out] at h2
        exact h2
      have HI2 := hid (HInv0.out s0 w w2 [] HI0.out (Chg.of hBw) (by simp))
      have HC2 : Hid (Chg F w w2) := Chg.of hBw
      have HNm0 : Hid ((s.map (fun nm => ((nm, sl0) : ShA))).map (·.1) = s) := by rw [List.map_map]; exact List.map_id s
      have HFN : Hid (∀ g ∈ F, g < N1) := fun g hg => Nat.lt_of_lt_of_le (HF.out g hg) HN1.out
      have hN2 : N1 ≤ w2.heap.size := by have := HB.out.size; omega
      clear hBw HO HB HBn HRi HI0 hN1
      go_wp2_with fail
      go_loopw [29] (fun jv wr => ∃ (j : Nat) (A : List ShA), j ≤ k ∧ jv = .int .i64 (j : Int) ∧ N1 ≤ wr.heap.size ∧ Hid (Shs wr N1 (.slice a m cc) A (stepsN fs s (s0, List.replicate m []) j).2) ∧ Hid (A.map (·.1) = s) ∧ Hid (Inv (stepsN fs s (s0, List.replicate m []) j).1 wr) ∧ Hid (Chg F w wr) ∧ Hid (∀ q, ((stepsN fs s (s0, List.replicate m []) j).2.getD q []).length ≤ j * 1024)) (fun jv _ => k - (intOf jv).toNat)
      case atStart => exact ⟨0, _, by omega, rfl, hN2, HSh0, HNm0, HI2, HC2, (fun q => by show ((List.replicate m []).getD q []).length ≤ 0; rw [List.getD_eq_getElem?_getD, List.getElem?_replicate]; split <;> simp)⟩
      case round =>
        obtain ⟨j, A, hj, rfl, hNr, HSh, HNm, HI, HC, HPl⟩ := hrel
        clear HSh0 HI2 HC2 HNm0 hN2
        by_cases hjk : j < k
        · have c0 : wr.cell? ⟨bs, j, none⟩ = some (.func (.func (gfs j)) #[] (lbs j)) := (HC.out.cell hbs hbF).trans (HCs.out j hjk)
          have HStj := hid (HSt.out j hjk)
          have HSucc : Hid (stepsN fs s (s0, List.replicate m []) (j + 1) = allS (fs j) s (stepsN fs s (s0, List.replicate m []) j) s.length) := rfl
          obtain ⟨sp, hsp⟩ : ∃ sp, stepsN fs s (s0, List.replicate m []) j = sp := ⟨_, rfl⟩
          rw [hsp] at HSh HI HPl HSucc
          clear hsp HSt
          generalize fs j = f at *
          generalize lbs j = lb at *
          generalize hgf : gfs j = gf at *
          clear hgf
          obtain ⟨w3, rfl⟩ : ∃ x, x = wr := ⟨wr, rfl⟩
          go_wp2_with fail
          go_loopw [35] (fun iv wr => ∃ (i : Nat) (A : List ShA), i ≤ m ∧ iv = .int .i64 (i : Int) ∧ N1 ≤ wr.heap.size ∧ Hid (Shs wr N1 (.slice a m cc) A (allS f s sp i).2) ∧ Hid (A.map (·.1) = s) ∧ Hid (Inv (allS f s sp i).1 wr) ∧ Hid (Chg F w wr) ∧ Hid (∀ q, ((allS f s sp i).2.getD q []).length ≤ (j + 1) * 1024) ∧ Hid (∀ q, i ≤ q → ((allS f s sp i).2.getD q []).length ≤ j * 1024)) (fun iv _ => m - (intOf iv).toNat)
          case atStart => exact ⟨0, A, by omega, rfl, hNr, HSh, HNm, HI, HC, (fun q => Nat.le_trans (HPl.out q) (Nat.mul_le_mul_right _ (by omega))), (fun q _ => HPl.out q)⟩
          case round =>
            obtain ⟨i, A, hi, rfl, hNr, HSh, HNm, HI, HC, HPl, HPl2⟩ := hrel
            by_cases him : i < m
            · have HSuc := hid (allS_succ f s sp i)
              unfold stp at HSuc
              obtain ⟨⟨sq, P⟩, hp⟩ : ∃ p, allS f s sp i = p := ⟨_, rfl⟩
              rw [hp] at HSh HI HPl HPl2 HSuc
              dsimp only at HSh HI HPl HPl2 HSuc
              clear hp
              obtain ⟨wr3, rfl⟩ : ∃ x, x = wr := ⟨wr, rfl⟩
              have hAl : A.length = m := by have := congrArg List.length HNm.out; rw [List.length_map, HLr.out] at this; exact this
              have hiA : i < A.length := by omega
              obtain ⟨ad0, c0', e0, hArg⟩ := HSh.out.row.form kSh_ok.tofit
              obtain ⟨rfl, -, rfl⟩ : a = ad0 ∧ m = A.length ∧ cc = c0' := by injection e0 with e1 e2 e3; exact ⟨e1, e2, e3⟩
              obtain ⟨g, off0, rfl, hgl, hcell⟩ := hArg.cells (by omega)
              have hg0 : off0 = 0 := by
                rcases HSh.out.row.2 with ⟨e, -⟩ | ⟨g', cap, cur, e, -⟩
                · cases e
                · cases e; rfl
              subst hg0
              obtain ⟨x, hx⟩ : ∃ x, A.getD i sh0 = x := ⟨_, rfl⟩
              obtain ⟨nm, xa, xm, xc⟩ := x
              have r0 : wr3.cell? ⟨g, i * 2, none⟩ = some (.string (nmS nm)) := by have h := hcell i hiA 0 (by decide); rw [Nat.zero_add, Nat.add_zero, show A.getD i kSh.z = A.getD i sh0 from rfl, hx] at h; exact h
              have r1 : wr3.cell? ⟨g, i * 2 + 1, none⟩ = some (.slice xa xm xc) := by have h := hcell i hiA 1 (by decide); rw [Nat.zero_add, show A.getD i kSh.z = A.getD i sh0 from rfl, hx] at h; exact h
              have hnm : s.getD i [] = nm := by
                have h : (A.map (·.1)).getD i [] = nm := by
                  rw [List.getD_eq_getElem?_getD, List.getElem?_map, List.getElem?_eq_getElem hiA]
                  rw [List.getD_eq_getElem?_getD, List.getElem?_eq_getElem hiA] at hx
                  have hx' : A[i] = (nm, ⟨xa, xm, xc⟩) := hx
                  show A[i].1 = nm
                  rw [hx']
                rw [HNm.out] at h; exact h
              have hpt := HSh.out.part i hiA
              rw [hx] at hpt
              have hxm : xm = (P.getD i []).length := Sl.own hpt
              rw [hnm, ← hxm] at HSuc
              have HFr := hid (HStj.out.2 sq)
              obtain ⟨W1, hW1⟩ : ∃ W1, wr3.alloc (.cells #[.string (nmS nm), .slice xa xm xc] 87) = W1 := ⟨_, rfl⟩
              have hb1 : Below wr3.heap.size wr3 W1 := by rw [← hW1]; exact (Below.refl _ _).alloc (Nat.le_refl _) _
              have HX1 : Hid (Blk W1 wr3.heap.size #[.string (nmS nm), .slice xa xm xc] 87) := by rw [← hW1]; exact heap_alloc_new wr3 _
              have HSh1 := hid (HSh.out.later hb1)
              have HI1 : Hid (Inv sq W1.drew) := HInv0.out sq wr3 W1.drew [] HI.out (Chg.of hb1).drew (by simp)
              have hxl : xm ≤ 65536 := by rw [hxm]; exact Nat.le_trans (HPl.out i) (Nat.le_trans (Nat.mul_le_mul_right 1024 (show j + 1 ≤ 64 by omega)) (by decide))
              obtain ⟨hgl2, hcl⟩ := HFr.out W1.drew nm xa xm xc HI1.out (by rw [← hnm]; exact HSn.out i (by omega)) hxl
              have HCl := hid hcl
              have HCw1 : Hid (Chg F w W1) := HC.out.trans (Chg.of (F := []) hb1) (by simp)
              obtain ⟨got, hgot⟩ : ∃ got, (f sq nm xm).1 = got := ⟨_, rfl⟩
              obtain ⟨sq', hsq'⟩ : ∃ sq', (f sq nm xm).2 = sq' := ⟨_, rfl⟩
              rw [hgot, hsq'] at HCl HSuc
              rw [hgot] at hgl2
              obtain ⟨ps, hps⟩ : ∃ ps, P.getD i [] = ps := ⟨_, rfl⟩
              rw [hps] at HSuc
              have HNmi := hid hnm
              have HPll := hid hgl2
              have hpl : ps.length ≤ j * 1024 := by rw [← hps]; exact HPl2.out i (Nat.le_refl _)
              have HLn : Hid (ps.length + got.length ≤ 1048576) := by show _ ≤ _; omega
              have HPt : Hid (∀ W2, Shs W2 N1 (.slice (some ⟨g, 0, none⟩) A.length cc) A P → OwnK kZ W2 N1 (.slice xa xm xc) ps) := fun W2 h => by have h2 := h.part i hiA; rw [hx, hps] at h2; exact h2
              have HS : Hid (∀ (W : World) (G : List Nat), Chg G W1 W → (∀ g ∈ G, g < w.heap.size) → SBx wr3.heap.size (nmS nm) xa xm xc W) := fun W G hc hG => by
                have hb := HX1.out.chg hc (fun hm => by have := hG _ hm; have := HN1.out; omega)
                exact ⟨hb.cell 0, hb.cell 1⟩
              have HStep := hid (fun (W2 W3 : World) (s' : Sl) (hC : Chg F W1 W2) (hO : OwnK kZ W3 N1 s'.v (ps ++ got)) (hG : W2.grownBy W3 (Value.slice xa xm xc).ownBlock) (hL : ∀ b, s'.v.ownBlock = some b → (Value.slice xa xm xc).ownBlock = some b ∨ W2.heap.size ≤ b) =>
                deal_step (N := w.heap.size) (got := got) HF.out HN1.out HX1.out hNr hgl HSh1.out hiA (by rw [hx]) (fun b hb => (hpt.block b hb).2.1) hC (by rw [hps]; exact hO) hG hL)
              rw [hps, hx] at HStep
              have c2 := HX1.out.cell 0
              have c3 := HX1.out.cell 1
              simp only [List.getElem?_toArray, List.getElem?_cons_zero, List.getElem?_cons_succ] at c2 c3
              have eF := HStj.out.1
              have hW1s : N1 ≤ W1.heap.size := by have := hb1.size; omega
              have HiA := hid hiA
              have HX := hid hx
              have HXm := hid hxm
              clear hxm hArg hcell hpt hnm hb1 hcl hgot hsq' hps hx HFr HStj HSh HI HC HX1 HI1
              unfold SBx at HS HStep
              generalize nmS nm = ns at *
              go_wp2_with fail
              refine wp_region_held_drew (S := fun W => W.cell? ⟨wr3.heap.size, 0, none⟩ = some (.string ns) ∧ W.cell? ⟨wr3.heap.size, 1, none⟩ = some (.slice xa xm xc)) (by kernel_rfl) (HS.out _ [] (Chg.refl [] W1).drew (by simp)) (fun hHeld => ?_)
              refine wpAnyH_take (i := 0) (oi := { dst := some 40, op := Op.move (Operand.tmp 5), type := 85, pos := "deal.go:16", after := #[], guard := none }) (v := ?_) rfl (by kernel_rfl) (by kernel_rfl) (by kernel_rfl) (fun _ _ _ h => h) (Or.inl ⟨by rfl, ?_⟩) hHeld ?_
              rotate_left
              · intro w hSw; (try dsimp only at hSw); go_simp; try with_reducible rfl
              try simp only [Act.put, List.setIfInBounds_toArray, List.set_cons_zero, List.set_cons_succ]
              refine wpAnyH_take (i := 1) (oi := { dst := some 41, op := Op.move (Operand.tmp 10), type := 3, pos := "deal.go:16", after := #[], guard := none }) (v := ?_) rfl (by kernel_rfl) (by kernel_rfl) (by kernel_rfl) (fun _ _ _ h => h) (Or.inl ⟨by rfl, ?_⟩) hHeld ?_
              rotate_left
              · intro w hSw; (try dsimp only at hSw); go_simp; try with_reducible rfl
              try simp only [Act.put, List.setIfInBounds_toArray, List.set_cons_zero, List.set_cons_succ]
              refine wpAnyH_take (i := 2) (oi := { dst := some 42, op := Op.fieldAddr 87 (Operand.tmp 11) 1, type := 0, pos := "deal.go:16", after := #[], guard := none }) (v := ?_) rfl (by kernel_rfl) (by kernel_rfl) (by kernel_rfl) (fun _ _ _ h => h) (Or.inl ⟨by rfl, ?_⟩) hHeld ?_
              rotate_left
              · intro w hSw; (try dsimp only at hSw); go_simp; try with_reducible rfl
              try simp only [Act.put, List.setIfInBounds_toArray, List.set_cons_zero, List.set_cons_succ]
              refine wpAnyH_take (i := 3) (oi := { dst := some 43, op := Op.load 34 (Operand.tmp 42), type := 34, pos := "deal.go:16", after := #[{ on := 2, ground := Ground.data }], guard := none }) (v := ?_) rfl (by kernel_rfl) (by kernel_rfl) (by kernel_rfl) (fun _ _ _ h => h) (Or.inl ⟨by rfl, ?_⟩) hHeld ?_
              rotate_left
              · intro w hSw; (try dsimp only at hSw); go_simp; try with_reducible rfl
              try simp only [Act.put, List.setIfInBounds_toArray, List.set_cons_zero, List.set_cons_succ]
              refine wpAnyH_take (i := 4) (oi := { dst := some 44, op := Op.move (Operand.tmp 9), type := 131, pos := "deal.go:16", after := #[], guard := none }) (v := ?_) rfl (by kernel_rfl) (by kernel_rfl) (by kernel_rfl) (fun _ _ _ h => h) (Or.inl ⟨by rfl, ?_⟩) hHeld ?_
              rotate_left
              · intro w hSw; (try dsimp only at hSw); go_simp; try with_reducible rfl
              try simp only [Act.put, List.setIfInBounds_toArray, List.set_cons_zero, List.set_cons_succ]
              refine wpAnyH_take (i := 5) (oi := { dst := some 45, op := Op.load 87 (Operand.tmp 11), type := 87, pos := "deal.go:16", after := #[], guard := none }) (v := ?_) rfl (by kernel_rfl) (by kernel_rfl) (by kernel_rfl) (fun _ _ _ h => h) (Or.inl ⟨by rfl, ?_⟩) hHeld ?_
              rotate_left
              · intro w hSw; (try dsimp only at hSw); go_simp; try with_reducible rfl
              try simp only [Act.put, List.setIfInBounds_toArray, List.set_cons_zero, List.set_cons_succ]
              refine wpAnyH_ready (rs := [6]) (by kernel_rfl) (by simp) ?_
              refine AllReadyH.cons rfl (fun K hK => ?_) (AllReadyH.nil)
              go_simp
              go_wp2_with (go_at_fn gf; (with_reducible_and_instances (refine HCl.out.mono ?_)); rintro e W2 ⟨vg, rfl, hO2, hI2, hC2⟩; have HO2 := hid hO2; have HI2 := hid hI2; have HC2 : Hid (Chg F W1 W2) := ⟨hC2.os, hC2.tape, hC2.output, hC2.size, hC2.block⟩; clear hO2 hI2 hC2)
              have hS2 := HS.out W2 F HC2.out HF.out
              refine hK.out _ _ (hS2) (fun hHeld => ?_)
              clear hK K
              try simp only [Act.put, List.setIfInBounds_toArray, List.set_cons_zero, List.set_cons_succ]
              refine wpAnyH_ready (rs := [7]) (by kernel_rfl) (by simp) ?_
              refine AllReadyH.cons rfl (fun K hK => ?_) (AllReadyH.nil)
              have hSh2 := HSh1.out.chg HC2.out HFN.out
              refine step_app_got (by rfl) (.tmp 43) (.tmp 46) (by rfl) N1 _ (.slice xa xm xc) vg ps got (by rfl) (HPt.out W2 hSh2) (by rfl) HO2.out HLn.out (by have := HC2.out.size; omega) ?_
              intro s' W3 hs' hO3 hG3 hL3
              have HD := hid (HStep.out W2 W3 s' HC2.out hO3 hG3 hL3)
              obtain ⟨cz, fz⟩ := HD.out.1
              have hS3 := HD.out.2.1
              clear hSh2 hO3 hG3 hL3
              obtain ⟨sa, sm, sc⟩ := s'
              unfold Sl.v at HD ⊢
              refine hK.out _ _ (hS3) (fun hHeld => ?_)
              clear hK K
              refine wpAnyH_take (i := 8) (oi := { dst := some 48, op := Op.indexAddr 85 (Operand.tmp 40) (Operand.tmp 41), type := 0, pos := "deal.go:16", after := #[{ on := 0, ground := Ground.data }, { on := 1, ground := Ground.data }, { on := 0, ground := Ground.phase }, { on := 1, ground := Ground.phase }, { on := 2, ground := Ground.phase }, { on := 3, ground := Ground.phase }, { on := 4, ground := Ground.phase }, { on := 5, ground := Ground.phase }, { on := 6, ground := Ground.phase }, { on := 7, ground := Ground.phase }], guard := none }) (v := ?_) rfl (by kernel_rfl) (by kernel_rfl) (by kernel_rfl) (fun _ _ _ h => h) (Or.inl ⟨by rfl, ?_⟩) hHeld ?_
              rotate_left
              · intro w hSw; (try dsimp only at hSw); go_simp; try with_reducible rfl
              refine wpAnyH_take (i := 9) (oi := { dst := some 49, op := Op.fieldAddr 87 (Operand.tmp 48) 1, type := 0, pos := "deal.go:16", after := #[{ on := 8, ground := Ground.data }, { on := 0, ground := Ground.phase }, { on := 1, ground := Ground.phase }, { on := 2, ground := Ground.phase }, { on := 3, ground := Ground.phase }, { on := 4, ground := Ground.phase }, { on := 5, ground := Ground.phase }, { on := 6, ground := Ground.phase }, { on := 7, ground := Ground.phase }], guard := none }) (v := ?_) rfl (by kernel_rfl) (by kernel_rfl) (by kernel_rfl) (fun _ _ _ h => h) (Or.inl ⟨by rfl, ?_⟩) hHeld ?_
              rotate_left
              · intro w hSw; (try dsimp only at hSw); go_simp; try with_reducible rfl
              refine wpAnyH_ready (rs := [10]) (by kernel_rfl) (by simp) ?_
              refine AllReadyH.cons rfl (fun K hK => ?_) (AllReadyH.nil)
              go_simp
              refine hK.out _ _ (HD.out.2.2.1) (fun hHeld => ?_)
              clear hK K
              refine wpAnyH_done (by kernel_rfl) ?_ _
              go_wp2_with fail
              obtain ⟨G, hG1, hG2⟩ := HD.out.2.2.2.2
              have hsz2 := HC2.out.size
              have hsz3 : W2.heap.size ≤ (W3.setCell ⟨g, i * 2 + 1, none⟩ (.slice sa sm sc)).heap.size := hG2.size
              refine ⟨⟨i + 1, A.set i (nm, ⟨sa, sm, sc⟩), by omega, by go_num, by omega, (by rw [HSuc.out]; exact HD.out.2.2.2.1), ?_, (by rw [HSuc.out]; exact HInv0.out sq' W2 _ G HI2.out hG2 hG1), (HCw1.out.trans HC2.out (fun k hk => Or.inl hk)).trans hG2 (fun k hk => Or.inr (hG1 k hk)), ?_, ?_⟩, by simp [intOf]; omega⟩
              · show (A.set i (nm, ⟨sa, sm, sc⟩)).map (·.1) = s
                rw [List.map_set, HNm.out, ← HNmi.out, List.getD_eq_getElem?_getD, List.getElem?_eq_getElem (by rw [HLr.out]; omega)]
                exact List.set_getElem_self _
              · intro q
                rw [HSuc.out]
                show ((P.set i (ps ++ got)).getD q []).length ≤ _
                by_cases e : i = q
                · subst e
                  rw [getD_set_same _ _ _ _ (by rw [← HSh1.out.len]; exact HiA.out), List.length_append]
                  have := HPll.out
                  omega
                · rw [getD_set_other _ _ _ _ _ e]; exact HPl.out q
              · intro q hq
                rw [HSuc.out]
                show ((P.set i (ps ++ got)).getD q []).length ≤ _
                rw [getD_set_other _ _ _ _ _ (by omega)]
                exact HPl2.out q (by omega)
            · obtain rfl : m = i := by omega
              clear HStj c0
              rw [HLr.out] at HSucc
              go_wp2_with fail
              exact ⟨⟨j + 1, A, by omega, by go_num, hNr, (by rw [HSucc.out]; exact HSh), HNm, (by rw [HSucc.out]; exact HI), HC, (by rw [HSucc.out]; exact HPl)⟩, by simp [intOf]; omega⟩
        · obtain rfl : k = j := by omega
          clear HSt HCs
          obtain ⟨⟨sf, P⟩, hp⟩ : ∃ p, stepsN fs s (s0, List.replicate m []) k = p := ⟨_, rfl⟩
          rw [hp] at HSh HI HPl
          dsimp only at HSh HI HPl
          have HPe := hid hp
          clear hp
          obtain ⟨w4, rfl⟩ : ∃ x, x = wr := ⟨wr, rfl⟩
          have hAl : A.length = m := by have := congrArg List.length HNm.out; rw [List.length_map, HLr.out] at this; exact this
          have hPm : P.length = m := by rw [← HSh.out.len]; exact hAl
          have HPm := hid hPm
          have HAl := hid hAl
          clear hPm hAl
          go_wp2_with fail
          go_loopw [54] (fun iv wr => ∃ (i : Nat), i ≤ m ∧ iv = .int .i64 (i : Int) ∧ N1 ≤ wr.heap.size ∧ Hid (Shs wr N1 (.slice a m cc) A (srtN P i)) ∧ Hid (Inv sf wr) ∧ Hid (Chg F w wr)) (fun iv _ => m - (intOf iv).toNat)
          case atStart => exact ⟨0, by omega, rfl, hNr, (by rw [srtN_zero]; exact HSh), HI, HC⟩
          case round =>
            obtain ⟨i, hi, rfl, hNr, HSh, HI, HC⟩ := hrel
            by_cases him : i < m
            · obtain ⟨wr3, rfl⟩ : ∃ x, x = wr := ⟨wr, rfl⟩
              have hiA : i < A.length := by rw [HAl.out]; exact him
              obtain ⟨ad0, c0', e0, hArg⟩ := HSh.out.row.form kSh_ok.tofit
              obtain ⟨rfl, -, rfl⟩ : a = ad0 ∧ m = A.length ∧ cc = c0' := by injection e0 with e1 e2 e3; exact ⟨e1, e2, e3⟩
              obtain ⟨g, off0, rfl, hgl, hcell⟩ := hArg.cells (by omega)
              have hg0 : off0 = 0 := by
                rcases HSh.out.row.2 with ⟨e, -⟩ | ⟨g', cap, cur, e, -⟩
                · cases e
                · cases e; rfl
              subst hg0
              obtain ⟨x, hx⟩ : ∃ x, A.getD i sh0 = x := ⟨_, rfl⟩
              obtain ⟨nm, xa, xm, xc⟩ := x
              have r0 : wr3.cell? ⟨g, i * 2, none⟩ = some (.string (nmS nm)) := by have h := hcell i hiA 0 (by decide); rw [Nat.zero_add, Nat.add_zero, show A.getD i kSh.z = A.getD i sh0 from rfl, hx] at h; exact h
              have r1 : wr3.cell? ⟨g, i * 2 + 1, none⟩ = some (.slice xa xm xc) := by have h := hcell i hiA 1 (by decide); rw [Nat.zero_add, show A.getD i kSh.z = A.getD i sh0 from rfl, hx] at h; exact h
              have hpt := HSh.out.part i hiA
              obtain ⟨e1, e2⟩ := srtN_at P i (by rw [HPm.out]; exact him)
              rw [hx, e1] at hpt
              obtain ⟨W1, hW1⟩ : ∃ W1, wr3.alloc (.cells #[.string (nmS nm), .slice xa xm xc] 87) = W1 := ⟨_, rfl⟩
              have hb1 : Below wr3.heap.size wr3 W1 := by rw [← hW1]; exact (Below.refl _ _).alloc (Nat.le_refl _) _
              have HX1 : Hid (Blk W1 wr3.heap.size #[.string (nmS nm), .slice xa xm xc] 87) := by rw [← hW1]; exact heap_alloc_new wr3 _
              have HSo := hid (sortZ_own (v := .slice xa xm xc) (hpt.later hb1) (by have h1 := HPl.out i; have h2 : k * 1024 ≤ 8 * 1024 := Nat.mul_le_mul_right _ hk; omega))
              have HFin : Hid (∀ W2, OwnK kZ W2 N1 (.slice xa xm xc) (risZ (P.getD i [])) → W1.grownBy W2 (Value.slice xa xm xc).ownBlock → N1 ≤ W2.heap.size ∧ Shs W2 N1 (.slice (some ⟨g, 0, none⟩) m cc) A (srtN P (i + 1)) ∧ Inv sf W2 ∧ Chg F w W2) := fun W2 hO hg => by
                obtain ⟨G, hG1, hG2⟩ := own_chg (N := N1) hg (fun b hb => (hpt.block b hb).1)
                refine ⟨by have := hb1.size; have := hg.size; omega, ?_, HInv0.out sf wr3 W2 G HI.out ((Chg.of (F := G) hb1).trans hG2 (fun k hk => Or.inl hk)) (fun k hk => by have := hG1 k hk; have := HN1.out; omega), (HC.out.trans (Chg.of (F := []) hb1) (by simp)).trans hG2 (fun k hk => Or.inr (by have := hG1 k hk; have := HN1.out; omega))⟩
                rw [← e2]
                exact (HSh.out.later hb1).sorted hiA (by rw [hx]; exact hO) (by rw [hx]; exact hg)
              have c2 := HX1.out.cell 0
              have c3 := HX1.out.cell 1
              simp only [List.getElem?_toArray, List.getElem?_cons_zero, List.getElem?_cons_succ] at c2 c3
              clear hArg hcell hpt hb1 hx HSh HI HC HX1 e1 e2
              generalize nmS nm = ns at *
              go_wp2_with (go_at_call 97; (with_reducible_and_instances (refine HSo.out.mono ?_)); rintro e W2 ⟨rfl, hO2, hg2⟩; have HE := hid (HFin.out W2 hO2 hg2); clear hO2 hg2)
              exact ⟨⟨i + 1, by omega, by go_num, HE.out.1, HE.out.2.1, HE.out.2.2.1, HE.out.2.2.2⟩, by simp [intOf]; omega⟩
            · obtain rfl : m = i := by omega
              go_wp2_with fail
              go_ret
              refine ⟨_, A, rfl, ?_, HNm.out, (by rw [HPe.out]; exact HI.out), HC.out⟩
              have h := HSh.out
              have e : srtN P m = P.map risZ := by rw [← srtN_all, HPm.out]
              rw [e] at h
              rw [HPe.out]
              exact h.mono HN1.out
end Go.Proofs.YtipgociofjokeaaGreat
namespace Go.Proofs.YtipgociofjokeaaGreat
open Go.RowKit Go.Sort
variable {w w' : World}

/-- The deck, and how many are left over. -/
abbrev Dk := List Int × Nat
/-- Where a dealing's boxes lie: the deck and its cards, the boxes of free, base and rest. -/
structure Pl where
  D : Nat
  b : Nat
  fb : Nat
  bb : Nat
  rb : Nat
structure Pl.ok (p : Pl) (N : Nat) : Prop where
  lD : p.D < N
  lb : p.b < N
  lf : p.fb < N
  lbb : p.bb < N
  lr : p.rb < N
  fD : p.fb ≠ p.D
  fbb : p.fb ≠ p.b
  bD : p.bb ≠ p.D
  bbn : p.bb ≠ p.b
  rD : p.rb ≠ p.D
  rbn : p.rb ≠ p.b
  rf : p.rb ≠ p.fb
  rbb : p.rb ≠ p.bb
def Pl.F (p : Pl) : List Nat := [p.D, p.b, p.rb]
structure RInv (p : Pl) (base : Nat) (s : Dk) (W : World) : Prop where
  free : Blk W p.fb #[.pointer (some ⟨p.D, 0, none⟩)] 104
  bas : Blk W p.bb #[.int .i64 (base : Int)] 3
  rst : Blk W p.rb #[.int .i64 (s.2 : Int)] 3
  dk : DeckP W p.D p.b s.1
  rise : s.1.Pairwise (· < ·)
  len : s.1.length ≤ 32
  small : s.2 ≤ 1048576
theorem RInv.keep {p : Pl} {base N : Nat} {s : Dk} {W W' : World} {G : List Nat} (h : RInv p base s W) (hp : p.ok N) (hc : Chg G W W') (hG : ∀ g ∈ G, N ≤ g) : RInv p base s W' :=
  ⟨h.free.chg hc (fun hm => by have := hG _ hm; have := hp.lf; omega), h.bas.chg hc (fun hm => by have := hG _ hm; have := hp.lbb; omega), h.rst.chg hc (fun hm => by have := hG _ hm; have := hp.lr; omega), h.dk.chg hc (fun hm => by have := hG _ hm; have := hp.lD; omega) (fun hm => by have := hG _ hm; have := hp.lb; omega), h.rise, h.len, h.small⟩
theorem RInv.later {p : Pl} {base : Nat} {s : Dk} {W W' : World} (h : RInv p base s W) (hb : Below W.heap.size W W') : RInv p base s W' :=
  ⟨h.free.later hb, h.bas.later hb, h.rst.later hb, h.dk.later hb, h.rise, h.len, h.small⟩
/-- .. behind a change of the deck alone. -/
theorem RInv.deck {p : Pl} {base N : Nat} {s : Dk} {xs : List Int} {W W' : World} (h : RInv p base s W) (hp : p.ok N) (hc : Chg [p.D, p.b] W W') (hd : DeckP W' p.D p.b xs) (hr : xs.Pairwise (· < ·)) (hl : xs.length ≤ 32) : RInv p base (xs, s.2) W' :=
  ⟨h.free.chg hc (by have := hp.fD; have := hp.fbb; simp; omega), h.bas.chg hc (by have := hp.bD; have := hp.bbn; simp; omega), h.rst.chg hc (by have := hp.rD; have := hp.rbn; simp; omega), hd, hr, hl, h.small⟩
/-- .. behind a store of the rest. -/
theorem RInv.rest {p : Pl} {base N : Nat} {s : Dk} {r : Nat} {W : World} (h : RInv p base s W) (hp : p.ok N) (hr : r ≤ 1048576) : RInv p base (s.1, r) (W.setCell ⟨p.rb, 0, none⟩ (.int .i64 (r : Int))) ∧ Chg p.F W (W.setCell ⟨p.rb, 0, none⟩ (.int .i64 (r : Int))) := by
  have hc : Chg [p.rb] W (W.setCell ⟨p.rb, 0, none⟩ (.int .i64 (r : Int))) := (Chg.refl _ _).set (Or.inl (by simp)) 0 _
  exact ⟨⟨h.free.chg hc (by have := hp.rf; simp; omega), h.bas.chg hc (by have := hp.rbb; simp; omega), h.rst.set 0 _, h.dk.chg hc (by have := hp.rD; simp; omega) (by have := hp.rbn; simp; omega), h.rise, h.len, hr⟩, hc.mono (by intro k hk; simp at hk; subst hk; simp [Pl.F])⟩
theorem rise_drop {xs : List Int} (h : xs.Pairwise (· < ·)) (k : Nat) : (xs.drop k).Pairwise (· < ·) := h.sublist (List.drop_sublist _ _)
/-- The draw of n cards by a step. -/
def drawN (n : Int) (s : Dk) : List Int × Dk := (s.1.take (drawK n s.1.length), (s.1.drop (drawK n s.1.length), s.2))
theorem drawN_len (n : Int) (s : Dk) : (drawN n s).1.length ≤ s.1.length := by show (List.take _ _).length ≤ _; rw [List.length_take]; omega
theorem draw_inv {p : Pl} {base N : Nat} {s : Dk} {W : World} (h : RInv p base s W) (hp : p.ok N) (n : Int) :
    Calls Tryz.prog 80 #[.pointer (some ⟨p.D, 0, none⟩), .int .i64 n] W fun e W' => ∃ v, e = .returned v ∧ OwnK kZ W' W.heap.size v (drawN n s).1 ∧ RInv p base (drawN n s).2 W' ∧ Chg p.F W W' := by
  refine (draw_any h.dk n (by have := h.len; omega)).mono ?_
  rintro e W' ⟨v, rfl, hO, hd, hc⟩
  exact ⟨v, rfl, hO, h.deck hp (hc.mono (by intro k hk; simp at hk; subst hk; simp)) hd (rise_drop h.rise _) (by rw [List.length_drop]; have := h.len; omega), hc.mono (by intro k hk; simp at hk; subst hk; simp [Pl.F])⟩
/-- The step of Range. -/
def fRange (base : Nat) : Stp Dk := fun s _ _ => if s.2 = 0 then drawN base s else drawN ((base : Int) + 1) (s.1, s.2 - 1)
end Go.Proofs.YtipgociofjokeaaGreat
namespace Go.Proofs.YtipgociofjokeaaGreat
open Go.RowKit Go.Sort
variable {w w' : World} {ad : Option Addr} {m c : Nat} {l : List Nm}

/-- The partitions that Range gives, member by member. -/
def rangeP (l : List Nm) (p : Nat) : List (List Int) := (stepsN (fun _ => fRange (p / l.length)) (risN l) ((allP p, p % l.length), List.replicate l.length []) 1).2.map risZ
/-- What Range and Sticky answer: shares, or ErrArg. -/
def AnsP (w : World) (may : Bool) (names : List Nm) (P : List (List Int)) (e : Ending) (w' : World) : Prop :=
  (if may then ∃ v A, e = .returned (.tuple #[v, .int .i64 0]) ∧ Shs w' w.heap.size v A P ∧ A.map (·.1) = names else e = .returned (.tuple #[.slice none 0 0, .int .i64 1])) ∧ Below w.heap.size w w'
theorem allP_rise (n : Nat) : (allP n).Pairwise (· < ·) := by
  unfold allP
  rw [List.pairwise_map]
  exact List.pairwise_lt_range.imp (fun h => Int.ofNat_lt.2 h)
theorem may_bounds {p : Int} (h : mayN l p = true) : l.length ≤ 1000 ∧ 0 ≤ p ∧ p ≤ 32 := by
  unfold mayN at h
  simp at h
  omega
theorem may_names {p : Int} (h : mayN l p = true) : ∀ s ∈ l, s.length ≤ 64 := fun s hs => by
  unfold mayN at h
  simp only [Bool.and_eq_true, Bool.not_eq_true', List.any_eq_false] at h
  have h2 := h.2.1 s ((risN_perm l).mem_iff.2 hs)
  unfold noName at h2
  simp at h2
  omega
theorem no_member : l.length = 0 → risN l = [] := fun h => by rw [List.eq_nil_of_length_eq_zero h]; exact risN_nil
end Go.Proofs.YtipgociofjokeaaGreat
