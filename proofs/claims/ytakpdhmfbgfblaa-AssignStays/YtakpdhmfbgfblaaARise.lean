/- rising of package assign: slices.Sorted(slices.Values(..)) of names. -/
import Derived.Test.YtakpdhmfbgfblaaASort
import Derived.Test.YtakpdhmfbgfblaaRangeA
import Derived.Shelf.Abstract
import Derived.WalkLawsBesides
namespace Go.Proofs.Ytakpdhmfbgfblaa
open Go.RowKit Go.Shelf
attribute [local go_sem] Oper.semAt_some
variable {w w' : World} {ad : Option Addr} {m c : Nat} {l : List Nm}

/-- Round k is handed the k-th name. -/
def ValR (l : List Nm) (m : Nat) (k : Nat) (args : Array Value) (_ : World) : Prop := k < m ∧ args = #[.string (nmS (l.getD k []))]
set_option maxRecDepth 100000 in
set_option maxHeartbeats 400000 in
theorem vals_seq (h : ArgK kS w l ad m c) (gb : Nat) (Gs : List Nat) (K : Nat → World → Prop) (hgb : w.cell? ⟨gb, 0, none⟩ = some (.slice ad m c)) (hg : gb ∈ Gs) (hrow : ∀ b off, ad = some ⟨b, off, none⟩ → m ≠ 0 → b ∈ Gs) (hlt : ∀ g ∈ Gs, g < w.heap.size) :
    SeqR Try.prog 49 #[.pointer (some ⟨gb, 0, none⟩)] (Kg Gs) K (ValR l m) m w := by
  intro q J Jx W hW hJ _ _ hY h0
  have hk0 : Kg Gs w W := Kg.below hW hlt
  have HK0 : Hid (Kg Gs w W) := hk0
  have H := hid h
  have HR : Hid (∀ b off, ad = some ⟨b, off, none⟩ → m ≠ 0 → b ∈ Gs) := hrow
  have HY : Hid (∀ k args X, k < m → J k X → ValR l m k args X → YieldAt Fence.wide 1 Try.prog q args X fun e Y => (e = .returned (.bool true) ∧ J (k + 1) Y ∧ Kg Gs X Y) ∨ (e = .returned (.bool false) ∧ Jx (k + 1) Y)) := hY
  have ct0 : W.cell? ⟨gb, 0, none⟩ = some (.slice ad m c) := (hk0.cell hg (i := 0)).trans hgb
  have hmx : m ≤ 9223372036854775807 := by have := h.cap; have := h.room; unfold maxLen at this; omega
  clear hW hJ hY h hrow hlt hk0 hgb
  refine callsIn_of_wp Try.func49 rfl trivial ?_ rfl
  simp only [Try.ntmps49, List.size_toArray, List.length_cons, List.length_nil, Nat.reduceAdd, Nat.reduceSub, Array.replicate_succ, Array.replicate_zero, List.push_toArray, List.append_toArray, List.nil_append, List.cons_append]
  gi_wp2
  gi_loopw [7] (fun i wr => ∃ k : Nat, k ≤ m ∧ i = .int .i64 (k : Int) ∧ Hid (J k wr) ∧ Hid (Kg Gs w wr)) (fun i _ => m - (intOf i).toNat)
  case atStart => exact ⟨0, Nat.zero_le _, rfl, h0, HK0⟩
  case round =>
    obtain ⟨k, hk, rfl, HJk, HKk⟩ := hrel
    by_cases hkl : k < m
    · obtain ⟨b, off, rfl, hs, hc⟩ := H.out.cells (by omega)
      have hbg := HR.out b off rfl (by omega)
      have r0 : wr.cell? ⟨b, off + k, none⟩ = some (.string (nmS (l.getD k []))) := (HKk.out.cell hbg (i := off + k)).trans (by have := hc k hkl 0 (by decide); rw [Nat.mul_one, Nat.add_zero] at this; exact this)
      obtain ⟨fn, tmps, assign, body, hy, hR⟩ := YieldAt.mono (R' := fun e Y => ∃ b : Bool, e = .returned (.bool b) ∧ Hid ((b = true → J (k + 1) Y ∧ Kg Gs wr Y) ∧ (b = false → Jx (k + 1) Y))) (HY.out k _ wr hkl HJk.out ⟨hkl, rfl⟩) (by
        rintro e Y (⟨rfl, h1⟩ | ⟨rfl, h1⟩)
        · exact ⟨true, rfl, fun _ => h1, fun h => (by cases h)⟩
        · exact ⟨false, rfl, fun h => (by cases h), fun _ => h1⟩)
      have HRd := hid hR
      clear hR hc hs hbg ct0 HY
      generalize nmS (l.getD k []) = e0 at *
      gi_wp2_with (refine HRd.out.mono ?_; rintro e W3 ⟨b, rfl, hb⟩; have HBb := hid hb; clear hb; rcases b with _ | _)
      · have HX := hid (HBb.out.out.2 (by first | rfl | trivial))
        refine bodyPost_ret (results_none rfl _ _ _) rfl ?_
        exact ⟨⟨_, rfl⟩, .inr ⟨k + 1, by omega, HX.out⟩⟩
      · have HJn := hid (HBb.out.out.1 (by first | rfl | trivial)).1
        have HKn := hid (HKk.out.trans (HBb.out.out.1 (by first | rfl | trivial)).2)
        exact ⟨⟨k + 1, by omega, by go_num, HJn, HKn⟩, by simp [intOf]; omega⟩
    · obtain rfl : k = m := by omega
      gi_wp2
      go_end0
      exact ⟨⟨_, rfl⟩, .inl HJk.out⟩
theorem enters_vals : ∀ args w, (callFunc 49 args).run Try.prog w = .ok (.enter 49 args) w := fun _ _ => by kernel_rfl
theorem vals_any (ad : Option Addr) (m c : Nat) (w : World) : Calls Try.prog 40 #[.slice ad m c] w fun e w' => e = .returned (.func (.func 49) #[] #[.pointer (some ⟨w.heap.size, 0, none⟩)]) ∧ w' = w.alloc (.cells #[.slice ad m c] 23) := by
  have hmf : ∀ (fn : Fn) (first cap : Array Value) (w : World), (Instr.makeFunc fn first cap).run Try.prog w = .ok (.func fn first cap) w := fun _ _ _ _ => rfl
  go_enter Try.func40, Try.ntmps40
  go_wp2_with fail
  go_ret
  exact ⟨rfl, rfl⟩
theorem SeqR.later {P : Program} {gf : Nat} {lb : Array Value} {Kp : World → World → Prop} {K : Nat → World → Prop} {R : Nat → Array Value → World → Prop} {N : Nat} {w w1 : World} (h : SeqR P gf lb Kp K R N w) (hb : Below w.heap.size w w1) : SeqR P gf lb Kp K R N w1 :=
  fun l J Jx W hW h1 h2 h3 h4 h5 => h l J Jx W (hb.trans (hW.mono hb.size)) h1 h2 h3 h4 h5
/-- What AppendSeq keeps while its loop runs. -/
structure ApI (w : World) (l : List Nm) (Z : World) : Prop where
  below : Below w.heap.size w Z
  box : ∃ v, Blk Z w.heap.size #[v] 23 ∧ OwnK kS Z (w.heap.size + 3) v l
theorem ApI.chg {l : List Nm} {Z Z' : World} {F : List Nat} (h : ApI w l Z) (hc : Chg F Z Z') (hF : ∀ g ∈ F, g = w.heap.size + 1 ∨ g = w.heap.size + 2) : ApI w l Z' := by
  obtain ⟨v, h1, h2⟩ := h.box
  refine ⟨?_, v, h1.chg hc (fun hm => by have := hF _ hm; omega), h2.chg hc (fun g hg hm => by have := hF _ hm; have := (h2.block g hg).1; omega)⟩
  exact ⟨hc.os.trans h.below.os, hc.tape.trans h.below.tape, hc.output.trans h.below.output, Nat.le_trans h.below.size hc.size, fun k hk => (hc.block k (Nat.lt_of_lt_of_le hk h.below.size) (fun hm => by have := hF _ hm; omega)).trans (h.below.block k hk)⟩
theorem ApI.step {l : List Nm} {Y w3 : World} {v v' : Value} {d : Nm} {o : Obj} (hb : Below w.heap.size w Y) (hsz : w.heap.size + 3 ≤ Y.heap.size) (hbox : Blk Y w.heap.size #[v] 23) (hown : OwnK kS Y (w.heap.size + 3) v l)
    (hO : OwnK kS w3 (w.heap.size + 3) v' (l ++ [d])) (hg : (Y.alloc o).grownBy w3 v.ownBlock) :
    (∃ ad c, v' = .slice ad (l.length + 1) c) ∧ w3.cell? ⟨w.heap.size, 0, none⟩ = some v ∧ w3.frozen? ⟨w.heap.size, 0, none⟩ = false ∧ ApI w (l ++ [d]) (w3.setCell ⟨w.heap.size, 0, none⟩ v') ∧ Y.heap.size ≤ (w3.setCell ⟨w.heap.size, 0, none⟩ v').heap.size ∧ ∀ g, g < w.heap.size + 3 → g ≠ w.heap.size → (w3.setCell ⟨w.heap.size, 0, none⟩ v').heap[g]? = Y.heap[g]? := by
  have hblk : ∀ g, g < w.heap.size + 3 → w3.heap[g]? = Y.heap[g]? := fun g hgl => by
    rw [hg.block g (by simp; omega) (fun e => by have := (hown.block g e.symm).1; omega)]
    exact Below.heap_alloc _ _ _ (by omega)
  have hb3 : Blk w3 w.heap.size #[v] 23 := (hblk _ (by omega)).trans hbox
  have hbw : Below w.heap.size w w3 := (hb.alloc hb.size o).grown hg (by simp; omega) (fun k hk => by have := (hown.block k hk).1; omega)
  have hs : Chg [w.heap.size] w3 (w3.setCell ⟨w.heap.size, 0, none⟩ v') := (Chg.refl _ _).set (Or.inl (by simp)) _ _
  obtain ⟨ad, c, hv, -⟩ := hO.form kS_ok.tofit
  refine ⟨⟨ad, c, by rw [hv]; simp⟩, hb3.cell 0, hb3.free 0, ⟨hbw.setCell (p := ⟨w.heap.size, 0, none⟩) (Nat.le_refl _) _, v', hb3.set 0 v', hO.chg hs (fun g hg hm => by have := (hO.block g hg).1; simp at hm; omega)⟩, by have := hg.size; simp [World.setCell] at this ⊢; omega, fun g hgl hne => ?_⟩
  exact (Below.heap_setCell _ _ _ _ hne).trans (hblk g hgl)
theorem nm_row (Y : World) (s : ByteArray) (d : Nm) (h : nmS d = s) : RowK kS (Y.alloc (.cells #[.string s] 9)) (some ⟨Y.heap.size, 0, none⟩) [d] := by
  subst h
  refine Or.inr ⟨_, 0, rfl, by simp, fun i hi c hc => ?_⟩
  obtain rfl : i = 0 := by simp at hi; omega
  obtain rfl : c = 0 := by have : kS.sz = 1 := rfl; omega
  have hb : Blk (Y.alloc (.cells #[.string (nmS d)] 9)) Y.heap.size _ _ := heap_alloc_new Y _
  exact hb.cell 0
/-- 'append(v, x...)' inside a round of a range over a function. -/
theorem appIn_kd {α : Type} {K : Kd α} {F : Fence} {md : Nat} {ops : Array Oper} {rest : List Oper} {o : Oper} {a : Act} {Q : Exit → Act → World → Prop} {w : World} (hK : K.ok) (hgd : o.guard = none) (s x : Operand)
    (ho : o.op = .call { callee := .builtin .append, args := #[s, x], argTypes := #[K.S, K.S] })
    (base : Nat) (v : Value) (L : List α) (hs : a.eval s = v) (hown : OwnK K w base v L)
    (g : Nat) (y : α) (hx : a.eval x = .slice (some ⟨g, 0, none⟩) 1 1) (hrow : RowK K w (some ⟨g, 0, none⟩) [y])
    (hlen : L.length + 1 ≤ maxLen) (hbytes : (L.length + 1) * K.bytes ≤ 140737488355328) (hbase : base ≤ w.heap.size)
    (h : ∀ v' w', OwnK K w' base v' (L ++ [y]) → w.grownBy w' v.ownBlock → wpListIn F md Try.prog ops Q rest (a.put o.dst v') w') : wpListIn F md Try.prog ops Q (o :: rest) a w := by
  obtain ⟨i0, hi, hz0, hz1, hz2⟩ := info_parts hK.info
  refine wpListIn_append_own _ hgd s x K.S ho base K.T i0 _ K.sz K.bytes hK.und hi hz0 hz1 hz2 hK.zsz hK.pos v L.length _ hs hown ⟨g, 0, none⟩ 1 1 (K.Vs [y]) hx (by rw [hK.tofit.Vs_len]; rfl) (hrow.cells hK.tofit _ rfl) (hK.Vs_ones _) hlen hbytes hbase ?_
  intro v' w' h1 h2 _
  rw [← Kd.Vs_append] at h1
  refine h v' w' ?_ h2
  unfold OwnK
  rw [List.length_append]
  exact h1
set_option maxRecDepth 100000 in
set_option maxHeartbeats 1000000 in
theorem appendSeq_any (h : ArgK kS w l ad m c) (hby : m * 16 ≤ 140737488355328) (gb : Nat) (hgb : w.cell? ⟨gb, 0, none⟩ = some (.slice ad m c)) (hgl : gb < w.heap.size) :
    Calls Try.prog 61 #[.slice none 0 0, .func (.func 49) #[] #[.pointer (some ⟨gb, 0, none⟩)]] w fun e w' => ∃ v, e = .returned v ∧ OwnK kS w' (w.heap.size + 3) v l ∧ Below w.heap.size w w' := by
  obtain ⟨W1, hW1⟩ : ∃ W1, w.alloc (.cells #[.slice none 0 0] 23) = W1 := ⟨_, rfl⟩
  have hb1 : Below w.heap.size w W1 := by rw [← hW1]; exact (Below.refl _ w).alloc (Nat.le_refl _) _
  have hs1 : W1.heap.size = w.heap.size + 1 := by rw [← hW1]; simp
  have hI1 : ApI w [] W1 := ⟨hb1, .slice none 0 0, by rw [← hW1]; exact heap_alloc_new w _, OwnK.nil _ _⟩
  obtain ⟨Gs, hG1, hG2, hG3⟩ : ∃ Gs : List Nat, gb ∈ Gs ∧ (∀ b off, ad = some ⟨b, off, none⟩ → m ≠ 0 → b ∈ Gs) ∧ ∀ g ∈ Gs, g < w.heap.size := by
    by_cases h0 : m = 0
    · exact ⟨[gb], by simp, fun _ _ _ hm => absurd h0 hm, fun g hg => by simp at hg; omega⟩
    · obtain ⟨b, off, e, hb, -⟩ := h.cells (by omega)
      exact ⟨[gb, b], by simp, fun b' off' e' _ => by rw [e] at e'; cases e'; simp, fun g hg => by simp at hg; omega⟩
  have HSq := hid ((vals_seq (K := fun _ _ => True) h gb Gs hgb hG1 hG2 hG3).later hb1)
  have HI := hid hI1
  have HG := hid hG3
  have hl := h.len
  have hmx : m ≤ 8796093022208 := by omega
  clear h hb1 hI1 hgb hG1 hG2 hG3
  refine (callsIn_wide (n := 3)).1 ?_
  refine callsIn_of_wp_marks Try.func61 rfl trivial ?_ rfl
  simp only [Try.ntmps61, List.size_toArray, List.length_cons, List.length_nil, Nat.reduceAdd, Nat.reduceSub, Array.replicate_succ, Array.replicate_zero, List.push_toArray, List.append_toArray, List.nil_append, List.cons_append]
  gi_wp2
  clear hW1
  refine range_R (w.heap.size + 1) hs1 (gf := 49) rfl enters_vals HSq.out (fun h k => h.trans k) ?kb (fun k Z => ApI w (l.take k) Z) (fun _ _ => False) ?hI ?hIx (fun _ _ _ => trivial) ?h0 ?hps ?hRc
    (fun args => { tmps := #[.slice none 0 0, .func (.func 49) #[] #[.pointer (some ⟨gb, 0, none⟩)], .pointer (some ⟨w.heap.size, 0, none⟩), undef, .slice none 0 0, args.getD 0 undef, .func (.func 49) #[] #[.pointer (some ⟨gb, 0, none⟩)], args.getD 0 undef, undef, undef, undef, undef, undef], defers := [] })
    ?assign ?body ?done ?stop
  case kb => exact fun Z o hZ => ⟨by simp, fun g hg => World.putObj_heap_other (by have := HG.out g hg; omega)⟩
  case hI => exact fun k Z Z' h1 hc => h1.chg hc (fun g hg => by simp at hg; omega)
  case hIx => exact fun _ _ _ h _ => h
  case h0 => exact HI.out
  case hps =>
    rintro k args X ⟨_, rfl⟩
    rfl
  case hRc => exact fun k args X o h _ o' => h
  case assign =>
    rintro q k args X L ⟨hk, rfl⟩ hL
    clear HSq HI HG
    generalize nmS (l.getD k []) = e0 at *
    gi_wp2
    exact hL
  case body =>
    rintro q k args X hk hX hI ⟨hkm, rfl⟩
    obtain ⟨v, hb0, hO⟩ := hI.box
    obtain ⟨ad1, cc, rfl, -⟩ := hO.form kS_ok.tofit
    have hlk : (l.take k).length = k := by rw [List.length_take, hl]; omega
    rw [hlk] at hb0 hO
    have a0 : X.cell? ⟨w.heap.size, 0, none⟩ = some (.slice ad1 k cc) := hb0.cell 0
    have hXs : w.heap.size + 3 ≤ X.heap.size := by omega
    have HLT := hid (take_snoc_any l [] k (by rw [hl]; exact hkm))
    have HLk := hid hlk
    obtain ⟨d, hd⟩ : ∃ d, l.getD k [] = d := ⟨_, rfl⟩
    rw [hd] at HLT ⊢
    obtain ⟨ds, hds⟩ : ∃ ds, nmS d = ds := ⟨_, rfl⟩
    have HRw := hid (nm_row X ds d hds)
    have HO2 := hid (hO.later ((Below.refl _ X).alloc (Nat.le_refl _) (.cells #[.string ds] 9)))
    have HSt : Hid (∀ w3 v', OwnK kS w3 (w.heap.size + 3) v' (l.take k ++ [d]) → (X.alloc (.cells #[.string ds] 9)).grownBy w3 (Value.slice ad1 k cc).ownBlock → _) := fun w3 v' h1 h2 => ApI.step (d := d) hI.below hXs hb0 hO h1 h2
    rw [hlk] at HSt
    show Code.wpIn _ _ _ _ _ { tmps := #[.slice none 0 0, .func (.func 49) #[] #[.pointer (some ⟨gb, 0, none⟩)], .pointer (some ⟨w.heap.size, 0, none⟩), undef, .slice none 0 0, .string (nmS d), .func (.func 49) #[] #[.pointer (some ⟨gb, 0, none⟩)], .string (nmS d), undef, undef, undef, undef, undef], defers := [] } _
    rw [hds]
    clear hI hb0 hO HSq HI hds hd hlk
    gi_wp2_with (first
      | (gi_at_builtin; refine appIn_kd kS_ok rfl _ _ rfl (w.heap.size + 3) (.slice ad1 k cc) (l.take k) rfl HO2.out X.heap.size d rfl HRw.out (by rw [HLk.out]; unfold maxLen; omega) (by rw [HLk.out]; show (k + 1) * 16 ≤ _; omega) (by simp; omega) ?_; intro v3 w3 hown3 hg3; obtain ⟨⟨a3, c3, rfl⟩, z0, z1, z2⟩ := HSt.out w3 v3 hown3 hg3; have HZ := hid z2; clear hown3 hg3 z2))
    refine ⟨⟨?_, ?_⟩, ?_, ?_⟩
    · exact HZ.out.2.2 _ (by omega) (by omega)
    · exact HZ.out.2.2 _ (by omega) (by omega)
    · exact ⟨HZ.out.2.1, fun g hg => HZ.out.2.2 g (by have := HG.out g hg; omega) (by have := HG.out g hg; omega)⟩
    · rw [HLT.out]
      exact HZ.out.1
  case done =>
    rintro X hX hI hD
    rw [List.take_of_length_le (by rw [hl]; exact Nat.le_refl _)] at hI
    obtain ⟨v, hb0, hO⟩ := hI.box
    obtain ⟨ad1, cc, rfl, -⟩ := hO.form kS_ok.tofit
    rw [hl] at hb0 hO
    have a0 : X.cell? ⟨w.heap.size, 0, none⟩ = some (.slice ad1 m cc) := hb0.cell 0
    have hpc := putObj_chg X (w.heap.size + 1) _ (.deferred none) (Or.inl rfl)
    have HO := hid (hO.chg hpc (fun g hg hm => by have := (hO.block g hg).1; simp at hm; omega))
    have HB := hid ((hI.chg hpc (fun g hg => by simp at hg; omega)).below)
    have HD := hid hD
    clear hI hD HSq HI HG hb0 hO hpc
    gi_wp2
    refine ⟨by simp, .inl ⟨_, _, rfl, run_takeDeferred HD.out, ?_⟩⟩
    exact ⟨_, results_tmp Try.results61 _ _ _, _, rfl, HO.out, HB.out⟩
  case stop => exact fun k X hk h _ => h.elim
theorem collect_any (h : ArgK kS w l ad m c) (hby : m * 16 ≤ 140737488355328) (gb : Nat) (hgb : w.cell? ⟨gb, 0, none⟩ = some (.slice ad m c)) (hgl : gb < w.heap.size) :
    Calls Try.prog 47 #[.func (.func 49) #[] #[.pointer (some ⟨gb, 0, none⟩)]] w fun e w' => ∃ v, e = .returned v ∧ OwnK kS w' w.heap.size v l ∧ Below w.heap.size w w' := by
  have HA := hid (appendSeq_any h hby gb hgb hgl)
  clear h hgb
  go_enter Try.func47, Try.ntmps47
  go_wp2_with (go_at_call 61; (with_reducible_and_instances (refine HA.out.mono ?_)); rintro e w2 ⟨v, rfl, ho, hb⟩; have HO := hid ho; have HB := hid hb; clear ho hb)
  go_ret
  exact ⟨v, rfl, HO.out.mono (by omega), HB.out⟩
theorem sorted_any (h : ArgK kS w l ad m c) (hby : m * 16 ≤ 140737488355328) (gb : Nat) (hgb : w.cell? ⟨gb, 0, none⟩ = some (.slice ad m c)) (hgl : gb < w.heap.size) :
    Calls Try.prog 39 #[.func (.func 49) #[] #[.pointer (some ⟨gb, 0, none⟩)]] w fun e w' => ∃ v, e = .returned v ∧ OwnK kS w' w.heap.size v (risN l) ∧ Below w.heap.size w w' := by
  have HA := hid (collect_any h hby gb hgb hgl)
  have HL : Hid (l.length < 4611686018427387904) := by have := h.len; show _ < _; omega
  clear h hgb
  go_enter Try.func39, Try.ntmps39
  go_wp2_with (first
    | (go_at_call 47; (with_reducible_and_instances (refine HA.out.mono ?_)); rintro e w2 ⟨v, rfl, ho, hb⟩; have HS := hid (sortS_own ho HL.out); have HB := hid hb; have HBl := hid ho.block; clear ho hb)
    | (go_at_call 48; (with_reducible_and_instances (refine HS.out.mono ?_)); rintro e w3 ⟨rfl, ho, hg⟩; have HO := hid ho; have HG := hid hg; clear ho hg))
  go_ret
  exact ⟨v, rfl, HO.out, HB.out.grown HG.out HB.out.size (fun k hk => (HBl.out k hk).1)⟩
theorem rising_any (h : ArgK kS w l ad m c) (hby : m * 16 ≤ 140737488355328) :
    Calls Try.prog 30 #[.slice ad m c] w fun e w' => ∃ v, e = .returned v ∧ OwnK kS w' w.heap.size v (risN l) ∧ Below w.heap.size w w' := by
  have hb0 : Blk (w.alloc (.cells #[.slice ad m c] 23)) w.heap.size _ _ := heap_alloc_new w _
  have hbl := (Below.refl w.heap.size w).alloc (Nat.le_refl _) (.cells #[.slice ad m c] 23)
  have HS := hid (sorted_any (h.later hbl) hby w.heap.size (hb0.cell 0) (by simp))
  have HB := hid hbl
  clear h hb0 hbl
  go_enter Try.func30, Try.ntmps30
  go_wp2_with (first
    | (go_at_call 40; refine (vals_any ad m c _).mono ?_; rintro e w2 ⟨rfl, hw2⟩; obtain rfl := hw2.symm)
    | (go_at_call 39; (with_reducible_and_instances (refine HS.out.mono ?_)); rintro e w3 ⟨v, rfl, ho, hb⟩; have HO := hid ho; have HB3 := hid hb; clear ho hb))
  go_ret
  exact ⟨v, rfl, HO.out.mono (by simp), HB.out.trans (HB3.out.mono (by simp))⟩
end Go.Proofs.Ytakpdhmfbgfblaa
