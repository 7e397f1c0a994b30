/- write of package store: blocks that are to last. -/
import Derived.Test.YtikomnbhmmjfnaaGreatSLooks
import Derived.Test.YtikomnbhmmjfnaaGreatSParts
import Derived.Test.YtikomnbhmmjfnaaGreatDSync
namespace Go.Proofs.YtikomnbhmmjfnaaGreat
open Go.RowKit Go.Shelf
attribute [local go_sem] Oper.semAt_some
variable {w w' : World} {FD G : List Nat} {S D X Y : Nat} {fx fy : Lit → Option Value} {A : Nat → Nat → Value} {s : SSt}

theorem SeqR.later {P : Program} {gf : Nat} {lb : Array Value} {Kp : World → World → Prop} {K : Nat → World → Prop} {R : Nat → Array Value → World → Prop} {N : Nat} {w w1 : World} (h : SeqR P gf lb Kp K R N w) (hb : Below w.heap.size w w1) : SeqR P gf lb Kp K R N w1 :=
  fun l J Jx W hW h1 h2 h3 h4 h5 => h l J Jx W (hb.trans (hW.mono hb.size)) h1 h2 h3 h4 h5
theorem writeD_vs (d : DSt) (i : Int) (b : List Nat) (m : Nat) (h : ∀ x ∈ d.bs, x.vs.length ≤ m) : ∀ x ∈ (writeD d i b).2.bs, x.vs.length ≤ m + 1 := by
  have h0 : ∀ x ∈ (opD d).2.bs, x.vs.length ≤ m + 1 := by rw [opD_bs]; exact fun x hx => Nat.le_succ_of_le (h x hx)
  unfold writeD
  split
  · rename_i hh
    split
    · intro x hx
      rcases mem_setB hx with rfl | hx
      · simp only [DBlock.add, List.length_append, List.length_cons, List.length_nil, opD_at]
        have hi : i.toNat < d.bs.length := by simp only [DSt.has, Bool.and_eq_true, decide_eq_true_eq] at hh; omega
        have := h _ (at_mem hi)
        omega
      · exact h0 x hx
    · exact h0
  · exact fun x hx => Nat.le_succ_of_le (h x hx)
theorem writesD_vs (xs : List (Nat × List Nat)) : ∀ (d : DSt) (m : Nat), (∀ x ∈ d.bs, x.vs.length ≤ m) → ∀ x ∈ (writesD d xs).2.bs, x.vs.length ≤ m + xs.length := by
  induction xs with
  | nil => intro d m h; simpa [writesD] using h
  | cons y r ih =>
    intro d m h x hx
    simp only [writesD] at hx
    split at hx
    · have := ih _ _ (writeD_vs d y.1 y.2 m h) x hx
      simp only [List.length_cons]; omega
    · have := writeD_vs d y.1 y.2 m h x hx
      simp only [List.length_cons]; omega
theorem part_putObj {Z : World} {q : Part} {B : Nat} {o : Loop} (h : q.ok Z) (ho : Z.heap[B]? = some (.loop o)) (o' : Obj) : q.ok (Z.putObj B o') := by
  refine ⟨h.1, h.2.1, h.2.2.1, ?_⟩
  rcases h.2.2.2 with h0 | ⟨b, off, e, hb, hc⟩
  · exact Or.inl h0
  · by_cases h0 : q.l = []
    · exact Or.inl h0
    · have hne : b ≠ B := by
        rintro rfl
        have h1 := hc 0 (List.length_pos_iff.2 h0)
        simp only [World.cell?, ho] at h1
        cases h1
      refine Or.inr ⟨b, off, e, by simpa using hb, fun i hi => ?_⟩
      have h2 := hc i hi
      simp only [World.cell?] at h2 ⊢
      rw [World.putObj_heap_other hne]
      exact h2
/-- What lies in memory between two rounds of write's loop. -/
def WI (w : World) (FD G : List Nat) (S D X Y : Nat) (fx fy : Lit → Option Value) (A : Nat → Nat → Value) (s : SSt) (r : Int) (b : Bool) (Z : World) : Prop :=
  ∃ FD', SPic Z FD' G S D X Y fx fy A s ∧ (∀ g ∈ FD', g ∈ FD ∨ w.heap.size + 5 ≤ g) ∧ Chg (S :: FD) w Z ∧ Blk Z w.heap.size #[.pointer (some ⟨S, 0, none⟩)] 33 ∧ Blk Z (w.heap.size + 1) #[.int .i64 r] 34 ∧ Blk Z (w.heap.size + 2) #[.bool b] 4
theorem WI.chg (h0 : SPic w FD G S D X Y fx fy A s) {s' : SSt} {r : Int} {b : Bool} {Z Z' : World} (h : WI w FD G S D X Y fx fy A s' r b Z) (hc : Chg [w.heap.size + 3, w.heap.size + 4] Z Z') : WI w FD G S D X Y fx fy A s' r b Z' := by
  obtain ⟨FD', hp, hn, hcw, b1, b2, b3⟩ := h
  refine ⟨FD', hp.keep (fun g hg => ?_) hc.size, hn, hcw.trans hc (fun k hk => Or.inr (by simp at hk; omega)), b1.chg hc (by simp), b2.chg hc (by simp), b3.chg hc (by simp)⟩
  refine hc.block g (hg.elim (hp.disk.lt g) (hp.lt g)) ?_
  rcases hg with hg | hg
  · rcases hn g hg with h1 | h1
    · have := h0.disk.lt g h1; simp; omega
    · simp; omega
  · have := h0.lt g hg; simp; omega
/-- Behind a call on the disk. -/
theorem WI.moved (h0 : SPic w FD G S D X Y fx fy A s) {s1 : SSt} {r : Int} {b : Bool} {Z Z2 : World} {FD' : List Nat} {d : DSt} (hp : SPic Z FD' G S D X Y fx fy A s1) (hn : ∀ g ∈ FD', g ∈ FD ∨ w.heap.size + 5 ≤ g) (hcw : Chg (S :: FD) w Z) (b1 : Blk Z w.heap.size #[.pointer (some ⟨S, 0, none⟩)] 33) (b2 : Blk Z (w.heap.size + 1) #[.int .i64 r] 34) (b3 : Blk Z (w.heap.size + 2) #[.bool b] 4)
    (hZ : w.heap.size + 5 ≤ Z.heap.size) (hm : Moved Dk FD' D d Z Z2) (hl : d.bs.length = s1.d.bs.length) : WI w FD G S D X Y fx fy A { s1 with d := d } r b Z2 ∧ ∀ g, g < w.heap.size + 5 → g ∉ FD → Z2.heap[g]? = Z.heap[g]? := by
  obtain ⟨FD2, hp2, hn2, hc2⟩ := hp.disked hm hl
  have hout : ∀ g, g < w.heap.size + 5 → g ∉ FD → g ∉ FD' := fun g h1 h2 h3 => (hn g h3).elim h2 (fun h => by omega)
  have hFD : ∀ g, w.heap.size ≤ g → g ∉ FD := fun g hg hm => absurd (h0.disk.lt g hm) (by omega)
  refine ⟨⟨FD2, hp2, fun g hg => (hn2 g hg).elim (hn g) (fun h => Or.inr (by omega)), hcw.trans hc2 (fun k hk => (hn k hk).imp (fun h => List.mem_cons_of_mem _ h) (fun h => by omega)), b1.chg hc2 (hout _ (by omega) (hFD _ (by omega))), b2.chg hc2 (hout _ (by omega) (hFD _ (by omega))), b3.chg hc2 (hout _ (by omega) (hFD _ (by omega)))⟩, fun g h1 h2 => hc2.block g (by omega) (hout g h1 h2)⟩
theorem WI.mark {s1 : SSt} {r : Int} {b : Bool} {Z : World} (h : WI w FD G S D X Y fx fy A s1 r b Z) (h0 : SPic w FD G S D X Y fx fy A s) : WI w FD G S D X Y fx fy A s1 r true (Z.setCell ⟨w.heap.size + 2, 0, none⟩ (.bool true)) := by
  obtain ⟨FD', hp, hn, hc, b1, b2, b3⟩ := h
  have hs : Chg [w.heap.size + 2] Z (Z.setCell ⟨w.heap.size + 2, 0, none⟩ (.bool true)) := (Chg.refl _ _).set (Or.inl (by simp)) _ _
  refine ⟨FD', hp.keep (fun g hg => hs.block g (hg.elim (hp.disk.lt g) (hp.lt g)) ?_) hs.size, hn, hc.trans hs (fun k hk => Or.inr (by simp at hk; omega)), b1.chg hs (by simp), b2.chg hs (by simp), b3.set 0 (.bool true)⟩
  rcases hg with hg | hg
  · rcases hn g hg with h1 | h1
    · have := h0.disk.lt g h1; simp; omega
    · simp; omega
  · have := h0.lt g hg; simp; omega
theorem WI.res {s1 : SSt} {r : Int} {b : Bool} {Z : World} (h : WI w FD G S D X Y fx fy A s1 r b Z) (h0 : SPic w FD G S D X Y fx fy A s) (r' : Int) : WI w FD G S D X Y fx fy A s1 r' b (Z.setCell ⟨w.heap.size + 1, 0, none⟩ (.int .i64 r')) := by
  obtain ⟨FD', hp, hn, hc, b1, b2, b3⟩ := h
  have hs : Chg [w.heap.size + 1] Z (Z.setCell ⟨w.heap.size + 1, 0, none⟩ (.int .i64 r')) := (Chg.refl _ _).set (Or.inl (by simp)) _ _
  refine ⟨FD', hp.keep (fun g hg => hs.block g (hg.elim (hp.disk.lt g) (hp.lt g)) ?_) hs.size, hn, hc.trans hs (fun k hk => Or.inr (by simp at hk; omega)), b1.chg hs (by simp), b2.set 0 (.int .i64 r'), b3.chg hs (by simp)⟩
  rcases hg with hg | hg
  · rcases hn g hg with h1 | h1
    · have := h0.disk.lt g h1; simp; omega
    · simp; omega
  · have := h0.lt g hg; simp; omega
set_option maxRecDepth 100000 in
/-- fall, in the loop. -/
theorem WI.fall {s1 : SSt} {r : Int} {b : Bool} {Z : World} (h : WI w FD G S D X Y fx fy A s1 r b Z) (h0 : SPic w FD G S D X Y fx fy A s) :
    Calls Tryz.prog 81 #[.pointer (some ⟨S, 0, none⟩)] Z fun e Z2 => e = .returned (.int .i64 8) ∧ Z2.cell? ⟨w.heap.size + 1, 0, none⟩ = some (.int .i64 r) ∧ Z2.frozen? ⟨w.heap.size + 1, 0, none⟩ = false ∧ Hid (WI w FD G S D X Y fx fy A { s1 with fallen := true } 8 b (Z2.setCell ⟨w.heap.size + 1, 0, none⟩ (.int .i64 8)) ∧ ∀ g, w.heap.size + 3 ≤ g → g < Z.heap.size → (Z2.setCell ⟨w.heap.size + 1, 0, none⟩ (.int .i64 8)).heap[g]? = Z.heap[g]?) := by
  obtain ⟨FD', hp, hn, hc, b1, b2, b3⟩ := h
  have hS := h0.ltS
  refine (fall_pic hp).mono ?_
  rintro e Z2 ⟨rfl, hp2, hc2⟩
  have hw2 : WI w FD G S D X Y fx fy A { s1 with fallen := true } r b Z2 := ⟨FD', hp2, hn, hc.trans hc2 (fun k hk => by simp at hk; subst hk; exact Or.inl (by simp)), b1.chg hc2 (by simp; omega), b2.chg hc2 (by simp; omega), b3.chg hc2 (by simp; omega)⟩
  have b2' := b2.chg hc2 (by simp; omega)
  refine ⟨rfl, b2'.cell 0, b2'.free 0, hw2.res h0 8, fun g hg hlt => ?_⟩
  exact (Below.heap_setCell _ _ _ _ (by show g ≠ w.heap.size + 1; omega)).trans (hc2.block g hlt (by simp; omega))
/-- What write answers. -/
def WPost (w : World) (FD G : List Nat) (S D X Y : Nat) (fx fy : Lit → Option Value) (A : Nat → Nat → Value) (s : SSt) (xs : List (Nat × List Nat)) (e : Ending) (w' : World) : Prop :=
  e = .returned (.int .i64 (if (lastsD s.d xs).1 then 0 else 8)) ∧ ∃ FD', SPic w' FD' G S D X Y fx fy A { s with d := (lastsD s.d xs).2, fallen := s.fallen || !(lastsD s.d xs).1 } ∧ (∀ g ∈ FD', g ∈ FD ∨ w.heap.size ≤ g) ∧ Chg (S :: FD) w w'
theorem WPost.no {xs : List (Nat × List Nat)} {d : DSt} {Z Z' : World} {b : Bool} {r : Int} (h0 : SPic w FD G S D X Y fx fy A s) (hl : lastsD s.d xs = (false, d)) (h : WI w FD G S D X Y fx fy A { s with d := d, fallen := true } r b Z) (hc : Chg [w.heap.size + 3, w.heap.size + 4] Z Z') : WPost w FD G S D X Y fx fy A s xs (.returned (.int .i64 8)) Z' := by
  obtain ⟨FD', hp, hn, hcw, _⟩ := h.chg h0 hc
  unfold WPost
  rw [hl]
  refine ⟨rfl, FD', ?_, fun g hg => (hn g hg).imp id (fun h => by omega), hcw⟩
  simpa using hp
theorem WPost.yes {xs : List (Nat × List Nat)} {d : DSt} {Z Z' : World} {b : Bool} {r : Int} (h0 : SPic w FD G S D X Y fx fy A s) (hl : lastsD s.d xs = (true, d)) (h : WI w FD G S D X Y fx fy A { s with d := d } r b Z) (hc : Chg [w.heap.size + 3, w.heap.size + 4] Z Z') : WPost w FD G S D X Y fx fy A s xs (.returned (.int .i64 0)) Z' := by
  obtain ⟨FD', hp, hn, hcw, _⟩ := h.chg h0 hc
  unfold WPost
  rw [hl]
  refine ⟨rfl, FD', ?_, fun g hg => (hn g hg).imp id (fun h => by omega), hcw⟩
  simpa using hp
theorem lastsD_no {d : DSt} {xs : List (Nat × List Nat)} {k : Nat} (h : (writesD d (xs.take k)).1 = false) : lastsD d xs = (false, midD d xs k) := by
  have e := writesD_stop d xs k h
  unfold lastsD midD
  rw [e, h]
  rfl
set_option maxRecDepth 100000 in
set_option maxHeartbeats 400000 in
theorem write_any (h : SPic w FD G S D X Y fx fy A s) (gf : Nat) (lb : Array Value) (eg : ∀ args w, (callFunc gf args).run Tryz.prog w = .ok (.enter gf args) w) (xs : List (Nat × List Nat)) (Gs : List Nat) (K : Nat → World → Prop) (hseq : SeqR Tryz.prog gf lb (Kg Gs) K (RowR xs) xs.length w) (hGs : ∀ g ∈ Gs, g < w.heap.size ∧ g ∉ FD)
    (hK : ∀ k Z b, WI w FD G S D X Y fx fy A { s with d := midD s.d xs k } 0 b Z → (writesD s.d (xs.take k)).1 = true → K k Z) (hfew : ∀ x ∈ s.d.bs, x.vs.length ≤ 1000000) (hxs : xs.length ≤ 1000000) :
    Calls Tryz.prog 45 #[.pointer (some ⟨S, 0, none⟩), .func (.func gf) #[] lb] w (WPost w FD G S D X Y fx fy A s xs) := by
  have HH := hide h
  have HG := hide hGs
  have HK := hide hK
  have HFe := hide hfew
  have HSq := hide hseq
  have HE := hide eg
  clear h hGs hK hfew hseq eg
  refine (callsIn_wide (n := 3)).1 ?_
  refine callsIn_of_wp_marks Tryz.func45 rfl trivial ?_ rfl
  simp only [Tryz.ntmps45, List.size_toArray, List.length_cons, List.length_nil, Nat.reduceAdd, Nat.reduceSub, Array.replicate_succ, Array.replicate_zero, List.push_toArray, List.append_toArray, List.nil_append, List.cons_append]
  gi_wp2
  obtain ⟨W3, hW3⟩ : ∃ W3, ((w.alloc (.cells #[.pointer (some ⟨S, 0, none⟩)] 33)).alloc (.cells #[.int .i64 0] 34)).alloc (.cells #[.bool false] 4) = W3 := ⟨_, rfl⟩
  rw [hW3]
  have hsz : W3.heap.size = w.heap.size + 3 := by rw [← hW3]; simp
  have hb3 : Below w.heap.size w W3 := by rw [← hW3]; exact (((Below.refl _ w).alloc (Nat.le_refl _) _).alloc (by simp) _).alloc (by simp; omega) _
  obtain ⟨B1, B2, B3⟩ : Blk W3 w.heap.size #[.pointer (some ⟨S, 0, none⟩)] 33 ∧ Blk W3 (w.heap.size + 1) #[.int .i64 0] 34 ∧ Blk W3 (w.heap.size + 2) #[.bool false] 4 := by rw [← hW3]; exact ⟨(three_blocks w _ _ _).1, (three_blocks w _ _ _).2.1, (three_blocks w _ _ _).2.2⟩
  clear hW3
  refine range_R (w.heap.size + 3) hsz (gf := gf) (lb := lb) rfl HE.out (HSq.out.later hb3) (fun h k => h.trans k) ?kb (fun k Z => WI w FD G S D X Y fx fy A { s with d := midD s.d xs k } 0 (decide (0 < k)) Z ∧ (writesD s.d (xs.take k)).1 = true) (fun k Z => ∃ b, WI w FD G S D X Y fx fy A { s with d := midD s.d xs k, fallen := true } 8 b Z ∧ (writesD s.d (xs.take k)).1 = false) ?hI ?hIx ?hIK ?h0 ?hps ?hRc
    (fun args => { tmps := #[.pointer (some ⟨S, 0, none⟩), .func (.func gf) #[] lb, .pointer (some ⟨w.heap.size, 0, none⟩), undef, .pointer (some ⟨w.heap.size + 1, 0, none⟩), .pointer (some ⟨w.heap.size + 1 + 1, 0, none⟩), args.getD 0 undef, args.getD 1 undef, .func (.func gf) #[] lb, args.getD 0 undef, args.getD 1 undef, undef, undef, undef, undef, undef, undef, undef, undef, undef, undef, undef, undef, undef, undef, undef, undef, undef, undef, undef, undef, undef], defers := [] }) ?assign ?body ?done ?stop
  case kb =>
    intro Z o hZ
    exact ⟨by simp, fun g hg => World.putObj_heap_other (by have := (HG.out g hg).1; omega)⟩
  case hI => exact fun k Z Z' h1 hc => ⟨h1.1.chg HH.out hc, h1.2⟩
  case hIx =>
    rintro k Z Z' ⟨b, h1, h2⟩ hc
    exact ⟨b, h1.chg HH.out hc, h2⟩
  case hIK => exact fun k Z h1 => HK.out k Z _ h1.1 h1.2
  case h0 =>
    refine ⟨⟨FD, ?_, fun g hg => Or.inl hg, Chg.of hb3, B1, B2, B3⟩, rfl⟩
    exact HH.out.below hb3
  case hps =>
    rintro k args Z ⟨x, q, hx, rfl, _⟩
    rfl
  case hRc =>
    rintro k args Z o ⟨x, q, hx, rfl, hl, hq⟩ ho o'
    exact ⟨x, q, hx, rfl, hl, part_putObj hq ho o'⟩
  case assign =>
    rintro l k args Z L ⟨x, q, hx, rfl, _⟩ hL
    clear HH HG HK HFe HSq HE B1 B2 B3 hb3 hx
    gi_wp2
    exact hL
  case body =>
    rintro l k args Z hk hZ ⟨hWI, hok⟩ ⟨x, q, hx, rfl, hql, hqo⟩
    have hWI' := hWI
    obtain ⟨FD', hp, hn, hcw, b1, b2, b3⟩ := hWI'
    obtain ⟨Bd, M, Dm, V, C, hd⟩ : Dk Z FD' D (midD s.d xs k) := hp.disk
    have htk : xs.take (k + 1) = xs.take k ++ [x] := by
      rw [List.take_succ_eq_append_getElem hk]
      rw [List.getElem?_eq_getElem hk] at hx
      cases hx; rfl
    have hsn := writesD_snoc s.d (xs.take k) x hok
    rw [← htk] at hsn
    have hmid : midD s.d xs (k + 1) = (writeD (midD s.d xs k) x.1 x.2).2 := by unfold midD; rw [hsn]
    have hok1 : (writesD s.d (xs.take (k + 1))).1 = decide ((writeD (midD s.d xs k) x.1 x.2).1 = 0) := by rw [hsn]; rfl
    have hqx : Part.ok Z ⟨q.ad, q.len, q.cap, x.2⟩ := by rw [← hql]; exact hqo
    have hwr := write_pic hd (fun y hy => by have := writesD_vs (xs.take k) s.d 1000000 HFe.out y hy; have h2 : (xs.take k).length ≤ k := List.length_take_le _ _; omega) (x.1 : Int) q.ad q.len q.cap x.2 hqx
    have hlen : (writeD (midD s.d xs k) x.1 x.2).2.bs.length = (midD s.d xs k).bs.length := writeD_length _ _ _
    have c1 := b1.cell 0
    have c2 := hp.cells.1
    have HMv := hide (fun (Z2 : World) (hm : Moved Dk FD' D (writeD (midD s.d xs k) x.1 x.2).2 Z Z2) => WI.moved HH.out hp hn hcw b1 b2 b3 (by omega) hm hlen)
    rw [← hmid] at HMv hwr
    have HO := hide hok1
    have HGo := hide (fun (Z2 : World) (hg : ∀ g, g < w.heap.size → g ∉ FD → Z2.heap[g]? = Z.heap[g]?) (hsz : Z.heap.size ≤ Z2.heap.size) => (⟨hsz, fun g hg' => hg g (HG.out g hg').1 (HG.out g hg').2⟩ : Kg Gs Z Z2))
    have HFD : Hid (∀ g, w.heap.size ≤ g → g ∉ FD) := fun g hg hm => absurd (HH.out.disk.lt g hm) (by omega)
    clear hWI hp hn hcw b2 b3 hd hqx hqo hql hlen hsn htk hmid hok1 b1 B1 B2 B3 hb3
    by_cases hz : (writeD (midD s.d xs k) x.1 x.2).1 = 0
    · rw [hz] at hwr
      have HOk : Hid ((writesD s.d (xs.take (k + 1))).1 = true) := hide (HO.out.trans (by simp [hz]))
      clear HO hz
      gi_wp2_with (refine ⟨trivial, ?_⟩; gi_at_call 80; refine (CallsIn.inRound l (callsIn_wide.2 hwr)).mono ?_; rintro e Z2 ⟨rfl, hm⟩; obtain ⟨hW2, hs2⟩ := HMv.out Z2 hm; have HW2 := hide hW2; have HS2 := hide hs2; have HZ2 := hide hm.chg.size; obtain ⟨FD2, hp2, hn2, hc2, d1, d2, d3⟩ := hW2; have c3 : Z2.cell? ⟨w.heap.size + 1 + 1, 0, none⟩ = _ := d3.cell 0; have f3 : Z2.frozen? ⟨w.heap.size + 1 + 1, 0, none⟩ = false := d3.free 0; clear hp2 hn2 hc2 d1 d2 d3 hs2 hm)
      refine ⟨⟨?_, ?_⟩, ?_, ⟨?_, HOk.out⟩⟩
      · exact (Below.heap_setCell _ _ _ _ (by show w.heap.size + 3 ≠ w.heap.size + 1 + 1; omega)).trans (HS2.out _ (by omega) (HFD.out _ (by omega)))
      · exact (Below.heap_setCell _ _ _ _ (by show w.heap.size + 3 + 1 ≠ w.heap.size + 1 + 1; omega)).trans (HS2.out _ (by omega) (HFD.out _ (by omega)))
      · exact HGo.out _ (fun g h1 h2 => (Below.heap_setCell _ _ _ _ (by show g ≠ w.heap.size + 1 + 1; omega)).trans (HS2.out g (by omega) h2)) (by simpa [World.setCell] using HZ2.out)
      · have := HW2.out.mark HH.out
        simpa using this
    · have HOk : Hid ((writesD s.d (xs.take (k + 1))).1 = false) := hide (HO.out.trans (by simp [hz]))
      generalize (writeD (midD s.d xs k) x.1 x.2).1 = z at hwr hz
      have hne : (z == 0) = false := by simpa using hz
      clear HO hz
      gi_wp2_with (first
        | (refine ⟨trivial, ?_⟩; gi_at_call 80; refine (CallsIn.inRound l (callsIn_wide.2 hwr)).mono ?_; rintro e Z2 ⟨rfl, hm⟩; obtain ⟨hW2, hs2⟩ := HMv.out Z2 hm; have HW2 := hide hW2; have HS2 := hide hs2; have HZ2 := hide hm.chg.size; obtain ⟨FD2, hp2, hn2, hc2, d1, d2, d3⟩ := hW2; have c3 := d1.cell 0; clear hp2 hn2 hc2 d1 d2 d3 hs2 hm)
        | (refine ⟨trivial, ?_⟩; gi_at_call 81; refine (CallsIn.inRound l (callsIn_wide.2 (HW2.out.fall HH.out))).mono ?_; rintro e Z3 ⟨rfl, c4, f4, hX⟩))
      have hZ2 := HZ2.out
      refine ⟨⟨?_, ?_⟩, ⟨_, hX.out.1, HOk.out⟩⟩
      · exact (hX.out.2 _ (by omega) (by omega)).trans (HS2.out _ (by omega) (HFD.out _ (by omega)))
      · exact (hX.out.2 _ (by omega) (by omega)).trans (HS2.out _ (by omega) (HFD.out _ (by omega)))
  case done =>
    rintro Z hZ5 ⟨hWI, hok⟩ hD
    have hmid : midD s.d xs xs.length = (writesD s.d xs).2 := by unfold midD; rw [List.take_length]
    rw [hmid] at hWI
    rw [List.take_length] at hok
    have hZ : w.heap.size + 3 < Z.heap.size := (Array.getElem?_eq_some_iff.1 hD).1
    have HD := hide hD
    clear hb3 B1 B2 B3 hmid hD
    by_cases h0 : xs = []
    · have hl : lastsD s.d xs = (true, (writesD s.d xs).2) := by subst h0; rfl
      have hb : decide (0 < xs.length) = false := by subst h0; rfl
      rw [hb] at hWI
      have hX : WPost w FD G S D X Y fx fy A s xs (.returned (.int .i64 0)) ((Z.setCell ⟨w.heap.size + 1, 0, none⟩ (.int .i64 0)).putObj (w.heap.size + 3) (.deferred none)) := WPost.yes HH.out hl (hWI.res HH.out 0) (putObj_chg _ _ _ (.deferred none) (Or.inl rfl))
      have HX := hide hX
      obtain ⟨FD', hp, hn, hcw, b1, b2, b3⟩ := hWI
      have c2 := b2.cell 0
      have f2 := b2.free 0
      have c3 : Z.cell? ⟨w.heap.size + 1 + 1, 0, none⟩ = _ := b3.cell 0
      have hr : ((Z.setCell ⟨w.heap.size + 1, 0, none⟩ (.int .i64 0)).putObj (w.heap.size + 3) (.deferred none)).cell? ⟨w.heap.size + 1, 0, none⟩ = some (.int .i64 0) := ((b2.set 0 (.int .i64 0)).chg (F := [w.heap.size + 3, w.heap.size + 3 + 1]) (putObj_chg _ _ _ _ (Or.inl rfl)) (by simp)).cell 0
      have hD2 : (Z.setCell ⟨w.heap.size + 1, 0, none⟩ (.int .i64 0)).heap[w.heap.size + 3]? = some (.deferred (some [])) := (Below.heap_setCell _ _ _ _ (by show w.heap.size + 3 ≠ w.heap.size + 1; omega)).trans HD.out
      have HR := hide hr
      have HD2 := hide hD2
      clear hp hn hcw b1 b2 b3 hr hD2 hX hl hok
      gi_wp2
      refine ⟨trivial, ?_⟩
      gi_wp2
      refine ⟨by simp, .inl ⟨_, _, rfl, run_takeDeferred HD2.out, ?_⟩⟩
      exact ⟨_, by simp [results, Tryz.results45, go_sem, HR.out], HX.out⟩
    · have hb : decide (0 < xs.length) = true := by simpa using List.length_pos_iff.2 h0
      rw [hb] at hWI
      have hWI' := hWI
      obtain ⟨FD', hp, hn, hcw, b1, b2, b3⟩ := hWI'
      obtain ⟨Bd, M, Dm, V, C, hd⟩ : Dk Z FD' D (writesD s.d xs).2 := hp.disk
      have hsy := sync_pic hd
      have c1 := b1.cell 0
      have c2 := hp.cells.1
      have c3 : Z.cell? ⟨w.heap.size + 1 + 1, 0, none⟩ = _ := b3.cell 0
      have HMv := hide (fun (Z2 : World) (hm : Moved Dk FD' D (syncD (writesD s.d xs).2).2 Z Z2) => WI.moved HH.out hp hn hcw b1 b2 b3 (by omega) hm (syncD_length _))
      have HFD : Hid (∀ g, w.heap.size ≤ g → g ∉ FD) := fun g hg hm => absurd (HH.out.disk.lt g hm) (by omega)
      have hl : lastsD s.d xs = (decide ((syncD (writesD s.d xs).2).1 = 0), (syncD (writesD s.d xs).2).2) := by unfold lastsD; rw [if_pos hok, if_neg h0]
      have HL := hide hl
      clear hp hn hcw b1 b2 b3 hd hWI hl hok
      by_cases hz : (syncD (writesD s.d xs).2).1 = 0
      · have HL2 : Hid (lastsD s.d xs = (true, (syncD (writesD s.d xs).2).2)) := HL.out.trans (by simp [hz])
        rw [hz] at hsy
        generalize (syncD (writesD s.d xs).2).2 = d at *
        clear hz HL
        gi_wp2_with (refine ⟨trivial, ?_⟩; gi_at_call 82; refine (callsIn_wide.2 hsy).mono ?_; rintro e Z2 ⟨rfl, hm⟩; obtain ⟨hW2, hs2⟩ := HMv.out Z2 hm; have HW2 := hide hW2; have HS2 := hide hs2; have HZ2 := hide hm.chg.size; obtain ⟨FD2, hp2, hn2, hc2, d1, d2, d3⟩ := hW2; have c5 := d2.cell 0; have f5 := d2.free 0; have HD2 := hide d2; clear hp2 hn2 hc2 d1 d2 d3 hs2 hm)
        have hr : ((Z2.setCell ⟨w.heap.size + 1, 0, none⟩ (.int .i64 0)).putObj (w.heap.size + 3) (.deferred none)).cell? ⟨w.heap.size + 1, 0, none⟩ = some (.int .i64 0) := ((HD2.out.set 0 (.int .i64 0)).chg (F := [w.heap.size + 3, w.heap.size + 3 + 1]) (putObj_chg _ _ _ _ (Or.inl rfl)) (by simp)).cell 0
        have hD2 : (Z2.setCell ⟨w.heap.size + 1, 0, none⟩ (.int .i64 0)).heap[w.heap.size + 3]? = some (.deferred (some [])) := (Below.heap_setCell _ _ _ _ (by show w.heap.size + 3 ≠ w.heap.size + 1; omega)).trans ((HS2.out _ (by omega) (HFD.out _ (by omega))).trans HD.out)
        refine ⟨by simp, .inl ⟨_, _, rfl, run_takeDeferred hD2, ?_⟩⟩
        exact ⟨_, by simp [results, Tryz.results45, go_sem, hr], WPost.yes HH.out HL2.out (HW2.out.res HH.out 0) (putObj_chg _ _ _ (.deferred none) (Or.inl rfl))⟩
      · have HL2 : Hid (lastsD s.d xs = (false, (syncD (writesD s.d xs).2).2)) := HL.out.trans (by simp [hz])
        generalize (syncD (writesD s.d xs).2).1 = z at hsy hz
        have hne : (z == 0) = false := by simpa using hz
        generalize (syncD (writesD s.d xs).2).2 = d at *
        clear hz HL
        gi_wp2_with (first
          | (refine ⟨trivial, ?_⟩; gi_at_call 82; refine (callsIn_wide.2 hsy).mono ?_; rintro e Z2 ⟨rfl, hm⟩; obtain ⟨hW2, hs2⟩ := HMv.out Z2 hm; have HW2 := hide hW2; have HS2 := hide hs2; have HZ2 := hide hm.chg.size; obtain ⟨FD2, hp2, hn2, hc2, d1, d2, d3⟩ := hW2; have c5 := d1.cell 0; clear hp2 hn2 hc2 d1 d2 d3 hs2 hm)
          | (refine ⟨trivial, ?_⟩; gi_at_call 81; refine (callsIn_wide.2 (HW2.out.fall HH.out)).mono ?_; rintro e Z3 ⟨rfl, c4, f4, hX⟩))
        have hZ2 := HZ2.out
        have hD2 : (Z3.setCell ⟨w.heap.size + 1, 0, none⟩ (.int .i64 8)).heap[w.heap.size + 3]? = some (.deferred (some [])) := (hX.out.2 _ (by omega) (by omega)).trans ((HS2.out _ (by omega) (HFD.out _ (by omega))).trans HD.out)
        have hr : ((Z3.setCell ⟨w.heap.size + 1, 0, none⟩ (.int .i64 8)).putObj (w.heap.size + 3) (.deferred none)).cell? ⟨w.heap.size + 1, 0, none⟩ = some (.int .i64 8) := by
          obtain ⟨FD3, hp3, hn3, hc3, d1, d2, d3⟩ := hX.out.1
          exact (d2.chg (F := [w.heap.size + 3, w.heap.size + 3 + 1]) (putObj_chg _ _ _ _ (Or.inl rfl)) (by simp)).cell 0
        refine ⟨by simp, .inl ⟨_, _, rfl, run_takeDeferred hD2, ?_⟩⟩
        exact ⟨_, by simp [results, Tryz.results45, go_sem, hr], WPost.no HH.out HL2.out hX.out.1 (putObj_chg _ _ _ (.deferred none) (Or.inl rfl))⟩
  case stop =>
    rintro k Z hk ⟨b, hWI, hno⟩ hD
    have hc8 : (Z.putObj (w.heap.size + 3) (.deferred none)).cell? ⟨w.heap.size + 1, 0, none⟩ = some (.int .i64 8) := by
      obtain ⟨FD', hp, hn, hc, b1, b2, b3⟩ := hWI
      exact (b2.chg (F := [w.heap.size + 3, w.heap.size + 3 + 1]) (putObj_chg Z _ _ _ (Or.inl rfl)) (by simp)).cell 0
    have HX := hide (WPost.no HH.out (lastsD_no hno) hWI (putObj_chg Z _ _ (.deferred none) (Or.inl rfl)))
    clear hWI hno
    gi_wp2
    refine ⟨by simp, .inl ⟨_, _, rfl, run_takeDeferred hD, ?_⟩⟩
    exact ⟨_, by simp [results, Tryz.results45, go_sem, hc8], HX.out⟩
end Go.Proofs.YtikomnbhmmjfnaaGreat
