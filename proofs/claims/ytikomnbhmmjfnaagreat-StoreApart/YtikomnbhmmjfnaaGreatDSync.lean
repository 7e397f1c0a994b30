/- settle of package disk: every version ends. -/
import Derived.Test.YtikomnbhmmjfnaaGreatSettleN
import Derived.Test.YtikomnbhmmjfnaaGreatDSort
import Derived.Deep.RegionHeld3
namespace Go.Proofs.YtikomnbhmmjfnaaGreat
open Go.RowKit
variable {w w' : World} {F : List Nat} {D B M : Nat} {Dm : DataW Value} {V C : Nat → Nat} {s : DSt}

/-- The sorted keys as the loop reads them. -/
theorem keys_form {w2 : World} {N n : Nat} {v : Value} {xs : List Value} (h : w2.ownsRow N 3 1 v n xs) : ∃ ad cap, v = .slice ad n cap ∧ (n = 0 ∨ ∃ g, ad = some ⟨g, 0, none⟩ ∧ N ≤ g ∧ g < w2.heap.size ∧ ∀ j, j < n → w2.cell? ⟨g, j, none⟩ = xs[j]?) := by
  rcases h.2 with ⟨rfl, rfl⟩ | ⟨g, cap, cur, rfl, hN, hb, r1, r2, r3, r4⟩
  · exact ⟨none, 0, rfl, Or.inl rfl⟩
  · refine ⟨some ⟨g, 0, none⟩, cap, rfl, Or.inr ⟨g, rfl, hN, (Array.getElem?_eq_some_iff.1 hb).1, fun j hj => ?_⟩⟩
    rw [cell_of_row _ _ _ _ _ _ hb, ← r4, List.getElem?_take, if_pos (by omega), Array.getElem?_toList]
/-- The disk when the first m dirty blocks have ended. -/
def midS (f : Nat → Nat → Int) (s : DSt) (m : Nat) : DSt := ⟨settleM f s.bs 0 m, s.off, s.fuse⟩
theorem mid_step (f : Nat → Nat → Int) (s : DSt) {m i : Nat} (h : (dirt s.bs 0)[m]? = some i) : i < (midS f s m).bs.length ∧ i < s.bs.length ∧ (s.at i).vs ≠ [] ∧ (midS f s m).at i = s.at i ∧ midS f s (m + 1) = (midS f s m).setB i ((s.at i).crash (f m (s.at i).vs.length)) := by
  obtain ⟨j, h1, h2, h3, h4, h5⟩ := settle_step f s.bs 0 0 m i h
  obtain rfl : i = j := by omega
  refine ⟨by unfold midS; rw [settle_len]; exact h2, h2, h3, h4, ?_⟩
  unfold midS DSt.setB
  rw [h5, Nat.zero_add]
  rfl
theorem crash_eq (x : DBlock) (c : Int) : (⟨(x.crash c).dur, []⟩ : DBlock) = x.crash c := by
  unfold DBlock.crash
  split
  · rfl
  · split <;> rfl
theorem setB_setB (s : DSt) (i : Nat) (x y : DBlock) : (s.setB i x).setB i y = s.setB i y := by
  unfold DSt.setB
  simp
/-- One round: what take and delete leave. -/
theorem round_pic {f : Nat → Nat → Int} {m i : Nat} (h : (dirt s.bs 0)[m]? = some i) {W W2 W3 : World} (h1 : Pic W2 F D B M Dm V C ((midS f s m).setB i ⟨((s.at i).crash (f m (s.at i).vs.length)).dur, ((midS f s m).at i).vs⟩)) (c1 : Chg [B] W W2) (hB : B ∈ F) {n : Nat}
    (hM : W3.ownsMap Tryz.prog 3 RV M n (Dm.del (kI i))) (ht : W2.mapTurned W3 M) : Pic W3 F D B M (Dm.del (kI i)) V C (midS f s (m + 1)) ∧ Chg F W W3 := by
  obtain ⟨g1, g2, g3, g4, g5⟩ := mid_step f s h
  have hg := ht.grown
  have c2 : Chg [M] W2 W3 := ⟨hg.os, hg.tape, hg.output, hg.size, fun k hk hn => hg.block k hk (fun e => hn (by cases e; simp))⟩
  have h2 := h1.del (i := i) (by rw [setB_len]; exact g1) c2 hM
  rw [setB_at _ _ _ _ g1, if_pos rfl, setB_setB, crash_eq, ← g5] at h2
  exact ⟨h2, (c1.mono (fun k hk => by simp at hk; rw [hk]; exact hB)).trans c2 (fun k hk => by simp at hk; rw [hk]; exact Or.inl h1.mM)⟩
set_option maxRecDepth 100000 in
set_option maxHeartbeats 8000000 in
theorem settle_s (h : Pic w F D B M Dm V C s) (f : Nat → Nat → Int) (hr : ∀ k n, n ≤ 9223372036854775807 → -9223372036854775808 ≤ f k n ∧ f k n ≤ 9223372036854775807) (hch : ∀ (W : World) (k n : Nat), Chg F w W → Calls Tryz.prog 108 #[.int .i64 (k : Int), .int .i64 (n : Int)] W fun e w' => e = .returned (.int .i64 (f k n)) ∧ w' = W) :
    Calls Tryz.prog 59 #[.pointer (some ⟨D, 0, none⟩), .func (.func 108) #[] #[]] w fun e w' => e = .returned (.tuple #[]) ∧ (∃ Dm', Pic w' F D B M Dm' V C (midS f s (dirtyD s))) ∧ Chg F w w' := by
  have HP : Hid (Pic w F D B M Dm V C s) := h
  have HC : Hid (∀ (W : World) (k n : Nat), Chg F w W → Calls Tryz.prog 108 #[.int .i64 (k : Int), .int .i64 (n : Int)] W fun e w' => e = .returned (.int .i64 (f k n)) ∧ w' = W) := hch
  have HR : Hid (∀ k n, n ≤ 9223372036854775807 → -9223372036854775808 ≤ f k n ∧ f k n ≤ 9223372036854775807) := hr
  obtain ⟨c0, c1, -, -⟩ := h.cells
  have hsort := sorted_pic h
  have hlen : (dirt s.bs 0).length = dirtyD s := dirt_len _ _
  have hdl : dirtyD s ≤ s.bs.length := dirtyBs_le _
  have hn2 := h.n2
  rw [hlen] at hsort
  have HL : Hid ((dirt s.bs 0).length = dirtyD s) := hlen
  have HD : Hid (dirtyD s ≤ s.bs.length) := hdl
  have hbig : dirtyD s ≤ 4096 := by omega
  clear h hch hr hlen hdl
  go_enter Tryz.func59, Tryz.ntmps59
  go_wp2_with (first
    | (go_at_call 92; refine (keys_any _ _).mono ?_; rintro e w1 ⟨rfl, hw1⟩; obtain rfl := hw1.symm)
    | (go_at_call 56; refine hsort.mono ?_; rintro e w2 ⟨v, rfl, hrow, hb2⟩; obtain ⟨ad, cap, hv, hf⟩ := keys_form hrow; subst hv; have HF : Hid (dirtyD s = 0 ∨ ∃ g, ad = some ⟨g, 0, none⟩ ∧ w.heap.size ≤ g ∧ g < w2.heap.size ∧ ∀ j, j < dirtyD s → w2.cell? ⟨g, j, none⟩ = ((dirt s.bs 0).map (fun i : Nat => Value.int .i64 (i : Int)))[j]?) := hf; have HB2 : Hid (Below w.heap.size w w2) := hb2; clear hrow hb2 hf))
  generalize hnn : dirtyD s = n at *
  have HN : Hid (dirtyD s = n) := hnn
  clear hnn hsort c0 c1
  go_loopw [14] (fun i wr => ∃ m : Nat, m ≤ n ∧ i = .int .i64 m ∧ Hid (∃ Dm', Pic wr F D B M Dm' V C (midS f s m)) ∧ Hid (Chg F w2 wr)) (fun i _ => n - (intOf i).toNat)
  case atStart =>
    exact ⟨0, by omega, rfl, (show Hid _ from ⟨Dm, by have e : midS f s 0 = s := by (unfold midS; rw [settle_none])
                                                      rw [e]; exact HP.out.below HB2.out⟩), (show Hid _ from Chg.refl _ _)⟩
  case round =>
    obtain ⟨m, hm, rfl, HPm, HCm⟩ := hrel
    by_cases hlt : m < n
    · obtain ⟨g, hg1, hg2, hg3, hg4⟩ := HF.out.resolve_left (by omega)
      subst hg1
      obtain ⟨Dm', hp⟩ := HPm.out
      obtain ⟨i, hi⟩ : ∃ i, (dirt s.bs 0)[m]? = some i := ⟨_, List.getElem?_eq_getElem (by rw [HL.out]; exact hlt)⟩
      obtain ⟨e1, e2, e3, e4, e5⟩ := mid_step f s hi
      have hgF : g ∉ F := fun hh => absurd (HP.out.lt g hh) (by omega)
      have ci : wr.cell? ⟨g, m, none⟩ = some (.int .i64 (i : Int)) := by
        rw [HCm.out.cell hg3 hgF, hg4 m hlt, List.getElem?_map, hi]; rfl
      obtain ⟨c0, c1, -, -⟩ := hp.cells
      have hlook := hp.lookup e1
      have hv : ((midS f s m).at i).vs ≠ [] := by rw [e4]; exact e3
      unfold verN at hlook
      rw [if_neg hv] at hlook
      unfold verS at hlook
      have hLr := HR.out m (s.at i).vs.length (by obtain ⟨cur, _, r1, r2, _⟩ := hp.rowBlock e1 hv; rw [e4] at r1; unfold maxLen at r2; omega)
      have htk := take_pic (hp.below ((Below.refl _ wr).drew)) i e1 hv (f m (s.at i).vs.length) hLr.1 hLr.2
      rw [e4] at hlook htk
      have hcw : Chg F w wr.drew := ((Chg.of HB2.out).trans HCm.out (fun k hk => Or.inl hk)).drew
      have hchoose := HC.out wr.drew m (s.at i).vs.length hcw
      have HX : Hid ((dirt s.bs 0)[m]? = some i) := hi
      have HPr : Hid (Pic wr F D B M Dm' V C (midS f s m)) := hp
      have e4' : Hid ((midS f s m).at i = s.at i) := e4
      have hkey := keyOf_i (i := i) (by omega)
      obtain ⟨L, hL⟩ : ∃ L, (s.at i).vs.length = L := ⟨_, rfl⟩
      obtain ⟨N, hN⟩ : ∃ N, (midS f s m).bs.length = N := ⟨_, rfl⟩
      have HLL : Hid ((s.at i).vs.length = L) := hL
      rw [hL] at hlook htk hchoose
      rw [hN] at e1 c0
      have hN2 : N ≤ 4096 := by rw [← hN]; exact hp.n2
      have HI : Hid (i < s.bs.length) := e2
      clear hi e3 e4 e5 hp hL hN hLr hcw hgF hg4 HF hv e2 HC HR hn2
      go_wp2_with fail
      go_region_held3 (fun W => W.cell? ⟨D, 0, none⟩ = some (.slice (some ⟨B, 0, none⟩) N N)) (first | exact c0 | exact cw)
        (first
          | (go_at_call 108; refine hchoose.mono ?_; rintro e W ⟨rfl, hW⟩; obtain rfl := hW.symm)
          | (go_at_call 93; refine htk.mono ?_; rintro e W5 ⟨rfl, hp5, hc5⟩; have H5 : Hid (Pic W5 F D B M Dm' V C ((midS f s m).setB i ⟨((s.at i).crash (f m L)).dur, (s.at i).vs⟩)) := hp5; have K5 : Hid (Chg [B] wr W5) := (show Hid _ from (((Chg.refl [B] wr).drew).trans hc5 (fun k hk => Or.inl hk))); have cw : W5.cell? ⟨D, 0, none⟩ = some (.slice (some ⟨B, 0, none⟩) N N) := (hc5.cell HPr.out.ltD (by simpa using HPr.out.neDB)).trans c0; have cw1 := hp5.cells.2.1; clear hp5 hc5))
      go_wp2_with (at_delete; refine wpList_delete_own _ rfl _ _ 39 3 rfl 141 keyI Tryz.underlying39 _ M (Maps.size Dm') Dm' rfl H5.out.hM _ _ rfl hkey ?_; intro W6 hM6 ht6; have HM6 : Hid (W6.ownsMap Tryz.prog 3 RV M (Maps.size Dm') (Dm'.del (kI i))) := hM6; have HT6 : Hid (W5.mapTurned W6 M) := ht6; clear hM6 ht6)
      have hfin := round_pic (f := f) HX.out (W := wr) (by rw [HLL.out, e4'.out]; exact H5.out) K5.out HPr.out.mB HM6.out HT6.out
      refine ⟨⟨m + 1, by omega, by go_num, (show Hid _ from ⟨_, hfin.1⟩), (show Hid _ from HCm.out.trans hfin.2 (fun k hk => Or.inl hk))⟩, by simp [intOf]; omega⟩
    · obtain rfl : m = n := by omega
      clear HC HR
      go_wp2
      refine bodyPost_end (results_none rfl _ _ _) rfl ⟨rfl, by rw [HN.out]; exact HPm.out, (Chg.of HB2.out).trans HCm.out (fun k hk => Or.inl hk)⟩
end Go.Proofs.YtikomnbhmmjfnaaGreat

/- Sync and Crash of package disk. -/
namespace Go.Proofs.YtikomnbhmmjfnaaGreat
open Go.RowKit
variable {w w' : World} {F : List Nat} {D B M : Nat} {Dm : DataW Value} {V C : Nat → Nat} {s : DSt}

set_option maxRecDepth 100000 in
theorem last_any (W : World) (k n : Nat) : Calls Tryz.prog 108 #[.int .i64 (k : Int), .int .i64 (n : Int)] W fun e w' => e = .returned (.int .i64 (n : Int)) ∧ w' = W := by
  go_enter Tryz.func108, Tryz.ntmps108
  go_wp2
  go_ret
  exact ⟨rfl, rfl⟩
set_option maxRecDepth 100000 in
set_option maxHeartbeats 1000000 in
theorem sync1_pic (h : Pic w F D B M Dm V C s) (gd : Nat) (cd : w.cell? ⟨gd, 0, none⟩ = some (.pointer (some ⟨D, 0, none⟩))) :
    Calls Tryz.prog 107 #[.pointer (some ⟨gd, 0, none⟩)] w fun e w' => e = .returned (.tuple #[]) ∧ Moved Dk F D ⟨s.bs.map DBlock.sync, s.off, s.fuse⟩ w w' := by
  have hs := settle_s h (fun _ n => (n : Int)) (fun k n hn => by omega) (fun W k n _ => last_any W k n)
  have e : midS (fun _ n => (n : Int)) s (dirtyD s) = ⟨s.bs.map DBlock.sync, s.off, s.fuse⟩ := by
    unfold midS dirtyD
    rw [settle_sync]
  rw [e] at hs
  clear h e
  go_enter Tryz.func107, Tryz.ntmps107
  go_wp2_with (go_at_call 59; refine hs.mono ?_; rintro e w2 ⟨rfl, ⟨Dm', hp⟩, hc⟩)
  exact bodyPost_end (results_none rfl _ _ _) rfl ⟨rfl, hp.moved hc⟩
set_option maxRecDepth 100000 in
set_option maxHeartbeats 1000000 in
theorem sync_pic (h : Pic w F D B M Dm V C s) :
    Calls Tryz.prog 82 #[.pointer (some ⟨D, 0, none⟩)] w fun x w' => x = .returned (.int .i64 (syncD s).1) ∧ Moved Dk F D (syncD s).2 w w' := by
  have b1 : Below w.heap.size w (w.alloc (.cells #[.pointer (some ⟨D, 0, none⟩)] 37)) := (Below.refl w.heap.size w).alloc (Nat.le_refl _) _
  have h1 := h.below b1
  have hm := made_pic h1
  have hop : Calls Tryz.prog 105 #[.pointer (some ⟨D, 0, none⟩), .func (.func 107) #[] #[.pointer (some ⟨w.heap.size, 0, none⟩)]] (w.alloc (.cells #[.pointer (some ⟨D, 0, none⟩)] 37)) fun x w' => x = .returned (.int .i64 (syncD s).1) ∧ Moved Dk F D (syncD s).2 w w' := by
    have hD := h.ltD
    refine (op_sync h1 _ (fun w' => Moved Dk F D ⟨(opD s).2.bs.map DBlock.sync, (opD s).2.off, (opD s).2.fuse⟩ w w') (fun w2 h0 h2 hc => ?_)).mono ?_
    · refine (sync1_pic h2 w.heap.size ?_).mono ?_
      · rw [hc.cell (by simp) (by simp; omega), cell_of_row _ _ _ _ _ _ (heap_alloc_last w _)]; rfl
      · rintro e w3 ⟨rfl, hm⟩
        exact ⟨rfl, hm.pre ((Chg.of b1).trans (G := [D]) hc (fun k hk => by simp at hk; rw [hk]; exact Or.inl h.mD))⟩
    · unfold syncD
      rintro e w3 (⟨h0, rfl, hm⟩ | ⟨h0, rfl, hm, hc⟩)
      · rw [if_pos h0]
        exact ⟨rfl, hm⟩
      · rw [if_neg (by rw [h0]; simp)]
        exact ⟨rfl, hm.moved ((Chg.of b1).trans (G := [D]) hc (fun k hk => by simp at hk; rw [hk]; exact Or.inl h.mD))⟩
  clear h h1 b1
  go_enter Tryz.func82, Tryz.ntmps82
  go_wp2_with (first
    | (go_at_call 58; refine hm.mono ?_; rintro e w' ⟨rfl, hw'⟩; obtain rfl := hw'.symm)
    | (go_at_call 105; refine hop.mono ?_; rintro e w3 ⟨rfl, hmv⟩))
  go_ret
  exact ⟨rfl, hmv⟩
/-- A slice of numbers. -/
structure IArg (w : World) (cs : List Int) (ad : Option Addr) (len : Nat) : Prop where
  len_eq : cs.length = len
  row : len = 0 ∨ ∃ b off, ad = some ⟨b, off, none⟩ ∧ b < w.heap.size ∧ ∀ i, i < len → w.cell? ⟨b, off + i, none⟩ = some (.int .i64 (cs.getD i 0))
  rng : ∀ c ∈ cs, -9223372036854775808 ≤ c ∧ c ≤ 9223372036854775807
theorem IArg.chg {cs : List Int} {ad : Option Addr} {len : Nat} (h : IArg w cs ad len) (hb : Chg F w w') (hn : ∀ b off, ad = some ⟨b, off, none⟩ → len ≠ 0 → b ∉ F) : IArg w' cs ad len := by
  refine ⟨h.1, ?_, h.3⟩
  rcases h.2 with h0 | ⟨b, off, e, hs, hc⟩
  · exact Or.inl h0
  · by_cases h0 : len = 0
    · exact Or.inl h0
    · exact Or.inr ⟨b, off, e, Nat.lt_of_lt_of_le hs hb.size, fun i hi => by rw [hb.cell hs (hn b off e h0)]; exact hc i hi⟩
theorem IArg.later {cs : List Int} {ad : Option Addr} {len : Nat} (h : IArg w cs ad len) (hb : Below w.heap.size w w') : IArg w' cs ad len := h.chg (F := []) (Chg.of hb) (fun _ _ _ _ => by simp)
end Go.Proofs.YtikomnbhmmjfnaaGreat
