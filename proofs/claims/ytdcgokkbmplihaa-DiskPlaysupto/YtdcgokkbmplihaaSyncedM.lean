/- settle of package disk: every version ends. -/
import Derived.Test.YtdcgokkbmplihaaDTake
import Derived.Test.YtdcgokkbmplihaaSettleN
import Derived.Deep.RegionHeld3
import Derived.Test.YtdcgokkbmplihaaDiskN
import Derived.Deep.OwnRows
import Derived.Deep.RegionHeld
import Derived.Shelf.Abstract
namespace Go.Proofs.Ytdcgokkbmplihaa
open Go.RowKit
variable {w w' : World} {F : List Nat} {D B M : Nat} {Dm : DataW Value} {V C : Nat → Nat} {s : DSt}

/-- The sorted keys as the loop reads them. -/
theorem keys_form {w2 : World} {N n : Nat} {v : Value} {xs : List Value} (h : w2.ownsRow N 3 1 v n xs) : ∃ ad cap, v = .slice ad n cap ∧ (n = 0 ∨ ∃ g, ad = some ⟨g, 0, none⟩ ∧ N ≤ g ∧ g < w2.heap.size ∧ ∀ j, j < n → w2.cell? ⟨g, j, none⟩ = xs[j]?) := by
  rcases h.2 with ⟨rfl, rfl⟩ | ⟨g, cap, cur, rfl, hN, hb, r1, r2, r3, r4⟩
  · exact ⟨none, 0, rfl, Or.inl rfl⟩
  · refine ⟨some ⟨g, 0, none⟩, cap, rfl, Or.inr ⟨g, rfl, hN, (Array.getElem?_eq_some_iff.1 hb).1, fun j hj => ?_⟩⟩
    rw [cell_of_row _ _ _ _ _ _ hb, ← r4, List.getElem?_take, if_pos (by omega), Array.getElem?_toList]
/-- The disk when the first m dirty blocks have ended. -/
def midS (f : Nat → Nat → Int) (s : DSt) (m : Nat) : DSt := ⟨settleM f s.bs 0 m, s.off, s.fuse⟩
theorem mid_step (f : Nat → Nat → Int) (s : DSt) {m i : Nat} (h : (dirt s.bs 0)[m]? = some i) : i < (midS f s m).bs.length ∧ i < s.bs.length ∧ (s.at i).vs ≠ [] ∧ (midS f s m).at i = s.at i ∧ midS f s (m + 1) = (midS f s m).setB i ((s.at i).crash (f m (s.at i).vs.length)) := by
  obtain ⟨j, h1, h2, h3, h4, h5⟩ := settle_step f s.bs 0 0 m i h
  obtain rfl : i = j := by omega
  refine ⟨by unfold midS; rw [settle_len]; exact h2, h2, h3, h4, ?_⟩
  unfold midS DSt.setB
  rw [h5, Nat.zero_add]
  rfl
theorem crash_eq (x : DBlock) (c : Int) : (⟨(x.crash c).dur, []⟩ : DBlock) = x.crash c := by
  unfold DBlock.crash
  split
  · rfl
  · split <;> rfl
theorem setB_setB (s : DSt) (i : Nat) (x y : DBlock) : (s.setB i x).setB i y = s.setB i y := by
  unfold DSt.setB
  simp
/-- One round: what take and delete leave. -/
theorem round_pic {f : Nat → Nat → Int} {m i : Nat} (h : (dirt s.bs 0)[m]? = some i) {W W2 W3 : World} (h1 : Pic W2 F D B M Dm V C ((midS f s m).setB i ⟨((s.at i).crash (f m (s.at i).vs.length)).dur, ((midS f s m).at i).vs⟩)) (c1 : Chg [B] W W2) (hB : B ∈ F) {n : Nat}
    (hM : W3.ownsMap Try.prog 3 RV M n (Dm.del (kI i))) (ht : W2.mapTurned W3 M) : Pic W3 F D B M (Dm.del (kI i)) V C (midS f s (m + 1)) ∧ Chg F W W3 := by
  obtain ⟨g1, g2, g3, g4, g5⟩ := mid_step f s h
  have hg := ht.grown
  have c2 : Chg [M] W2 W3 := ⟨hg.os, hg.tape, hg.output, hg.size, fun k hk hn => hg.block k hk (fun e => hn (by cases e; simp))⟩
  have h2 := h1.del (i := i) (by rw [setB_len]; exact g1) c2 hM
  rw [setB_at _ _ _ _ g1, if_pos rfl, setB_setB, crash_eq, ← g5] at h2
  exact ⟨h2, (c1.mono (fun k hk => by simp at hk; rw [hk]; exact hB)).trans c2 (fun k hk => by simp at hk; rw [hk]; exact Or.inl h1.mM)⟩
set_option maxRecDepth 100000 in
set_option maxHeartbeats 8000000 in
theorem settle_c (h : Pic w F D B M Dm V C s) (p : Value) (f : Nat → Nat → Int) (hr : ∀ k n, n ≤ 9223372036854775807 → -9223372036854775808 ≤ f k n ∧ f k n ≤ 9223372036854775807) (hch : ∀ (W : World) (k n : Nat), Chg F w W → Calls Try.prog 34 #[.int .i64 (k : Int), .int .i64 (n : Int), p] W fun e w' => e = .returned (.int .i64 (f k n)) ∧ w' = W) :
    Calls Try.prog 33 #[.pointer (some ⟨D, 0, none⟩), .func (.func 34) #[] #[p]] w fun e w' => e = .returned (.tuple #[]) ∧ (∃ Dm', Pic w' F D B M Dm' V C (midS f s (dirtyD s))) ∧ Chg F w w' := by
  have HP : Hid (Pic w F D B M Dm V C s) := h
  have HC : Hid (∀ (W : World) (k n : Nat), Chg F w W → Calls Try.prog 34 #[.int .i64 (k : Int), .int .i64 (n : Int), p] W fun e w' => e = .returned (.int .i64 (f k n)) ∧ w' = W) := hch
  have HR : Hid (∀ k n, n ≤ 9223372036854775807 → -9223372036854775808 ≤ f k n ∧ f k n ≤ 9223372036854775807) := hr
  obtain ⟨c0, c1, -, -⟩ := h.cells
  have hsort := sorted_pic h
  have hlen : (dirt s.bs 0).length = dirtyD s := dirt_len _ _
  have hdl : dirtyD s ≤ s.bs.length := dirtyBs_le _
  have hn2 := h.n2
  rw [hlen] at hsort
  have HL : Hid ((dirt s.bs 0).length = dirtyD s) := hlen
  have HD : Hid (dirtyD s ≤ s.bs.length) := hdl
  have hbig : dirtyD s ≤ 4096 := by omega
  clear h hch hr hlen hdl
  go_enter Try.func33, Try.ntmps33
  go_wp2_with (first
    | (go_at_call 44; refine (keys_any _ _).mono ?_; rintro e w1 ⟨rfl, hw1⟩; obtain rfl := hw1.symm)
    | (go_at_call 43; refine hsort.mono ?_; rintro e w2 ⟨v, rfl, hrow, hb2⟩; obtain ⟨ad, cap, hv, hf⟩ := keys_form hrow; subst hv; have HF : Hid (dirtyD s = 0 ∨ ∃ g, ad = some ⟨g, 0, none⟩ ∧ w.heap.size ≤ g ∧ g < w2.heap.size ∧ ∀ j, j < dirtyD s → w2.cell? ⟨g, j, none⟩ = ((dirt s.bs 0).map (fun i : Nat => Value.int .i64 (i : Int)))[j]?) := hf; have HB2 : Hid (Below w.heap.size w w2) := hb2; clear hrow hb2 hf))
  generalize hnn : dirtyD s = n at *
  have HN : Hid (dirtyD s = n) := hnn
  clear hnn hsort c0 c1
  go_loopw [14] (fun i wr => ∃ m : Nat, m ≤ n ∧ i = .int .i64 m ∧ Hid (∃ Dm', Pic wr F D B M Dm' V C (midS f s m)) ∧ Hid (Chg F w2 wr)) (fun i _ => n - (intOf i).toNat)
  case atStart =>
    exact ⟨0, by omega, rfl, (show Hid _ from ⟨Dm, by have e : midS f s 0 = s := by (unfold midS; rw [settle_none])
                                                      rw [e]; exact HP.out.below HB2.out⟩), (show Hid _ from Chg.refl _ _)⟩
  case round =>
    obtain ⟨m, hm, rfl, HPm, HCm⟩ := hrel
    by_cases hlt : m < n
    · obtain ⟨g, hg1, hg2, hg3, hg4⟩ := HF.out.resolve_left (by omega)
      subst hg1
      obtain ⟨Dm', hp⟩ := HPm.out
      obtain ⟨i, hi⟩ : ∃ i, (dirt s.bs 0)[m]? = some i := ⟨_, List.getElem?_eq_getElem (by rw [HL.out]; exact hlt)⟩
      obtain ⟨e1, e2, e3, e4, e5⟩ := mid_step f s hi
      have hgF : g ∉ F := fun hh => absurd (HP.out.lt g hh) (by omega)
      have ci : wr.cell? ⟨g, m, none⟩ = some (.int .i64 (i : Int)) := by
        rw [HCm.out.cell hg3 hgF, hg4 m hlt, List.getElem?_map, hi]; rfl
      obtain ⟨c0, c1, -, -⟩ := hp.cells
      have hlook := hp.lookup e1
      have hv : ((midS f s m).at i).vs ≠ [] := by rw [e4]; exact e3
      unfold verN at hlook
      rw [if_neg hv] at hlook
      unfold verS at hlook
      have hLr := HR.out m (s.at i).vs.length (by obtain ⟨cur, _, r1, r2, _⟩ := hp.rowBlock e1 hv; rw [e4] at r1; unfold maxLen at r2; omega)
      have htk := take_pic (hp.below ((Below.refl _ wr).drew)) i e1 hv (f m (s.at i).vs.length) hLr.1 hLr.2
      rw [e4] at hlook htk
      have hcw : Chg F w wr.drew := ((Chg.of HB2.out).trans HCm.out (fun k hk => Or.inl hk)).drew
      have hchoose := HC.out wr.drew m (s.at i).vs.length hcw
      have HX : Hid ((dirt s.bs 0)[m]? = some i) := hi
      have HPr : Hid (Pic wr F D B M Dm' V C (midS f s m)) := hp
      have e4' : Hid ((midS f s m).at i = s.at i) := e4
      have hkey := keyOf_i (i := i) (by omega)
      obtain ⟨L, hL⟩ : ∃ L, (s.at i).vs.length = L := ⟨_, rfl⟩
      obtain ⟨N, hN⟩ : ∃ N, (midS f s m).bs.length = N := ⟨_, rfl⟩
      have HLL : Hid ((s.at i).vs.length = L) := hL
      rw [hL] at hlook htk hchoose
      rw [hN] at e1 c0
      have hN2 : N ≤ 4096 := by rw [← hN]; exact hp.n2
      have HI : Hid (i < s.bs.length) := e2
      clear hi e3 e4 e5 hp hL hN hLr hcw hgF hg4 HF hv e2 HC HR hn2
      go_wp2_with fail
      go_region_held3 (fun W => W.cell? ⟨D, 0, none⟩ = some (.slice (some ⟨B, 0, none⟩) N N)) (first | exact c0 | exact cw)
        (first
          | (go_at_call 34; refine hchoose.mono ?_; rintro e W ⟨rfl, hW⟩; obtain rfl := hW.symm)
          | (go_at_call 45; refine htk.mono ?_; rintro e W5 ⟨rfl, hp5, hc5⟩; have H5 : Hid (Pic W5 F D B M Dm' V C ((midS f s m).setB i ⟨((s.at i).crash (f m L)).dur, (s.at i).vs⟩)) := hp5; have K5 : Hid (Chg [B] wr W5) := (show Hid _ from (((Chg.refl [B] wr).drew).trans hc5 (fun k hk => Or.inl hk))); have cw : W5.cell? ⟨D, 0, none⟩ = some (.slice (some ⟨B, 0, none⟩) N N) := (hc5.cell HPr.out.ltD (by simpa using HPr.out.neDB)).trans c0; have cw1 := hp5.cells.2.1; clear hp5 hc5))
      go_wp2_with (at_delete; refine wpList_delete_own _ rfl _ _ 45 3 rfl 76 keyI Try.underlying45 _ M (Maps.size Dm') Dm' rfl H5.out.hM _ _ rfl hkey ?_; intro W6 hM6 ht6; have HM6 : Hid (W6.ownsMap Try.prog 3 RV M (Maps.size Dm') (Dm'.del (kI i))) := hM6; have HT6 : Hid (W5.mapTurned W6 M) := ht6; clear hM6 ht6)
      have hfin := round_pic (f := f) HX.out (W := wr) (by rw [HLL.out, e4'.out]; exact H5.out) K5.out HPr.out.mB HM6.out HT6.out
      refine ⟨⟨m + 1, by omega, by go_num, (show Hid _ from ⟨_, hfin.1⟩), (show Hid _ from HCm.out.trans hfin.2 (fun k hk => Or.inl hk))⟩, by simp [intOf]; omega⟩
    · obtain rfl : m = n := by omega
      clear HC HR
      go_wp2
      refine bodyPost_end (results_none rfl _ _ _) rfl ⟨rfl, by rw [HN.out]; exact HPm.out, (Chg.of HB2.out).trans HCm.out (fun k hk => Or.inl hk)⟩
set_option maxRecDepth 100000 in
set_option maxHeartbeats 8000000 in
theorem settle_s (h : Pic w F D B M Dm V C s) (f : Nat → Nat → Int) (hr : ∀ k n, n ≤ 9223372036854775807 → -9223372036854775808 ≤ f k n ∧ f k n ≤ 9223372036854775807) (hch : ∀ (W : World) (k n : Nat), Chg F w W → Calls Try.prog 41 #[.int .i64 (k : Int), .int .i64 (n : Int)] W fun e w' => e = .returned (.int .i64 (f k n)) ∧ w' = W) :
    Calls Try.prog 33 #[.pointer (some ⟨D, 0, none⟩), .func (.func 41) #[] #[]] w fun e w' => e = .returned (.tuple #[]) ∧ (∃ Dm', Pic w' F D B M Dm' V C (midS f s (dirtyD s))) ∧ Chg F w w' := by
  have HP : Hid (Pic w F D B M Dm V C s) := h
  have HC : Hid (∀ (W : World) (k n : Nat), Chg F w W → Calls Try.prog 41 #[.int .i64 (k : Int), .int .i64 (n : Int)] W fun e w' => e = .returned (.int .i64 (f k n)) ∧ w' = W) := hch
  have HR : Hid (∀ k n, n ≤ 9223372036854775807 → -9223372036854775808 ≤ f k n ∧ f k n ≤ 9223372036854775807) := hr
  obtain ⟨c0, c1, -, -⟩ := h.cells
  have hsort := sorted_pic h
  have hlen : (dirt s.bs 0).length = dirtyD s := dirt_len _ _
  have hdl : dirtyD s ≤ s.bs.length := dirtyBs_le _
  have hn2 := h.n2
  rw [hlen] at hsort
  have HL : Hid ((dirt s.bs 0).length = dirtyD s) := hlen
  have HD : Hid (dirtyD s ≤ s.bs.length) := hdl
  have hbig : dirtyD s ≤ 4096 := by omega
  clear h hch hr hlen hdl
  go_enter Try.func33, Try.ntmps33
  go_wp2_with (first
    | (go_at_call 44; refine (keys_any _ _).mono ?_; rintro e w1 ⟨rfl, hw1⟩; obtain rfl := hw1.symm)
    | (go_at_call 43; refine hsort.mono ?_; rintro e w2 ⟨v, rfl, hrow, hb2⟩; obtain ⟨ad, cap, hv, hf⟩ := keys_form hrow; subst hv; have HF : Hid (dirtyD s = 0 ∨ ∃ g, ad = some ⟨g, 0, none⟩ ∧ w.heap.size ≤ g ∧ g < w2.heap.size ∧ ∀ j, j < dirtyD s → w2.cell? ⟨g, j, none⟩ = ((dirt s.bs 0).map (fun i : Nat => Value.int .i64 (i : Int)))[j]?) := hf; have HB2 : Hid (Below w.heap.size w w2) := hb2; clear hrow hb2 hf))
  generalize hnn : dirtyD s = n at *
  have HN : Hid (dirtyD s = n) := hnn
  clear hnn hsort c0 c1
  go_loopw [14] (fun i wr => ∃ m : Nat, m ≤ n ∧ i = .int .i64 m ∧ Hid (∃ Dm', Pic wr F D B M Dm' V C (midS f s m)) ∧ Hid (Chg F w2 wr)) (fun i _ => n - (intOf i).toNat)
  case atStart =>
    exact ⟨0, by omega, rfl, (show Hid _ from ⟨Dm, by have e : midS f s 0 = s := by (unfold midS; rw [settle_none])
                                                      rw [e]; exact HP.out.below HB2.out⟩), (show Hid _ from Chg.refl _ _)⟩
  case round =>
    obtain ⟨m, hm, rfl, HPm, HCm⟩ := hrel
    by_cases hlt : m < n
    · obtain ⟨g, hg1, hg2, hg3, hg4⟩ := HF.out.resolve_left (by omega)
      subst hg1
      obtain ⟨Dm', hp⟩ := HPm.out
      obtain ⟨i, hi⟩ : ∃ i, (dirt s.bs 0)[m]? = some i := ⟨_, List.getElem?_eq_getElem (by rw [HL.out]; exact hlt)⟩
      obtain ⟨e1, e2, e3, e4, e5⟩ := mid_step f s hi
      have hgF : g ∉ F := fun hh => absurd (HP.out.lt g hh) (by omega)
      have ci : wr.cell? ⟨g, m, none⟩ = some (.int .i64 (i : Int)) := by
        rw [HCm.out.cell hg3 hgF, hg4 m hlt, List.getElem?_map, hi]; rfl
      obtain ⟨c0, c1, -, -⟩ := hp.cells
      have hlook := hp.lookup e1
      have hv : ((midS f s m).at i).vs ≠ [] := by rw [e4]; exact e3
      unfold verN at hlook
      rw [if_neg hv] at hlook
      unfold verS at hlook
      have hLr := HR.out m (s.at i).vs.length (by obtain ⟨cur, _, r1, r2, _⟩ := hp.rowBlock e1 hv; rw [e4] at r1; unfold maxLen at r2; omega)
      have htk := take_pic (hp.below ((Below.refl _ wr).drew)) i e1 hv (f m (s.at i).vs.length) hLr.1 hLr.2
      rw [e4] at hlook htk
      have hcw : Chg F w wr.drew := ((Chg.of HB2.out).trans HCm.out (fun k hk => Or.inl hk)).drew
      have hchoose := HC.out wr.drew m (s.at i).vs.length hcw
      have HX : Hid ((dirt s.bs 0)[m]? = some i) := hi
      have HPr : Hid (Pic wr F D B M Dm' V C (midS f s m)) := hp
      have e4' : Hid ((midS f s m).at i = s.at i) := e4
      have hkey := keyOf_i (i := i) (by omega)
      obtain ⟨L, hL⟩ : ∃ L, (s.at i).vs.length = L := ⟨_, rfl⟩
      obtain ⟨N, hN⟩ : ∃ N, (midS f s m).bs.length = N := ⟨_, rfl⟩
      have HLL : Hid ((s.at i).vs.length = L) := hL
      rw [hL] at hlook htk hchoose
      rw [hN] at e1 c0
      have hN2 : N ≤ 4096 := by rw [← hN]; exact hp.n2
      have HI : Hid (i < s.bs.length) := e2
      clear hi e3 e4 e5 hp hL hN hLr hcw hgF hg4 HF hv e2 HC HR hn2
      go_wp2_with fail
      go_region_held3 (fun W => W.cell? ⟨D, 0, none⟩ = some (.slice (some ⟨B, 0, none⟩) N N)) (first | exact c0 | exact cw)
        (first
          | (go_at_call 41; refine hchoose.mono ?_; rintro e W ⟨rfl, hW⟩; obtain rfl := hW.symm)
          | (go_at_call 45; refine htk.mono ?_; rintro e W5 ⟨rfl, hp5, hc5⟩; have H5 : Hid (Pic W5 F D B M Dm' V C ((midS f s m).setB i ⟨((s.at i).crash (f m L)).dur, (s.at i).vs⟩)) := hp5; have K5 : Hid (Chg [B] wr W5) := (show Hid _ from (((Chg.refl [B] wr).drew).trans hc5 (fun k hk => Or.inl hk))); have cw : W5.cell? ⟨D, 0, none⟩ = some (.slice (some ⟨B, 0, none⟩) N N) := (hc5.cell HPr.out.ltD (by simpa using HPr.out.neDB)).trans c0; have cw1 := hp5.cells.2.1; clear hp5 hc5))
      go_wp2_with (at_delete; refine wpList_delete_own _ rfl _ _ 45 3 rfl 76 keyI Try.underlying45 _ M (Maps.size Dm') Dm' rfl H5.out.hM _ _ rfl hkey ?_; intro W6 hM6 ht6; have HM6 : Hid (W6.ownsMap Try.prog 3 RV M (Maps.size Dm') (Dm'.del (kI i))) := hM6; have HT6 : Hid (W5.mapTurned W6 M) := ht6; clear hM6 ht6)
      have hfin := round_pic (f := f) HX.out (W := wr) (by rw [HLL.out, e4'.out]; exact H5.out) K5.out HPr.out.mB HM6.out HT6.out
      refine ⟨⟨m + 1, by omega, by go_num, (show Hid _ from ⟨_, hfin.1⟩), (show Hid _ from HCm.out.trans hfin.2 (fun k hk => Or.inl hk))⟩, by simp [intOf]; omega⟩
    · obtain rfl : m = n := by omega
      clear HC HR
      go_wp2
      refine bodyPost_end (results_none rfl _ _ _) rfl ⟨rfl, by rw [HN.out]; exact HPm.out, (Chg.of HB2.out).trans HCm.out (fun k hk => Or.inl hk)⟩
end Go.Proofs.Ytdcgokkbmplihaa

/- Sync and Crash of package disk. -/
namespace Go.Proofs.Ytdcgokkbmplihaa
open Go.RowKit
variable {w w' : World} {F : List Nat} {D B M : Nat} {Dm : DataW Value} {V C : Nat → Nat} {s : DSt}

set_option maxRecDepth 100000 in
theorem last_any (W : World) (k n : Nat) : Calls Try.prog 41 #[.int .i64 (k : Int), .int .i64 (n : Int)] W fun e w' => e = .returned (.int .i64 (n : Int)) ∧ w' = W := by
  go_enter Try.func41, Try.ntmps41
  go_wp2
  go_ret
  exact ⟨rfl, rfl⟩
set_option maxRecDepth 100000 in
set_option maxHeartbeats 1000000 in
theorem sync1_pic (h : Pic w F D B M Dm V C s) (gd : Nat) (cd : w.cell? ⟨gd, 0, none⟩ = some (.pointer (some ⟨D, 0, none⟩))) :
    Calls Try.prog 40 #[.pointer (some ⟨gd, 0, none⟩)] w fun e w' => e = .returned (.tuple #[]) ∧ Moved Dk F D ⟨s.bs.map DBlock.sync, s.off, s.fuse⟩ w w' := by
  have hs := settle_s h (fun _ n => (n : Int)) (fun k n hn => by omega) (fun W k n _ => last_any W k n)
  have e : midS (fun _ n => (n : Int)) s (dirtyD s) = ⟨s.bs.map DBlock.sync, s.off, s.fuse⟩ := by
    unfold midS dirtyD
    rw [settle_sync]
  rw [e] at hs
  clear h e
  go_enter Try.func40, Try.ntmps40
  go_wp2_with (go_at_call 33; refine hs.mono ?_; rintro e w2 ⟨rfl, ⟨Dm', hp⟩, hc⟩)
  exact bodyPost_end (results_none rfl _ _ _) rfl ⟨rfl, hp.moved hc⟩
set_option maxRecDepth 100000 in
set_option maxHeartbeats 1000000 in
theorem sync_pic (h : Pic w F D B M Dm V C s) :
    Calls Try.prog 18 #[.pointer (some ⟨D, 0, none⟩)] w fun x w' => x = .returned (.int .i64 (syncD s).1) ∧ Moved Dk F D (syncD s).2 w w' := by
  have b1 : Below w.heap.size w (w.alloc (.cells #[.pointer (some ⟨D, 0, none⟩)] 23)) := (Below.refl w.heap.size w).alloc (Nat.le_refl _) _
  have h1 := h.below b1
  have hm := made_pic h1
  have hop : Calls Try.prog 38 #[.pointer (some ⟨D, 0, none⟩), .func (.func 40) #[] #[.pointer (some ⟨w.heap.size, 0, none⟩)]] (w.alloc (.cells #[.pointer (some ⟨D, 0, none⟩)] 23)) fun x w' => x = .returned (.int .i64 (syncD s).1) ∧ Moved Dk F D (syncD s).2 w w' := by
    have hD := h.ltD
    refine (op_sync h1 _ (fun w' => Moved Dk F D ⟨(opD s).2.bs.map DBlock.sync, (opD s).2.off, (opD s).2.fuse⟩ w w') (fun w2 h0 h2 hc => ?_)).mono ?_
    · refine (sync1_pic h2 w.heap.size ?_).mono ?_
      · rw [hc.cell (by simp) (by simp; omega), cell_of_row _ _ _ _ _ _ (heap_alloc_last w _)]; rfl
      · rintro e w3 ⟨rfl, hm⟩
        exact ⟨rfl, hm.pre ((Chg.of b1).trans (G := [D]) hc (fun k hk => by simp at hk; rw [hk]; exact Or.inl h.mD))⟩
    · unfold syncD
      rintro e w3 (⟨h0, rfl, hm⟩ | ⟨h0, rfl, hm, hc⟩)
      · rw [if_pos h0]
        exact ⟨rfl, hm⟩
      · rw [if_neg (by rw [h0]; simp)]
        exact ⟨rfl, hm.moved ((Chg.of b1).trans (G := [D]) hc (fun k hk => by simp at hk; rw [hk]; exact Or.inl h.mD))⟩
  clear h h1 b1
  go_enter Try.func18, Try.ntmps18
  go_wp2_with (first
    | (go_at_call 32; refine hm.mono ?_; rintro e w' ⟨rfl, hw'⟩; obtain rfl := hw'.symm)
    | (go_at_call 38; refine hop.mono ?_; rintro e w3 ⟨rfl, hmv⟩))
  go_ret
  exact ⟨rfl, hmv⟩
/-- A slice of numbers. -/
structure IArg (w : World) (cs : List Int) (ad : Option Addr) (len : Nat) : Prop where
  len_eq : cs.length = len
  row : len = 0 ∨ ∃ b off, ad = some ⟨b, off, none⟩ ∧ b < w.heap.size ∧ ∀ i, i < len → w.cell? ⟨b, off + i, none⟩ = some (.int .i64 (cs.getD i 0))
  rng : ∀ c ∈ cs, -9223372036854775808 ≤ c ∧ c ≤ 9223372036854775807
theorem IArg.chg {cs : List Int} {ad : Option Addr} {len : Nat} (h : IArg w cs ad len) (hb : Chg F w w') (hn : ∀ b off, ad = some ⟨b, off, none⟩ → len ≠ 0 → b ∉ F) : IArg w' cs ad len := by
  refine ⟨h.1, ?_, h.3⟩
  rcases h.2 with h0 | ⟨b, off, e, hs, hc⟩
  · exact Or.inl h0
  · by_cases h0 : len = 0
    · exact Or.inl h0
    · exact Or.inr ⟨b, off, e, Nat.lt_of_lt_of_le hs hb.size, fun i hi => by rw [hb.cell hs (hn b off e h0)]; exact hc i hi⟩
theorem IArg.later {cs : List Int} {ad : Option Addr} {len : Nat} (h : IArg w cs ad len) (hb : Below w.heap.size w w') : IArg w' cs ad len := h.chg (F := []) (Chg.of hb) (fun _ _ _ _ => by simp)
set_option maxRecDepth 100000 in
set_option maxHeartbeats 1000000 in
theorem choice_any {cs : List Int} {ad : Option Addr} {len cap g : Nat} (W : World) (h : IArg W cs ad len) (cg : W.cell? ⟨g, 0, none⟩ = some (.slice ad len cap)) (k n : Nat) :
    Calls Try.prog 34 #[.int .i64 (k : Int), .int .i64 (n : Int), .pointer (some ⟨g, 0, none⟩)] W fun e w' => e = .returned (.int .i64 (cs.getD k 0)) ∧ w' = W := by
  by_cases hk : k < len
  · obtain ⟨b, off, rfl, -, hc⟩ := h.2.resolve_left (by omega)
    have ck := hc k hk
    clear h hc
    go_enter Try.func34, Try.ntmps34
    go_wp2
    go_ret
    exact ⟨rfl, rfl⟩
  · have e : cs.getD k 0 = 0 := by rw [List.getD_eq_getElem?_getD, List.getElem?_eq_none (by rw [h.1]; omega)]; rfl
    rw [e]
    clear h e
    go_enter Try.func34, Try.ntmps34
    go_wp2
    go_ret
    exact ⟨rfl, rfl⟩
set_option maxRecDepth 100000 in
set_option maxHeartbeats 1000000 in
theorem crash_pic (h : Pic w F D B M Dm V C s) (ad : Option Addr) (len cap : Nat) (cs : List Int) (ha : IArg w cs ad len) (hn : ∀ b off, ad = some ⟨b, off, none⟩ → len ≠ 0 → b ∉ F) :
    Calls Try.prog 15 #[.pointer (some ⟨D, 0, none⟩), .slice ad len cap] w fun x w' => x = .returned (.tuple #[]) ∧ Moved Dk F D (crashD s cs) w w' := by
  have b1 : Below w.heap.size w (w.alloc (.cells #[.slice ad len cap] 33)) := (Below.refl w.heap.size w).alloc (Nat.le_refl _) _
  have h1 := h.below b1
  have hm := made_pic h1
  have hltF := h.lt
  have hrng : ∀ k, -9223372036854775808 ≤ cs.getD k 0 ∧ cs.getD k 0 ≤ 9223372036854775807 := fun k => by
    rw [List.getD_eq_getElem?_getD]
    by_cases hk : k < cs.length
    · rw [List.getElem?_eq_getElem hk]; exact ha.3 _ (List.getElem_mem hk)
    · rw [List.getElem?_eq_none (by omega)]; simp
  have hs := settle_c h1 (.pointer (some ⟨w.heap.size, 0, none⟩)) (fun k _ => cs.getD k 0) (fun k n _ => hrng k) (fun W k n hc => by
    refine choice_any (cap := cap) W ((ha.later b1).chg hc (fun b off e h0 => hn b off e h0)) ?_ k n
    rw [hc.cell (by simp) (fun hh => absurd (hltF _ hh) (by omega)), cell_of_row _ _ _ _ _ _ (heap_alloc_last w _)]; rfl)
  have e : midS (fun k _ => cs.getD k 0) s (dirtyD s) = ⟨crashBs s.bs cs, s.off, s.fuse⟩ := by
    unfold midS dirtyD
    rw [settle_crash _ s.bs 0 cs (fun j n => by rw [Nat.zero_add])]
  rw [e] at hs
  have B1 : Hid (Chg F w (w.alloc (.cells #[.slice ad len cap] 33))) := (show Hid _ from Chg.of b1)
  clear e h h1 hrng hltF ha hn b1
  go_enter Try.func15, Try.ntmps15
  go_wp2_with (first
    | (go_at_call 32; refine hm.mono ?_; rintro e w' ⟨rfl, hw'⟩; obtain rfl := hw'.symm)
    | (go_at_call 33; refine hs.mono ?_; rintro e w2 ⟨rfl, ⟨Dm', hp⟩, hc⟩; have HP : Hid (Pic w2 F D B M Dm' V C ⟨crashBs s.bs cs, s.off, s.fuse⟩) := hp; have HC : Hid (Chg F w w2) := (show Hid _ from B1.out.trans hc (fun k hk => Or.inl hk)); have c2 := hp.cells.2.2.1; have c3 := hp.cells.2.2.2; have f2 := hp.free 2; have f3 := hp.free 3; clear hp hc))
  have hc2 : Chg [D] w2 ((w2.setCell ⟨D, 2, none⟩ (.bool false)).setCell ⟨D, 3, none⟩ (.int .i64 (-1))) := ((Chg.refl [D] w2).set (Or.inl (by simp)) _ _).set (Or.inl (by simp)) _ _
  have hfin := HP.out.set false (-1) hc2 (HP.out.set23 false (-1)) (by omega) (by omega)
  exact bodyPost_end (results_none rfl _ _ _) rfl ⟨rfl, hfin.moved (HC.out.trans hc2 (fun k hk => by simp at hk; rw [hk]; exact Or.inl HP.out.mD))⟩
end Go.Proofs.Ytdcgokkbmplihaa

/- The calls on a disk whose blocks all lie from N on: all that lies below N stays. -/
namespace Go.Proofs.Ytdcgokkbmplihaa
open Go.RowKit
variable {w w' : World} {N D : Nat} {s : DSt}

def At (N : Nat) (w : World) (D : Nat) (s : DSt) : Prop := ∃ F, Dk w F D s ∧ ∀ g ∈ F, N ≤ g
theorem At.ok (h : At N w D s) : s.ok := by
  obtain ⟨F, h, _⟩ := h
  exact h.ok
theorem At.later (h : At N w D s) (hb : Below w.heap.size w w') : At N w' D s := by
  obtain ⟨F, h, hF⟩ := h
  exact ⟨F, h.below hb, hF⟩
theorem At.down {N' : Nat} (h : At N w D s) (hN : N' ≤ N) : At N' w D s := by
  obtain ⟨F, h, hF⟩ := h
  exact ⟨F, h, fun g hg => Nat.le_trans hN (hF g hg)⟩
theorem Moved.at {F : List Nat} (h : Moved Dk F D s w w') (hF : ∀ g ∈ F, N ≤ g) (hN : N ≤ w.heap.size) : At N w' D s ∧ Below N w w' := by
  obtain ⟨F', h1, h2⟩ := h.disk
  exact ⟨⟨F', h1, fun g hg => (h2 g hg).elim (hF g) (fun h => Nat.le_trans hN h)⟩, h.chg.below hF hN⟩
theorem At.sync (h : At N w D s) (hN : N ≤ w.heap.size) :
    Calls Try.prog 18 #[.pointer (some ⟨D, 0, none⟩)] w fun x w' => x = .returned (.int .i64 (syncD s).1) ∧ At N w' D (syncD s).2 ∧ Below N w w' := by
  obtain ⟨F, ⟨B, M, Dm, V, C, h⟩, hF⟩ := h
  refine (sync_pic h).mono ?_
  rintro x w' ⟨rfl, hm⟩
  exact ⟨rfl, hm.at hF hN⟩
theorem At.cut (h : At N w D s) (hN : N ≤ w.heap.size) (n : Int) (hn : n ≤ 9223372036854775807) :
    Calls Try.prog 14 #[.pointer (some ⟨D, 0, none⟩), .int .i64 n] w fun x w' => x = .returned (.tuple #[]) ∧ At N w' D (cutD s n) ∧ Below N w w' := by
  obtain ⟨F, ⟨B, M, Dm, V, C, h⟩, hF⟩ := h
  refine (cut_pic h n hn).mono ?_
  rintro x w' ⟨rfl, hp, hc⟩
  exact ⟨rfl, (hp.moved (hc.mono (fun k hk => by simp at hk; rw [hk]; exact h.mD))).at hF hN⟩
theorem At.write (h : At N w D s) (hN : N ≤ w.heap.size) (hf : s.few) (i : Int) (ad : Option Addr) (len cap : Nat) (l : List Nat) (hp : Part.ok w ⟨ad, len, cap, l⟩) :
    Calls Try.prog 17 #[.pointer (some ⟨D, 0, none⟩), .int .i64 i, .slice ad len cap] w fun x w' => x = .returned (.int .i64 (writeD s i l).1) ∧ At N w' D (writeD s i l).2 ∧ Below N w w' := by
  obtain ⟨F, ⟨B, M, Dm, V, C, h⟩, hF⟩ := h
  refine (write_pic h hf i ad len cap l hp).mono ?_
  rintro x w' ⟨rfl, hm⟩
  exact ⟨rfl, hm.at hF hN⟩
/-- A crash whose choices lie below N, or were made behind all that the disk has. -/
theorem At.crash {w1 : World} (h : At N w D s) (hb : Below w.heap.size w w1) (hN : N ≤ w.heap.size) (ad : Option Addr) (len cap : Nat) (cs : List Int) (ha : IArg w1 cs ad len) (hn : ∀ b off, ad = some ⟨b, off, none⟩ → len ≠ 0 → b < N ∨ w.heap.size ≤ b) :
    Calls Try.prog 15 #[.pointer (some ⟨D, 0, none⟩), .slice ad len cap] w1 fun x w' => x = .returned (.tuple #[]) ∧ At N w' D (crashD s cs) ∧ Below N w1 w' := by
  obtain ⟨F, ⟨B, M, Dm, V, C, h⟩, hF⟩ := h
  refine (crash_pic (h.below hb) ad len cap cs ha (fun b off e e2 hm => ?_)).mono ?_
  · have h2 := hF b hm
    have h3 := h.lt b hm
    have h4 := hn b off e e2
    omega
  · rintro x w' ⟨rfl, hm⟩
    exact ⟨rfl, hm.at hF (Nat.le_trans hN hb.size)⟩
theorem At.read (h : At N w D s) (i : Int) :
    Calls Try.prog 16 #[.pointer (some ⟨D, 0, none⟩), .int .i64 i] w fun x w' => ∃ v, x = .returned (.tuple #[v, .int .i64 (readD s i).2]) ∧ Own w' w.heap.size v (readD s i).1 ∧ At N w' D s ∧ Below w.heap.size w w' := by
  have h0 := h
  obtain ⟨F, ⟨B, M, Dm, V, C, h⟩, hF⟩ := h
  refine (read_pic h i).mono ?_
  rintro x w' ⟨v, rfl, ho, hb⟩
  exact ⟨v, rfl, ho, h0.later hb, hb⟩
theorem At.isDown (h : At N w D s) : Calls Try.prog 19 #[.pointer (some ⟨D, 0, none⟩)] w fun x w' => x = .returned (.bool s.off) ∧ w' = w := by
  obtain ⟨F, ⟨B, M, Dm, V, C, h⟩, hF⟩ := h
  exact down_pic h
theorem At.dirty (h : At N w D s) : Calls Try.prog 20 #[.pointer (some ⟨D, 0, none⟩)] w fun x w' => x = .returned (.int .i64 (dirtyD s : Nat)) ∧ w' = w := by
  obtain ⟨F, ⟨B, M, Dm, V, C, h⟩, hF⟩ := h
  exact dirty_pic h
theorem At.blocks (h : At N w D s) : Calls Try.prog 21 #[.pointer (some ⟨D, 0, none⟩)] w fun x w' => x = .returned (.int .i64 (s.bs.length : Nat)) ∧ w' = w := by
  obtain ⟨F, ⟨B, M, Dm, V, C, h⟩, hF⟩ := h
  exact blocks_pic h
theorem At.new (n : Int) (w : World) (h1 : 1 ≤ n) (h2 : n ≤ 4096) : Calls Try.prog 9 #[.int .i64 n] w fun x w' => ∃ D, x = .returned (.tuple #[.pointer (some ⟨D, 0, none⟩), .int .i64 0]) ∧ At w.heap.size w' D (newD n.toNat) ∧ Below w.heap.size w w' := by
  refine (new_ok n w h1 h2).mono ?_
  rintro x w' ⟨F, D, rfl, h, hF, hb⟩
  exact ⟨D, rfl, ⟨F, h, hF⟩, hb⟩
theorem newD_few (n : Nat) : (newD n).few := fun x hx => by
  rw [newD, List.mem_replicate] at hx
  rw [hx.2]
  simp [b0]
end Go.Proofs.Ytdcgokkbmplihaa

/- A disk, and bytes, beside a slice of another type that grows. -/
namespace Go.Proofs.Ytdcgokkbmplihaa
open Go.RowKit
variable {w w' : World} {N D : Nat} {s : DSt}

/-- Block g has cells of a type that the disk has none of. -/
structure Alien (w : World) (g : Nat) : Prop where
  cells : ∃ c t fr, w.heap[g]? = some (.cells c t fr) ∧ t ≠ TK ∧ t ≠ TD ∧ t ≠ TB
theorem Pic.alien {F : List Nat} {B M : Nat} {Dm : DataW Value} {V C : Nat → Nat} (h : Pic w F D B M Dm V C s) {row : Option Nat} (hg : w.grownBy w' row) (ha : ∀ g, row = some g → Alien w g) : Pic w' F D B M Dm V C s := by
  have hk : ∀ k, k < w.heap.size → (∀ g, row = some g → k ≠ g) → w'.heap[k]? = w.heap[k]? := fun k hk hn => hg.block k hk (fun e => hn k e.symm rfl)
  refine ⟨h.n1, h.n2, h.ok, h.top, ?_, ?_, ?_, h.has, h.look, ?_, h.apart, h.mD, h.mB, h.mM, h.mV, fun g hgF => Nat.lt_of_lt_of_le (h.lt g hgF) hg.size⟩
  · rw [hk D h.ltD (fun g e e2 => by
      obtain ⟨c, t, fr, h1, h2, h3, h4⟩ := (ha g e).cells
      rw [← e2, h.hD] at h1
      injection h1 with h1
      injection h1 with h5 h6
      exact h2 h6.symm)]
    exact h.hD
  · rw [hk B (h.lt B h.mB) (fun g e e2 => by
      obtain ⟨c, t, fr, h1, h2, h3, h4⟩ := (ha g e).cells
      rw [← e2, h.hB] at h1
      injection h1 with h1
      injection h1 with h5 h6
      exact h3 h6.symm)]
    exact h.hB
  · refine ownsMap_kept h.hM (hk M (h.lt M h.mM) (fun g e e2 => ?_))
    obtain ⟨c, t, fr, h1, -⟩ := (ha g e).cells
    obtain ⟨es, clock, hb, _⟩ := h.hM
    rw [← e2, hb] at h1
    cases h1
  · intro i hi hv
    refine ownsRow_kept (h.row i hi hv) (hk _ (h.lt _ (h.mV i hi hv)) (fun g e e2 => ?_))
    obtain ⟨c, t, fr, h1, h2, h3, h4⟩ := (ha g e).cells
    obtain ⟨cur, hc, -⟩ := h.rowBlock hi hv
    rw [← e2, hc] at h1
    injection h1 with h1
    injection h1 with h5 h6
    exact h4 h6.symm
theorem At.alien (h : At N w D s) {row : Option Nat} (hg : w.grownBy w' row) (ha : ∀ g, row = some g → Alien w g) : At N w' D s := by
  obtain ⟨F, ⟨B, M, Dm, V, C, h⟩, hF⟩ := h
  exact ⟨F, ⟨B, M, Dm, V, C, h.alien hg ha⟩, hF⟩
/-- Bytes stay when a block of another type is written. -/
theorem Own.alien {v : Value} {l : List Nat} (h : Own w N v l) {row : Option Nat} (hg : w.grownBy w' row) (ha : ∀ g, row = some g → ∃ c t fr, w.heap[g]? = some (.cells c t fr) ∧ t ≠ 5) : Own w' N v l := by
  refine ⟨h.1, h.2.1, ?_⟩
  rcases h.2.2 with h0 | ⟨g, cap, cur, e, h1, h2, h3⟩
  · exact Or.inl h0
  · refine Or.inr ⟨g, cap, cur, e, h1, ?_, h3⟩
    rw [hg.block g (Array.getElem?_eq_some_iff.1 h2).1 (fun e2 => ?_)]
    · exact h2
    · obtain ⟨c, t, fr, r1, r2⟩ := ha g e2.symm
      rw [h2] at r1
      injection r1 with r1
      injection r1 with r3 r4
      exact r2 r4.symm
theorem ownBlock_cells {e n : Nat} {v : Value} {xs : List Value} (h : w.ownsRow N e 1 v n xs) {g : Nat} (hg : v.ownBlock = some g) : ∃ c, w.heap[g]? = some (.cells c e (0, 0)) ∧ N ≤ g := by
  rcases h.2 with ⟨rfl, _⟩ | ⟨g', cap, cur, rfl, h1, h2, _⟩
  · cases hg
  · simp [Value.ownBlock] at hg
    subst hg
    exact ⟨cur, h2, h1⟩
end Go.Proofs.Ytdcgokkbmplihaa

/- What Full of package law03 answers. -/
namespace Go.Proofs.Ytdcgokkbmplihaa
open Go.RowKit

/-- 'make([]byte, n)': a new row of zeros. -/
theorem make_bytes (w : World) {ops : Array Oper} {rest : List Oper} {o : Oper} {a : Act} {Q : Exit → Act → World → Prop}
    (hg : o.guard = none) (l c : Operand) (hop : o.op = Op.makeSlice 32 l c) (n : Nat) (hl : a.eval l = .int .i64 (n : Int)) (hc : a.eval c = .int .i64 (n : Int)) (hn : n ≤ 281474976710656)
    (hK : ∀ w', w'.rowIs w.heap.size 5 n (fun _ => .int .u8 0) → Below w.heap.size w w' → wpList Try.prog ops Q rest (a.put o.dst (.slice (some ⟨w.heap.size, 0, none⟩) n n)) w') :
    wpList Try.prog ops Q (o :: rest) a w := by
  obtain ⟨i0, hi, hz0, hz1, hz2⟩ := info_parts Try.info5
  refine wpList_make_row w hg l c 32 hop 5 i0 (.int .u8 0) Try.underlying32 hi hz0 hz1 rfl .i64 .i64 n hl hc (by rw [hz2]; omega) (by omega) ?_
  exact hK _ (World.rowIs_made w _ n _) ((Below.refl _ _).alloc (Nat.le_refl _) _)
theorem own_row {w : World} {g N n : Nat} {l : List Nat} (hl : l.length = n) (hb : ∀ x ∈ l, x < 256) (h : w.rowIs g 5 n (fun j => .int .u8 (l.getD j 0 : Nat))) (hg : N ≤ g) (hn : n ≤ maxLen) : Own w N (.slice (some ⟨g, 0, none⟩) n n) l := by
  obtain ⟨c, hc, hs, he⟩ := h
  refine ⟨hb, by simp, Or.inr ⟨g, n, c, by rw [hl], hg, hc, by omega, hn, by omega, ?_⟩⟩
  apply List.ext_getElem?
  intro j
  by_cases hj : j < n
  · rw [List.getElem?_take, if_pos (by omega), Array.getElem?_toList, he j hj, List.getElem?_map, List.getElem?_eq_getElem (by omega)]
    simp [bv, List.getD_eq_getElem?_getD, List.getElem?_eq_getElem (show j < l.length by omega)]
  · rw [List.getElem?_take, if_neg (by omega), List.getElem?_eq_none (by simp; omega)]
theorem fullN_getD (c j : Nat) (h : j < 256) : (fullN c).getD j 0 = c := by
  rw [fullN, List.getD_eq_getElem?_getD, List.getElem?_replicate, if_pos h]; rfl
set_option maxRecDepth 100000 in
set_option maxHeartbeats 2000000 in
theorem full_any (c : Nat) (hc : c < 256) (w : World) :
    Calls Try.prog 22 #[.int .u8 c] w fun e w' => ∃ g, e = .returned (.slice (some ⟨g, 0, none⟩) 256 256) ∧ Own w' w.heap.size (.slice (some ⟨g, 0, none⟩) 256 256) (fullN c) ∧ Below w.heap.size w w' := by
  go_enter Try.func22, Try.ntmps22
  go_wp2_with (refine make_bytes _ rfl _ _ rfl 256 rfl rfl (by omega) ?_; intro w1 hrow hb; have HR : Hid (w1.rowIs w.heap.size 5 256 (fun _ => .int .u8 0)) := hrow; have HB : Hid (Below w.heap.size w w1) := hb; clear hrow hb)
  go_loopw [4] (fun i wr => ∃ j : Nat, j ≤ 256 ∧ i = .int .i64 j ∧ Hid (wr.rowIs w.heap.size 5 256 (fun k => if k < j then .int .u8 c else .int .u8 0)) ∧ Hid (Below w.heap.size w wr)) (fun i _ => 256 - (intOf i).toNat)
  case atStart => exact ⟨0, by omega, rfl, (show Hid _ from HR.out.congr (fun i _ => by simp)), HB⟩
  case round =>
    obtain ⟨j, hj, rfl, HR2, HB2⟩ := hrel
    clear HR HB
    by_cases hlt : j < 256
    · have hcell := HR2.out.cell hlt
      have hfr := HR2.out.frozen j
      go_wp2
      refine ⟨⟨j + 1, by omega, by go_num, (show Hid _ from (HR2.out.set j (.int .u8 c)).congr (fun i _ => ?_)), (show Hid _ from HB2.out.setCell (p := ⟨w.heap.size, j, none⟩) (Nat.le_refl _) _)⟩, by simp [intOf]; omega⟩
      by_cases e : i = j
      · subst e; simp
      · rw [if_neg e]
        by_cases e2 : i < j
        · rw [if_pos e2, if_pos (by omega)]
        · rw [if_neg e2, if_neg (by omega)]
    · obtain rfl : j = 256 := by omega
      go_wp2
      go_ret
      refine ⟨w.heap.size, rfl, own_row List.length_replicate (fullN_ok c hc).2 (HR2.out.congr (fun i hi => ?_)) (Nat.le_refl _) (by unfold maxLen; omega), HB2.out⟩
      rw [if_pos hi, fullN_getD c i hi]
end Go.Proofs.Ytdcgokkbmplihaa

/- How many versions a block has at most; when the power is there: plain mathematics. -/
namespace Go.Proofs.Ytdcgokkbmplihaa
open Go.RowKit
variable {s : DSt} {k : Nat}

/-- No block has more than k versions. -/
def DSt.upTo (s : DSt) (k : Nat) : Prop := ∀ x ∈ s.bs, x.vs.length ≤ k
theorem DSt.upTo.few (h : s.upTo k) (hk : k ≤ 1073741824) : s.few := fun x hx => Nat.le_trans (h x hx) hk
theorem DSt.upTo.mono {m : Nat} (h : s.upTo k) (hk : k ≤ m) : s.upTo m := fun x hx => Nat.le_trans (h x hx) hk
theorem newD_upTo (n : Nat) : (newD n).upTo 0 := fun x hx => by
  rw [newD, List.mem_replicate] at hx
  rw [hx.2]
  simp [b0]
theorem opD_upTo (h : s.upTo k) : (opD s).2.upTo k := by
  intro x hx
  rw [opD_bs] at hx
  exact h x hx
theorem writeD_upTo (h : s.upTo k) (i : Int) (l : List Nat) : (writeD s i l).2.upTo (k + 1) := by
  unfold writeD
  split
  · rename_i hc
    simp only [Bool.and_eq_true] at hc
    have hi := has_lt hc.1
    split
    · intro x hx
      rcases mem_setB hx with rfl | h1
      · have h2 := opD_upTo h _ (at_mem (s := (opD s).2) (i := i.toNat) (by rw [opD_bs]; exact hi.2))
        simp [DBlock.add]
        exact h2
      · exact Nat.le_succ_of_le (opD_upTo h x h1)
    · exact (opD_upTo h).mono (by omega)
  · exact h.mono (by omega)
theorem syncD_upTo (h : s.upTo k) : (syncD s).2.upTo k := by
  unfold syncD
  split
  · intro x hx
    obtain ⟨y, hy, rfl⟩ := List.mem_map.1 hx
    rw [sync_vs]
    exact Nat.zero_le _
  · exact opD_upTo h
theorem cutD_upTo (h : s.upTo k) (n : Int) : (cutD s n).upTo k := by
  unfold cutD
  split
  · exact h
  · exact h
theorem crashD_upTo (cs : List Int) : (crashD s cs).upTo 0 := fun x hx => by
  rw [crashBs_clean _ _ x hx]
  exact Nat.zero_le _
end Go.Proofs.Ytdcgokkbmplihaa

/- A region that draws its order, walked by hand: what is taken first, what is carried out, a call. No function of the program is named here. -/
namespace Go.Proofs.Ytdcgokkbmplihaa
open Go.RowKit
variable {w w' : World} {ops : Array Oper} {Q : Exit → Act → World → Prop} {S : World → Prop} {fuel : Nat} {listed : Array Bool} {a : Act} {md : Region.Mode} {rs : List Nat}

theorem takeG (i : Nat) (v : Value) (a' : Act) {oi : Oper} (hi : ops[i]? = some oi) (ha : a.put oi.dst v = a') (hs : Region.noSelect ops = true) (hf : Region.free md ops listed i = true) (hr : (Region.ready md ops listed).contains i = true)
    (hQ : ∀ c a w, Q (.panic c) (a.put oi.dst v) w → Q (.panic c) a w) (hg : Region.wanted oi (yielded ops a.tmps) = true) (hy : ∀ w, S w → (execOp a.eval oi).run Try.prog w = .ok (.value v) w) (hS : S w)
    (h : wpAnyH Try.prog md ops Q S fuel (listed.setIfInBounds i true) a' w) : wpAnyH Try.prog md ops Q S (fuel + 1) listed a w := by
  subst ha
  exact wpAnyH_take hi hs hf hr hQ (Or.inl ⟨hg, hy⟩) hS h
theorem stepG {i : Nat} {o : Oper} (v : Value) (w' : World) (a' : Act) (ho : ops[i]? = some o) (ha : a.put o.dst v = a') (hg : Region.wanted o (yielded ops a.tmps) = true) (hr : (execOp a.eval o).run Try.prog w = .ok (.value v) w') (hS : S w')
    (h : wpAnyH Try.prog md ops Q S fuel (listed.setIfInBounds i true) a' w') (hs : AllReadyH Try.prog md ops Q S fuel listed a w rs) : AllReadyH Try.prog md ops Q S fuel listed a w (i :: rs) := by
  subst ha
  exact AllReadyH.cons ho (fun K' hK => by
    rw [if_pos hg]
    unfold Oper.wp
    rw [hr]
    exact hK.out _ _ hS (fun _ => h)) hs
/-- A call of a function by its contract. -/
theorem callG {i : Nat} {o : Oper} {f : Nat} {args : Array Value} {R : Ending → World → Prop} (ho : ops[i]? = some o) (hg : Region.wanted o (yielded ops a.tmps) = true) (hr : (execOp a.eval o).run Try.prog w = .ok (.enter f args) w) (hc : Calls Try.prog f args w R)
    (h : ∀ e w', R e w' → ∃ v, e = .returned v ∧ S w' ∧ wpAnyH Try.prog md ops Q S fuel (listed.setIfInBounds i true) (a.put o.dst v) w') (hs : AllReadyH Try.prog md ops Q S fuel listed a w rs) : AllReadyH Try.prog md ops Q S fuel listed a w (i :: rs) :=
  AllReadyH.cons ho (fun K' hK => by
    rw [if_pos hg]
    unfold Oper.wp
    rw [hr]
    refine hc.mono (fun e w' hR => ?_)
    obtain ⟨v, rfl, hS, h2⟩ := h e w' hR
    exact hK.out _ _ hS (fun _ => h2)) hs
theorem exec_call {o : Oper} {ev : Operand → Value} (f : Nat) (xs : Array Operand) (ts : Array TypeId) (ho : o.op = .call { callee := .value (.func f), args := xs, argTypes := ts }) (args : Array Value) (hx : xs.map ev = args) (hf : ev (.func f) = .func (.func f) #[] #[]) (he : ∀ args w, (callFunc f args).run Try.prog w = .ok (.enter f args) w) :
    (execOp ev o).run Try.prog w = .ok (.enter f args) w := by
  subst hx
  simp [execOp, ho, resolve, invoke, hf, he, Deferred.ofValue]
theorem exec_call1 {o : Oper} {ev : Operand → Value} (f : Nat) (x : Operand) (ts : Array TypeId) (ho : o.op = .call { callee := .value (.func f), args := #[x], argTypes := ts }) (v : Value) (hx : ev x = v) (hf : ev (.func f) = .func (.func f) #[] #[]) (he : ∀ args w, (callFunc f args).run Try.prog w = .ok (.enter f args) w) :
    (execOp ev o).run Try.prog w = .ok (.enter f #[v]) w := exec_call f #[x] ts ho #[v] (by simp [hx]) hf he
theorem exec_conv {o : Oper} {ev : Operand → Value} (x : Operand) (ho : o.op = .convert 32 9 x) (u t : Value) (hx : ev x = u) (hr : (convert 32 9 u).run Try.prog w = .ok t w) : (execOp ev o).run Try.prog w = .ok (.value t) w := by
  simp [execOp, ho, hx, hr, Result.andThen]
end Go.Proofs.Ytdcgokkbmplihaa

/- What knows of package law03 answers: true. -/
namespace Go.Proofs.Ytdcgokkbmplihaa
open Go.RowKit

set_option maxRecDepth 100000 in
theorem num3_any (n : Int) (w : World) : Calls Try.prog 11 #[.int .i64 n] w fun e w' => e = .returned (.int .i64 n) ∧ w' = w := by
  go_enter Try.func11, Try.ntmps11
  go_wp2
  go_ret
  exact ⟨rfl, rfl⟩
theorem fullN_len (c : Nat) : (fullN c).length = 256 := List.length_replicate
theorem own256 {w : World} {N g c : Nat} (h : Own w N (.slice (some ⟨g, 0, none⟩) 256 256) (fullN c)) : Part.ok w ⟨some ⟨g, 0, none⟩, 256, 256, fullN c⟩ := by
  obtain ⟨ad, cap, e, h1, -⟩ := h.slice 256 (fullN_len c)
  cases e
  exact h1
/-- A new slice of numbers. -/
theorem ints_new (w : World) (cs : List Int) (hr : ∀ c ∈ cs, -9223372036854775808 ≤ c ∧ c ≤ 9223372036854775807) (n : Nat) (hn : cs.length = n) : IArg (w.alloc (.cells (cs.map (fun c => Value.int .i64 c)).toArray 3)) cs (some ⟨w.heap.size, 0, none⟩) n := by
  subst hn
  refine ⟨rfl, Or.inr ⟨w.heap.size, 0, rfl, by simp, fun i hi => ?_⟩, hr⟩
  rw [cell_of_row _ _ _ _ _ _ (heap_alloc_last w _), List.getElem?_toArray, Nat.zero_add, List.getElem?_map, List.getElem?_eq_getElem hi, List.getD_eq_getElem?_getD, List.getElem?_eq_getElem hi]
  rfl
def kn1 : DSt := (writeD (newD 2) 0 (fullN 1)).2
def kn2 : DSt := (writeD kn1 1 (fullN 2)).2
def kn3 : DSt := crashD kn2 [0, 1]
theorem kn_w1 : (writeD (newD 2) 0 (fullN 1)).1 = 0 := by kernel_rfl
theorem kn_w2 : (writeD kn1 1 (fullN 2)).1 = 0 := by kernel_rfl
theorem kn_r0 : readD kn3 0 = (fullN 0, 0) := by kernel_rfl
theorem kn_r1 : readD kn3 1 = (fullN 2, 0) := by kernel_rfl
theorem kn_few : kn1.few := (writeD_upTo (newD_upTo 2) 0 (fullN 1)).few (by omega)
theorem bstr_beq3 (l : List Nat) : ((bstr l).toList == (bstr l).toList) = true := by simp
set_option maxRecDepth 100000 in
set_option maxHeartbeats 2000000 in
theorem knows3_any (w : World) : Calls Try.prog 12 #[] w fun e w' => e = .returned (.bool true) ∧ Below w.heap.size w w' := by
  go_enter Try.func12, Try.ntmps12
  go_wp2_with fail
  refine (At.new 2 w (by omega) (by omega)).mono ?_
  rintro x w1 ⟨D, rfl, hA1, hb1⟩
  have A1 : Hid (At w.heap.size w1 D (newD 2)) := hA1
  have B1 : Hid (Below w.heap.size w w1) := hb1
  clear hA1 hb1
  go_wp2_with (go_at_call 11; refine (num3_any _ _).mono ?_; rintro e w' ⟨rfl, hw'⟩; obtain rfl := hw'.symm)
  refine (full_any 1 (by omega) _).mono ?_
  rintro e w2 ⟨g2, rfl, o2, b2⟩
  have O2 : Hid (Part.ok w2 ⟨some ⟨g2, 0, none⟩, 256, 256, fullN 1⟩) := own256 o2
  have A2 : Hid (At w.heap.size w2 D (newD 2)) := A1.out.later b2
  have B2 : Hid (Below w.heap.size w w2) := B1.out.trans (b2.mono B1.out.size)
  clear o2 b2 A1 B1
  go_wp2_with fail
  refine (A2.out.write B2.out.size (newD_few 2) 0 _ 256 256 (fullN 1) O2.out).mono ?_
  rintro e w3 ⟨rfl, a3, b3⟩
  have A3 : Hid (At w.heap.size w3 D kn1) := a3
  have B3 : Hid (Below w.heap.size w w3) := B2.out.trans b3
  rw [kn_w1]
  clear a3 b3 A2 B2 O2
  go_wp2_with (go_at_call 11; refine (num3_any _ _).mono ?_; rintro e w' ⟨rfl, hw'⟩; obtain rfl := hw'.symm)
  refine (full_any 2 (by omega) _).mono ?_
  rintro e w4 ⟨g4, rfl, o4, b4⟩
  have O4 : Hid (Part.ok w4 ⟨some ⟨g4, 0, none⟩, 256, 256, fullN 2⟩) := own256 o4
  have A4 : Hid (At w.heap.size w4 D kn1) := A3.out.later b4
  have B4 : Hid (Below w.heap.size w w4) := B3.out.trans (b4.mono B3.out.size)
  clear o4 b4 A3 B3
  go_wp2_with fail
  refine (A4.out.write B4.out.size kn_few 1 _ 256 256 (fullN 2) O4.out).mono ?_
  rintro e w5 ⟨rfl, a5, b5⟩
  have A5 : Hid (At w.heap.size w5 D kn2) := a5
  have B5 : Hid (Below w.heap.size w w5) := B4.out.trans b5
  rw [kn_w2]
  clear a5 b5 A4 B4 O4
  go_wp2_with (go_at_call 11; refine (num3_any _ _).mono ?_; rintro e w' ⟨rfl, hw'⟩; obtain rfl := hw'.symm)
  refine (A5.out.crash ((Below.refl _ w5).alloc (Nat.le_refl _) _) B5.out.size (some ⟨w5.heap.size, 0, none⟩) 2 2 [0, 1] (ints_new w5 [0, 1] (by simp) 2 rfl) (fun b off e _ => by cases e; exact Or.inr (Nat.le_refl _))).mono ?_
  rintro e w6 ⟨rfl, a6, b6⟩
  have A6 : Hid (At w.heap.size w6 D kn3) := a6
  have B6 : Hid (Below w.heap.size w w6) := (B5.out.alloc B5.out.size _).trans b6
  clear a6 b6 A5 B5
  go_wp2_with fail
  refine (A6.out.read 0).mono ?_
  rintro e w7 ⟨va, rfl, o7, a7, b7⟩
  rw [kn_r0] at o7 ⊢
  obtain ⟨p7, c7, rfl, q7, -⟩ := o7.slice 256 (fullN_len 0)
  have A7 : Hid (At w.heap.size w7 D kn3) := a7
  have B7 : Hid (Below w.heap.size w w7) := B6.out.trans (b7.mono B6.out.size)
  have O7 : Hid (Part.ok w7 ⟨p7, 256, c7, fullN 0⟩) := q7
  clear a7 b7 o7 q7 A6 B6
  go_wp2_with fail
  refine (A7.out.read 1).mono ?_
  rintro e w8 ⟨vb, rfl, o8, a8, b8⟩
  rw [kn_r1] at o8 ⊢
  obtain ⟨p8, c8, rfl, q8, -⟩ := o8.slice 256 (fullN_len 2)
  have B8 : Hid (Below w.heap.size w w8) := B7.out.trans (b8.mono B7.out.size)
  have O8a : Hid (Part.ok w8 ⟨p7, 256, c7, fullN 0⟩) := O7.out.later b8
  have O8b : Hid (Part.ok w8 ⟨p8, 256, c8, fullN 2⟩) := q8
  clear a8 b8 o8 q8 A7 B7 O7
  have CV : Hid (∀ W, Below w8.heap.size w8 W → (convert 32 9 (.slice p7 256 c7)).run Try.prog W = .ok (.string (bstr (fullN 0))) W ∧ (convert 32 9 (.slice p8 256 c8)).run Try.prog W = .ok (.string (bstr (fullN 2))) W) :=
    (show Hid _ from fun W hW => ⟨conv_any (O8a.out.later hW).2.2 256 c7 (fullN_len 0), conv_any (O8b.out.later hW).2.2 256 c8 (fullN_len 2)⟩)
  obtain ⟨t0, ht0⟩ : ∃ t, bstr (fullN 0) = t := ⟨_, rfl⟩
  obtain ⟨t2, ht2⟩ : ∃ t, bstr (fullN 2) = t := ⟨_, rfl⟩
  rw [ht0, ht2] at CV
  have T0 : Hid (bstr (fullN 0) = t0) := ht0
  have T2 : Hid (bstr (fullN 2) = t2) := ht2
  clear ht0 ht2 O8a O8b
  go_wp2_with fail
  refine wp_region_held_drew (S := fun W => Below w8.heap.size w8 W) (by kernel_rfl) ((Below.refl _ w8).drew) (fun hS => ?_)
  refine takeG 0 (.int .i64 0) ⟨#[.bool false, .pointer (some ⟨D, 0, none⟩), .int .i64 0, .slice p7 256 c7, .int .i64 0, .slice p8 256 c8, .int .i64 0, .tuple #[.pointer (some ⟨D, 0, none⟩), .int .i64 0], .tuple #[.pointer (some ⟨D, 0, none⟩), .int .i64 0], .pointer (some ⟨D, 0, none⟩), .int .i64 0, .int .i64 0, .int .i64 0, .bool false, .bool false, .pointer (some ⟨D, 0, none⟩), .bool false, .bool false, .bool false, .pointer (some ⟨D, 0, none⟩), .slice (some ⟨g2, 0, none⟩) 256 256, .int .i64 0, .int .i64 0, .pointer (some ⟨D, 0, none⟩), .slice (some ⟨g4, 0, none⟩) 256 256, .int .i64 0, .int .i64 0, .int .i64 0, .bool false, .bool false, .pointer (some ⟨D, 0, none⟩), .slice (some ⟨w5.heap.size, 0, none⟩) 2 2, .tuple #[], .tuple #[.slice p7 256 c7, .int .i64 0], .pointer (some ⟨D, 0, none⟩), .tuple #[.slice p7 256 c7, .int .i64 0], .slice p7 256 c7, .int .i64 0, .tuple #[.slice p8 256 c8, .int .i64 0], .pointer (some ⟨D, 0, none⟩), .tuple #[.slice p8 256 c8, .int .i64 0], .slice p8 256 c8, .int .i64 0, .int .i64 0, undef, undef, undef, undef, undef, undef, undef, undef, undef, undef, undef, undef, undef, undef, undef, undef, undef, undef, undef], []⟩ rfl rfl (by kernel_rfl) (by kernel_rfl) (by kernel_rfl) (fun _ _ _ h => h) (by rfl) ?_ hS ?_
  · intro W hW
    go_simp
  refine takeG 2 (.int .i64 0) ⟨#[.bool false, .pointer (some ⟨D, 0, none⟩), .int .i64 0, .slice p7 256 c7, .int .i64 0, .slice p8 256 c8, .int .i64 0, .tuple #[.pointer (some ⟨D, 0, none⟩), .int .i64 0], .tuple #[.pointer (some ⟨D, 0, none⟩), .int .i64 0], .pointer (some ⟨D, 0, none⟩), .int .i64 0, .int .i64 0, .int .i64 0, .bool false, .bool false, .pointer (some ⟨D, 0, none⟩), .bool false, .bool false, .bool false, .pointer (some ⟨D, 0, none⟩), .slice (some ⟨g2, 0, none⟩) 256 256, .int .i64 0, .int .i64 0, .pointer (some ⟨D, 0, none⟩), .slice (some ⟨g4, 0, none⟩) 256 256, .int .i64 0, .int .i64 0, .int .i64 0, .bool false, .bool false, .pointer (some ⟨D, 0, none⟩), .slice (some ⟨w5.heap.size, 0, none⟩) 2 2, .tuple #[], .tuple #[.slice p7 256 c7, .int .i64 0], .pointer (some ⟨D, 0, none⟩), .tuple #[.slice p7 256 c7, .int .i64 0], .slice p7 256 c7, .int .i64 0, .tuple #[.slice p8 256 c8, .int .i64 0], .pointer (some ⟨D, 0, none⟩), .tuple #[.slice p8 256 c8, .int .i64 0], .slice p8 256 c8, .int .i64 0, .int .i64 0, undef, .int .i64 0, undef, undef, undef, undef, undef, undef, undef, undef, undef, undef, undef, undef, undef, undef, undef, undef, undef], []⟩ rfl rfl (by kernel_rfl) (by kernel_rfl) (by kernel_rfl) (fun _ _ _ h => h) (by rfl) ?_ hS ?_
  · intro W hW
    go_simp
  refine wpAnyH_ready (rs := [1]) (by kernel_rfl) (by simp) (callG (f := 11) (args := #[.int .i64 0]) rfl (by rfl) ?_ (num3_any 0 _) ?_ AllReadyH.nil)
  · exact exec_call1 11 _ _ rfl (.int .i64 0) rfl rfl (enters_of Try.func11 (by kernel_rfl) rfl)
  rintro e w' ⟨rfl, hw'⟩
  obtain rfl := hw'.symm
  refine ⟨.int .i64 0, rfl, hS, ?_⟩
  show wpAnyH _ _ _ _ _ _ _ ⟨#[.bool false, .pointer (some ⟨D, 0, none⟩), .int .i64 0, .slice p7 256 c7, .int .i64 0, .slice p8 256 c8, .int .i64 0, .tuple #[.pointer (some ⟨D, 0, none⟩), .int .i64 0], .tuple #[.pointer (some ⟨D, 0, none⟩), .int .i64 0], .pointer (some ⟨D, 0, none⟩), .int .i64 0, .int .i64 0, .int .i64 0, .bool false, .bool false, .pointer (some ⟨D, 0, none⟩), .bool false, .bool false, .bool false, .pointer (some ⟨D, 0, none⟩), .slice (some ⟨g2, 0, none⟩) 256 256, .int .i64 0, .int .i64 0, .pointer (some ⟨D, 0, none⟩), .slice (some ⟨g4, 0, none⟩) 256 256, .int .i64 0, .int .i64 0, .int .i64 0, .bool false, .bool false, .pointer (some ⟨D, 0, none⟩), .slice (some ⟨w5.heap.size, 0, none⟩) 2 2, .tuple #[], .tuple #[.slice p7 256 c7, .int .i64 0], .pointer (some ⟨D, 0, none⟩), .tuple #[.slice p7 256 c7, .int .i64 0], .slice p7 256 c7, .int .i64 0, .tuple #[.slice p8 256 c8, .int .i64 0], .pointer (some ⟨D, 0, none⟩), .tuple #[.slice p8 256 c8, .int .i64 0], .slice p8 256 c8, .int .i64 0, .int .i64 0, .int .i64 0, .int .i64 0, undef, undef, undef, undef, undef, undef, undef, undef, undef, undef, undef, undef, undef, undef, undef, undef, undef], []⟩ _
  refine wpAnyH_ready (rs := [3]) (by kernel_rfl) (by simp) (callG (f := 11) (args := #[.int .i64 0]) rfl (by rfl) ?_ (num3_any 0 _) ?_ AllReadyH.nil)
  · exact exec_call1 11 _ _ rfl (.int .i64 0) rfl rfl (enters_of Try.func11 (by kernel_rfl) rfl)
  rintro e w' ⟨rfl, hw'⟩
  obtain rfl := hw'.symm
  refine ⟨.int .i64 0, rfl, hS, ?_⟩
  show wpAnyH _ _ _ _ _ _ _ ⟨#[.bool false, .pointer (some ⟨D, 0, none⟩), .int .i64 0, .slice p7 256 c7, .int .i64 0, .slice p8 256 c8, .int .i64 0, .tuple #[.pointer (some ⟨D, 0, none⟩), .int .i64 0], .tuple #[.pointer (some ⟨D, 0, none⟩), .int .i64 0], .pointer (some ⟨D, 0, none⟩), .int .i64 0, .int .i64 0, .int .i64 0, .bool false, .bool false, .pointer (some ⟨D, 0, none⟩), .bool false, .bool false, .bool false, .pointer (some ⟨D, 0, none⟩), .slice (some ⟨g2, 0, none⟩) 256 256, .int .i64 0, .int .i64 0, .pointer (some ⟨D, 0, none⟩), .slice (some ⟨g4, 0, none⟩) 256 256, .int .i64 0, .int .i64 0, .int .i64 0, .bool false, .bool false, .pointer (some ⟨D, 0, none⟩), .slice (some ⟨w5.heap.size, 0, none⟩) 2 2, .tuple #[], .tuple #[.slice p7 256 c7, .int .i64 0], .pointer (some ⟨D, 0, none⟩), .tuple #[.slice p7 256 c7, .int .i64 0], .slice p7 256 c7, .int .i64 0, .tuple #[.slice p8 256 c8, .int .i64 0], .pointer (some ⟨D, 0, none⟩), .tuple #[.slice p8 256 c8, .int .i64 0], .slice p8 256 c8, .int .i64 0, .int .i64 0, .int .i64 0, .int .i64 0, .int .i64 0, undef, undef, undef, undef, undef, undef, undef, undef, undef, undef, undef, undef, undef, undef, undef, undef], []⟩ _
  refine takeG 4 (.int .i64 0) ⟨#[.bool false, .pointer (some ⟨D, 0, none⟩), .int .i64 0, .slice p7 256 c7, .int .i64 0, .slice p8 256 c8, .int .i64 0, .tuple #[.pointer (some ⟨D, 0, none⟩), .int .i64 0], .tuple #[.pointer (some ⟨D, 0, none⟩), .int .i64 0], .pointer (some ⟨D, 0, none⟩), .int .i64 0, .int .i64 0, .int .i64 0, .bool false, .bool false, .pointer (some ⟨D, 0, none⟩), .bool false, .bool false, .bool false, .pointer (some ⟨D, 0, none⟩), .slice (some ⟨g2, 0, none⟩) 256 256, .int .i64 0, .int .i64 0, .pointer (some ⟨D, 0, none⟩), .slice (some ⟨g4, 0, none⟩) 256 256, .int .i64 0, .int .i64 0, .int .i64 0, .bool false, .bool false, .pointer (some ⟨D, 0, none⟩), .slice (some ⟨w5.heap.size, 0, none⟩) 2 2, .tuple #[], .tuple #[.slice p7 256 c7, .int .i64 0], .pointer (some ⟨D, 0, none⟩), .tuple #[.slice p7 256 c7, .int .i64 0], .slice p7 256 c7, .int .i64 0, .tuple #[.slice p8 256 c8, .int .i64 0], .pointer (some ⟨D, 0, none⟩), .tuple #[.slice p8 256 c8, .int .i64 0], .slice p8 256 c8, .int .i64 0, .int .i64 0, .int .i64 0, .int .i64 0, .int .i64 0, .int .i64 0, undef, undef, undef, undef, undef, undef, undef, undef, undef, undef, undef, undef, undef, undef, undef], []⟩ rfl rfl (by kernel_rfl) (by kernel_rfl) (by kernel_rfl) (fun _ _ _ h => h) (by rfl) ?_ hS ?_
  · intro W hW
    go_simp
    rfl
  refine takeG 5 (.bool true) ⟨#[.bool false, .pointer (some ⟨D, 0, none⟩), .int .i64 0, .slice p7 256 c7, .int .i64 0, .slice p8 256 c8, .int .i64 0, .tuple #[.pointer (some ⟨D, 0, none⟩), .int .i64 0], .tuple #[.pointer (some ⟨D, 0, none⟩), .int .i64 0], .pointer (some ⟨D, 0, none⟩), .int .i64 0, .int .i64 0, .int .i64 0, .bool false, .bool false, .pointer (some ⟨D, 0, none⟩), .bool false, .bool false, .bool false, .pointer (some ⟨D, 0, none⟩), .slice (some ⟨g2, 0, none⟩) 256 256, .int .i64 0, .int .i64 0, .pointer (some ⟨D, 0, none⟩), .slice (some ⟨g4, 0, none⟩) 256 256, .int .i64 0, .int .i64 0, .int .i64 0, .bool false, .bool false, .pointer (some ⟨D, 0, none⟩), .slice (some ⟨w5.heap.size, 0, none⟩) 2 2, .tuple #[], .tuple #[.slice p7 256 c7, .int .i64 0], .pointer (some ⟨D, 0, none⟩), .tuple #[.slice p7 256 c7, .int .i64 0], .slice p7 256 c7, .int .i64 0, .tuple #[.slice p8 256 c8, .int .i64 0], .pointer (some ⟨D, 0, none⟩), .tuple #[.slice p8 256 c8, .int .i64 0], .slice p8 256 c8, .int .i64 0, .int .i64 0, .int .i64 0, .int .i64 0, .int .i64 0, .int .i64 0, .bool true, undef, undef, undef, undef, undef, undef, undef, undef, undef, undef, undef, undef, undef, undef], []⟩ rfl rfl (by kernel_rfl) (by kernel_rfl) (by kernel_rfl) (fun _ _ _ h => h) (by rfl) ?_ hS ?_
  · intro W hW
    go_simp
  refine takeG 6 (.bool true) ⟨#[.bool false, .pointer (some ⟨D, 0, none⟩), .int .i64 0, .slice p7 256 c7, .int .i64 0, .slice p8 256 c8, .int .i64 0, .tuple #[.pointer (some ⟨D, 0, none⟩), .int .i64 0], .tuple #[.pointer (some ⟨D, 0, none⟩), .int .i64 0], .pointer (some ⟨D, 0, none⟩), .int .i64 0, .int .i64 0, .int .i64 0, .bool false, .bool false, .pointer (some ⟨D, 0, none⟩), .bool false, .bool false, .bool false, .pointer (some ⟨D, 0, none⟩), .slice (some ⟨g2, 0, none⟩) 256 256, .int .i64 0, .int .i64 0, .pointer (some ⟨D, 0, none⟩), .slice (some ⟨g4, 0, none⟩) 256 256, .int .i64 0, .int .i64 0, .int .i64 0, .bool false, .bool false, .pointer (some ⟨D, 0, none⟩), .slice (some ⟨w5.heap.size, 0, none⟩) 2 2, .tuple #[], .tuple #[.slice p7 256 c7, .int .i64 0], .pointer (some ⟨D, 0, none⟩), .tuple #[.slice p7 256 c7, .int .i64 0], .slice p7 256 c7, .int .i64 0, .tuple #[.slice p8 256 c8, .int .i64 0], .pointer (some ⟨D, 0, none⟩), .tuple #[.slice p8 256 c8, .int .i64 0], .slice p8 256 c8, .int .i64 0, .int .i64 0, .int .i64 0, .int .i64 0, .int .i64 0, .int .i64 0, .bool true, .bool true, undef, undef, undef, undef, undef, undef, undef, undef, undef, undef, undef, undef, undef], []⟩ rfl rfl (by kernel_rfl) (by kernel_rfl) (by kernel_rfl) (fun _ _ _ h => h) (by rfl) ?_ hS ?_
  · intro W hW
    go_simp
  refine takeG 7 (.slice p7 256 c7) ⟨#[.bool false, .pointer (some ⟨D, 0, none⟩), .int .i64 0, .slice p7 256 c7, .int .i64 0, .slice p8 256 c8, .int .i64 0, .tuple #[.pointer (some ⟨D, 0, none⟩), .int .i64 0], .tuple #[.pointer (some ⟨D, 0, none⟩), .int .i64 0], .pointer (some ⟨D, 0, none⟩), .int .i64 0, .int .i64 0, .int .i64 0, .bool false, .bool false, .pointer (some ⟨D, 0, none⟩), .bool false, .bool false, .bool false, .pointer (some ⟨D, 0, none⟩), .slice (some ⟨g2, 0, none⟩) 256 256, .int .i64 0, .int .i64 0, .pointer (some ⟨D, 0, none⟩), .slice (some ⟨g4, 0, none⟩) 256 256, .int .i64 0, .int .i64 0, .int .i64 0, .bool false, .bool false, .pointer (some ⟨D, 0, none⟩), .slice (some ⟨w5.heap.size, 0, none⟩) 2 2, .tuple #[], .tuple #[.slice p7 256 c7, .int .i64 0], .pointer (some ⟨D, 0, none⟩), .tuple #[.slice p7 256 c7, .int .i64 0], .slice p7 256 c7, .int .i64 0, .tuple #[.slice p8 256 c8, .int .i64 0], .pointer (some ⟨D, 0, none⟩), .tuple #[.slice p8 256 c8, .int .i64 0], .slice p8 256 c8, .int .i64 0, .int .i64 0, .int .i64 0, .int .i64 0, .int .i64 0, .int .i64 0, .bool true, .bool true, .slice p7 256 c7, undef, undef, undef, undef, undef, undef, undef, undef, undef, undef, undef, undef], []⟩ rfl rfl (by kernel_rfl) (by kernel_rfl) (by kernel_rfl) (fun _ _ _ h => h) (by rfl) ?_ hS ?_
  · intro W hW
    go_simp
  refine takeG 8 (.string t0) ⟨#[.bool false, .pointer (some ⟨D, 0, none⟩), .int .i64 0, .slice p7 256 c7, .int .i64 0, .slice p8 256 c8, .int .i64 0, .tuple #[.pointer (some ⟨D, 0, none⟩), .int .i64 0], .tuple #[.pointer (some ⟨D, 0, none⟩), .int .i64 0], .pointer (some ⟨D, 0, none⟩), .int .i64 0, .int .i64 0, .int .i64 0, .bool false, .bool false, .pointer (some ⟨D, 0, none⟩), .bool false, .bool false, .bool false, .pointer (some ⟨D, 0, none⟩), .slice (some ⟨g2, 0, none⟩) 256 256, .int .i64 0, .int .i64 0, .pointer (some ⟨D, 0, none⟩), .slice (some ⟨g4, 0, none⟩) 256 256, .int .i64 0, .int .i64 0, .int .i64 0, .bool false, .bool false, .pointer (some ⟨D, 0, none⟩), .slice (some ⟨w5.heap.size, 0, none⟩) 2 2, .tuple #[], .tuple #[.slice p7 256 c7, .int .i64 0], .pointer (some ⟨D, 0, none⟩), .tuple #[.slice p7 256 c7, .int .i64 0], .slice p7 256 c7, .int .i64 0, .tuple #[.slice p8 256 c8, .int .i64 0], .pointer (some ⟨D, 0, none⟩), .tuple #[.slice p8 256 c8, .int .i64 0], .slice p8 256 c8, .int .i64 0, .int .i64 0, .int .i64 0, .int .i64 0, .int .i64 0, .int .i64 0, .bool true, .bool true, .slice p7 256 c7, .string t0, undef, undef, undef, undef, undef, undef, undef, undef, undef, undef, undef], []⟩ rfl rfl (by kernel_rfl) (by kernel_rfl) (by kernel_rfl) (fun _ _ _ h => h) (by rfl) ?_ hS ?_
  · intro W hW
    exact exec_conv (.tmp 50) rfl _ _ rfl (CV.out W hW).1
  refine wpAnyH_ready (rs := [9]) (by kernel_rfl) (by simp) (callG (f := 22) (args := #[.int .u8 0]) rfl (by rfl) ?_ (full_any 0 (by omega) _) ?_ AllReadyH.nil)
  · exact exec_call1 22 _ _ rfl (.int .u8 0) rfl rfl (enters_of Try.func22 (by kernel_rfl) rfl)
  rintro e w9 ⟨g9, rfl, o9, b9⟩
  have hS9 : Below w8.heap.size w8 w9 := hS.trans (b9.mono hS.size)
  have cn9 := conv_any (own256 o9).2.2 256 256 (fullN_len 0)
  rw [T0.out] at cn9
  refine ⟨.slice (some ⟨g9, 0, none⟩) 256 256, rfl, hS9, ?_⟩
  show wpAnyH _ _ _ _ _ _ _ ⟨#[.bool false, .pointer (some ⟨D, 0, none⟩), .int .i64 0, .slice p7 256 c7, .int .i64 0, .slice p8 256 c8, .int .i64 0, .tuple #[.pointer (some ⟨D, 0, none⟩), .int .i64 0], .tuple #[.pointer (some ⟨D, 0, none⟩), .int .i64 0], .pointer (some ⟨D, 0, none⟩), .int .i64 0, .int .i64 0, .int .i64 0, .bool false, .bool false, .pointer (some ⟨D, 0, none⟩), .bool false, .bool false, .bool false, .pointer (some ⟨D, 0, none⟩), .slice (some ⟨g2, 0, none⟩) 256 256, .int .i64 0, .int .i64 0, .pointer (some ⟨D, 0, none⟩), .slice (some ⟨g4, 0, none⟩) 256 256, .int .i64 0, .int .i64 0, .int .i64 0, .bool false, .bool false, .pointer (some ⟨D, 0, none⟩), .slice (some ⟨w5.heap.size, 0, none⟩) 2 2, .tuple #[], .tuple #[.slice p7 256 c7, .int .i64 0], .pointer (some ⟨D, 0, none⟩), .tuple #[.slice p7 256 c7, .int .i64 0], .slice p7 256 c7, .int .i64 0, .tuple #[.slice p8 256 c8, .int .i64 0], .pointer (some ⟨D, 0, none⟩), .tuple #[.slice p8 256 c8, .int .i64 0], .slice p8 256 c8, .int .i64 0, .int .i64 0, .int .i64 0, .int .i64 0, .int .i64 0, .int .i64 0, .bool true, .bool true, .slice p7 256 c7, .string t0, .slice (some ⟨g9, 0, none⟩) 256 256, undef, undef, undef, undef, undef, undef, undef, undef, undef, undef], []⟩ _
  refine wpAnyH_ready (rs := [10]) (by kernel_rfl) (by simp) (stepG (.string t0) w9 ⟨#[.bool false, .pointer (some ⟨D, 0, none⟩), .int .i64 0, .slice p7 256 c7, .int .i64 0, .slice p8 256 c8, .int .i64 0, .tuple #[.pointer (some ⟨D, 0, none⟩), .int .i64 0], .tuple #[.pointer (some ⟨D, 0, none⟩), .int .i64 0], .pointer (some ⟨D, 0, none⟩), .int .i64 0, .int .i64 0, .int .i64 0, .bool false, .bool false, .pointer (some ⟨D, 0, none⟩), .bool false, .bool false, .bool false, .pointer (some ⟨D, 0, none⟩), .slice (some ⟨g2, 0, none⟩) 256 256, .int .i64 0, .int .i64 0, .pointer (some ⟨D, 0, none⟩), .slice (some ⟨g4, 0, none⟩) 256 256, .int .i64 0, .int .i64 0, .int .i64 0, .bool false, .bool false, .pointer (some ⟨D, 0, none⟩), .slice (some ⟨w5.heap.size, 0, none⟩) 2 2, .tuple #[], .tuple #[.slice p7 256 c7, .int .i64 0], .pointer (some ⟨D, 0, none⟩), .tuple #[.slice p7 256 c7, .int .i64 0], .slice p7 256 c7, .int .i64 0, .tuple #[.slice p8 256 c8, .int .i64 0], .pointer (some ⟨D, 0, none⟩), .tuple #[.slice p8 256 c8, .int .i64 0], .slice p8 256 c8, .int .i64 0, .int .i64 0, .int .i64 0, .int .i64 0, .int .i64 0, .int .i64 0, .bool true, .bool true, .slice p7 256 c7, .string t0, .slice (some ⟨g9, 0, none⟩) 256 256, .string t0, undef, undef, undef, undef, undef, undef, undef, undef, undef], []⟩ rfl rfl (by rfl) ?_ hS9 ?_ AllReadyH.nil)
  · exact exec_conv (.tmp 52) rfl _ _ rfl cn9
  refine takeG 11 (.bool true) ⟨#[.bool false, .pointer (some ⟨D, 0, none⟩), .int .i64 0, .slice p7 256 c7, .int .i64 0, .slice p8 256 c8, .int .i64 0, .tuple #[.pointer (some ⟨D, 0, none⟩), .int .i64 0], .tuple #[.pointer (some ⟨D, 0, none⟩), .int .i64 0], .pointer (some ⟨D, 0, none⟩), .int .i64 0, .int .i64 0, .int .i64 0, .bool false, .bool false, .pointer (some ⟨D, 0, none⟩), .bool false, .bool false, .bool false, .pointer (some ⟨D, 0, none⟩), .slice (some ⟨g2, 0, none⟩) 256 256, .int .i64 0, .int .i64 0, .pointer (some ⟨D, 0, none⟩), .slice (some ⟨g4, 0, none⟩) 256 256, .int .i64 0, .int .i64 0, .int .i64 0, .bool false, .bool false, .pointer (some ⟨D, 0, none⟩), .slice (some ⟨w5.heap.size, 0, none⟩) 2 2, .tuple #[], .tuple #[.slice p7 256 c7, .int .i64 0], .pointer (some ⟨D, 0, none⟩), .tuple #[.slice p7 256 c7, .int .i64 0], .slice p7 256 c7, .int .i64 0, .tuple #[.slice p8 256 c8, .int .i64 0], .pointer (some ⟨D, 0, none⟩), .tuple #[.slice p8 256 c8, .int .i64 0], .slice p8 256 c8, .int .i64 0, .int .i64 0, .int .i64 0, .int .i64 0, .int .i64 0, .int .i64 0, .bool true, .bool true, .slice p7 256 c7, .string t0, .slice (some ⟨g9, 0, none⟩) 256 256, .string t0, .bool true, undef, undef, undef, undef, undef, undef, undef, undef], []⟩ rfl rfl (by kernel_rfl) (by kernel_rfl) (by kernel_rfl) (fun _ _ _ h => h) (by rfl) ?_ hS9 ?_
  · intro W hW
    go_simp
  refine takeG 12 (.bool true) ⟨#[.bool false, .pointer (some ⟨D, 0, none⟩), .int .i64 0, .slice p7 256 c7, .int .i64 0, .slice p8 256 c8, .int .i64 0, .tuple #[.pointer (some ⟨D, 0, none⟩), .int .i64 0], .tuple #[.pointer (some ⟨D, 0, none⟩), .int .i64 0], .pointer (some ⟨D, 0, none⟩), .int .i64 0, .int .i64 0, .int .i64 0, .bool false, .bool false, .pointer (some ⟨D, 0, none⟩), .bool false, .bool false, .bool false, .pointer (some ⟨D, 0, none⟩), .slice (some ⟨g2, 0, none⟩) 256 256, .int .i64 0, .int .i64 0, .pointer (some ⟨D, 0, none⟩), .slice (some ⟨g4, 0, none⟩) 256 256, .int .i64 0, .int .i64 0, .int .i64 0, .bool false, .bool false, .pointer (some ⟨D, 0, none⟩), .slice (some ⟨w5.heap.size, 0, none⟩) 2 2, .tuple #[], .tuple #[.slice p7 256 c7, .int .i64 0], .pointer (some ⟨D, 0, none⟩), .tuple #[.slice p7 256 c7, .int .i64 0], .slice p7 256 c7, .int .i64 0, .tuple #[.slice p8 256 c8, .int .i64 0], .pointer (some ⟨D, 0, none⟩), .tuple #[.slice p8 256 c8, .int .i64 0], .slice p8 256 c8, .int .i64 0, .int .i64 0, .int .i64 0, .int .i64 0, .int .i64 0, .int .i64 0, .bool true, .bool true, .slice p7 256 c7, .string t0, .slice (some ⟨g9, 0, none⟩) 256 256, .string t0, .bool true, .bool true, undef, undef, undef, undef, undef, undef, undef], []⟩ rfl rfl (by kernel_rfl) (by kernel_rfl) (by kernel_rfl) (fun _ _ _ h => h) (by rfl) ?_ hS9 ?_
  · intro W hW
    go_simp
  refine takeG 13 (.bool true) ⟨#[.bool false, .pointer (some ⟨D, 0, none⟩), .int .i64 0, .slice p7 256 c7, .int .i64 0, .slice p8 256 c8, .int .i64 0, .tuple #[.pointer (some ⟨D, 0, none⟩), .int .i64 0], .tuple #[.pointer (some ⟨D, 0, none⟩), .int .i64 0], .pointer (some ⟨D, 0, none⟩), .int .i64 0, .int .i64 0, .int .i64 0, .bool false, .bool false, .pointer (some ⟨D, 0, none⟩), .bool false, .bool false, .bool false, .pointer (some ⟨D, 0, none⟩), .slice (some ⟨g2, 0, none⟩) 256 256, .int .i64 0, .int .i64 0, .pointer (some ⟨D, 0, none⟩), .slice (some ⟨g4, 0, none⟩) 256 256, .int .i64 0, .int .i64 0, .int .i64 0, .bool false, .bool false, .pointer (some ⟨D, 0, none⟩), .slice (some ⟨w5.heap.size, 0, none⟩) 2 2, .tuple #[], .tuple #[.slice p7 256 c7, .int .i64 0], .pointer (some ⟨D, 0, none⟩), .tuple #[.slice p7 256 c7, .int .i64 0], .slice p7 256 c7, .int .i64 0, .tuple #[.slice p8 256 c8, .int .i64 0], .pointer (some ⟨D, 0, none⟩), .tuple #[.slice p8 256 c8, .int .i64 0], .slice p8 256 c8, .int .i64 0, .int .i64 0, .int .i64 0, .int .i64 0, .int .i64 0, .int .i64 0, .bool true, .bool true, .slice p7 256 c7, .string t0, .slice (some ⟨g9, 0, none⟩) 256 256, .string t0, .bool true, .bool true, .bool true, undef, undef, undef, undef, undef, undef], []⟩ rfl rfl (by kernel_rfl) (by kernel_rfl) (by kernel_rfl) (fun _ _ _ h => h) (by rfl) ?_ hS9 ?_
  · intro W hW
    go_simp
  refine takeG 14 (.slice p8 256 c8) ⟨#[.bool false, .pointer (some ⟨D, 0, none⟩), .int .i64 0, .slice p7 256 c7, .int .i64 0, .slice p8 256 c8, .int .i64 0, .tuple #[.pointer (some ⟨D, 0, none⟩), .int .i64 0], .tuple #[.pointer (some ⟨D, 0, none⟩), .int .i64 0], .pointer (some ⟨D, 0, none⟩), .int .i64 0, .int .i64 0, .int .i64 0, .bool false, .bool false, .pointer (some ⟨D, 0, none⟩), .bool false, .bool false, .bool false, .pointer (some ⟨D, 0, none⟩), .slice (some ⟨g2, 0, none⟩) 256 256, .int .i64 0, .int .i64 0, .pointer (some ⟨D, 0, none⟩), .slice (some ⟨g4, 0, none⟩) 256 256, .int .i64 0, .int .i64 0, .int .i64 0, .bool false, .bool false, .pointer (some ⟨D, 0, none⟩), .slice (some ⟨w5.heap.size, 0, none⟩) 2 2, .tuple #[], .tuple #[.slice p7 256 c7, .int .i64 0], .pointer (some ⟨D, 0, none⟩), .tuple #[.slice p7 256 c7, .int .i64 0], .slice p7 256 c7, .int .i64 0, .tuple #[.slice p8 256 c8, .int .i64 0], .pointer (some ⟨D, 0, none⟩), .tuple #[.slice p8 256 c8, .int .i64 0], .slice p8 256 c8, .int .i64 0, .int .i64 0, .int .i64 0, .int .i64 0, .int .i64 0, .int .i64 0, .bool true, .bool true, .slice p7 256 c7, .string t0, .slice (some ⟨g9, 0, none⟩) 256 256, .string t0, .bool true, .bool true, .bool true, .slice p8 256 c8, undef, undef, undef, undef, undef], []⟩ rfl rfl (by kernel_rfl) (by kernel_rfl) (by kernel_rfl) (fun _ _ _ h => h) (by rfl) ?_ hS9 ?_
  · intro W hW
    go_simp
  refine takeG 15 (.string t2) ⟨#[.bool false, .pointer (some ⟨D, 0, none⟩), .int .i64 0, .slice p7 256 c7, .int .i64 0, .slice p8 256 c8, .int .i64 0, .tuple #[.pointer (some ⟨D, 0, none⟩), .int .i64 0], .tuple #[.pointer (some ⟨D, 0, none⟩), .int .i64 0], .pointer (some ⟨D, 0, none⟩), .int .i64 0, .int .i64 0, .int .i64 0, .bool false, .bool false, .pointer (some ⟨D, 0, none⟩), .bool false, .bool false, .bool false, .pointer (some ⟨D, 0, none⟩), .slice (some ⟨g2, 0, none⟩) 256 256, .int .i64 0, .int .i64 0, .pointer (some ⟨D, 0, none⟩), .slice (some ⟨g4, 0, none⟩) 256 256, .int .i64 0, .int .i64 0, .int .i64 0, .bool false, .bool false, .pointer (some ⟨D, 0, none⟩), .slice (some ⟨w5.heap.size, 0, none⟩) 2 2, .tuple #[], .tuple #[.slice p7 256 c7, .int .i64 0], .pointer (some ⟨D, 0, none⟩), .tuple #[.slice p7 256 c7, .int .i64 0], .slice p7 256 c7, .int .i64 0, .tuple #[.slice p8 256 c8, .int .i64 0], .pointer (some ⟨D, 0, none⟩), .tuple #[.slice p8 256 c8, .int .i64 0], .slice p8 256 c8, .int .i64 0, .int .i64 0, .int .i64 0, .int .i64 0, .int .i64 0, .int .i64 0, .bool true, .bool true, .slice p7 256 c7, .string t0, .slice (some ⟨g9, 0, none⟩) 256 256, .string t0, .bool true, .bool true, .bool true, .slice p8 256 c8, .string t2, undef, undef, undef, undef], []⟩ rfl rfl (by kernel_rfl) (by kernel_rfl) (by kernel_rfl) (fun _ _ _ h => h) (by rfl) ?_ hS9 ?_
  · intro W hW
    exact exec_conv (.tmp 57) rfl _ _ rfl (CV.out W hW).2
  refine wpAnyH_ready (rs := [16]) (by kernel_rfl) (by simp) (callG (f := 22) (args := #[.int .u8 2]) rfl (by rfl) ?_ (full_any 2 (by omega) _) ?_ AllReadyH.nil)
  · exact exec_call1 22 _ _ rfl (.int .u8 2) rfl rfl (enters_of Try.func22 (by kernel_rfl) rfl)
  rintro e w10 ⟨g10, rfl, o10, b10⟩
  have hS10 : Below w8.heap.size w8 w10 := hS9.trans (b10.mono hS9.size)
  have cn10 := conv_any (own256 o10).2.2 256 256 (fullN_len 2)
  rw [T2.out] at cn10
  refine ⟨.slice (some ⟨g10, 0, none⟩) 256 256, rfl, hS10, ?_⟩
  show wpAnyH _ _ _ _ _ _ _ ⟨#[.bool false, .pointer (some ⟨D, 0, none⟩), .int .i64 0, .slice p7 256 c7, .int .i64 0, .slice p8 256 c8, .int .i64 0, .tuple #[.pointer (some ⟨D, 0, none⟩), .int .i64 0], .tuple #[.pointer (some ⟨D, 0, none⟩), .int .i64 0], .pointer (some ⟨D, 0, none⟩), .int .i64 0, .int .i64 0, .int .i64 0, .bool false, .bool false, .pointer (some ⟨D, 0, none⟩), .bool false, .bool false, .bool false, .pointer (some ⟨D, 0, none⟩), .slice (some ⟨g2, 0, none⟩) 256 256, .int .i64 0, .int .i64 0, .pointer (some ⟨D, 0, none⟩), .slice (some ⟨g4, 0, none⟩) 256 256, .int .i64 0, .int .i64 0, .int .i64 0, .bool false, .bool false, .pointer (some ⟨D, 0, none⟩), .slice (some ⟨w5.heap.size, 0, none⟩) 2 2, .tuple #[], .tuple #[.slice p7 256 c7, .int .i64 0], .pointer (some ⟨D, 0, none⟩), .tuple #[.slice p7 256 c7, .int .i64 0], .slice p7 256 c7, .int .i64 0, .tuple #[.slice p8 256 c8, .int .i64 0], .pointer (some ⟨D, 0, none⟩), .tuple #[.slice p8 256 c8, .int .i64 0], .slice p8 256 c8, .int .i64 0, .int .i64 0, .int .i64 0, .int .i64 0, .int .i64 0, .int .i64 0, .bool true, .bool true, .slice p7 256 c7, .string t0, .slice (some ⟨g9, 0, none⟩) 256 256, .string t0, .bool true, .bool true, .bool true, .slice p8 256 c8, .string t2, .slice (some ⟨g10, 0, none⟩) 256 256, undef, undef, undef], []⟩ _
  refine wpAnyH_ready (rs := [17]) (by kernel_rfl) (by simp) (stepG (.string t2) w10 ⟨#[.bool false, .pointer (some ⟨D, 0, none⟩), .int .i64 0, .slice p7 256 c7, .int .i64 0, .slice p8 256 c8, .int .i64 0, .tuple #[.pointer (some ⟨D, 0, none⟩), .int .i64 0], .tuple #[.pointer (some ⟨D, 0, none⟩), .int .i64 0], .pointer (some ⟨D, 0, none⟩), .int .i64 0, .int .i64 0, .int .i64 0, .bool false, .bool false, .pointer (some ⟨D, 0, none⟩), .bool false, .bool false, .bool false, .pointer (some ⟨D, 0, none⟩), .slice (some ⟨g2, 0, none⟩) 256 256, .int .i64 0, .int .i64 0, .pointer (some ⟨D, 0, none⟩), .slice (some ⟨g4, 0, none⟩) 256 256, .int .i64 0, .int .i64 0, .int .i64 0, .bool false, .bool false, .pointer (some ⟨D, 0, none⟩), .slice (some ⟨w5.heap.size, 0, none⟩) 2 2, .tuple #[], .tuple #[.slice p7 256 c7, .int .i64 0], .pointer (some ⟨D, 0, none⟩), .tuple #[.slice p7 256 c7, .int .i64 0], .slice p7 256 c7, .int .i64 0, .tuple #[.slice p8 256 c8, .int .i64 0], .pointer (some ⟨D, 0, none⟩), .tuple #[.slice p8 256 c8, .int .i64 0], .slice p8 256 c8, .int .i64 0, .int .i64 0, .int .i64 0, .int .i64 0, .int .i64 0, .int .i64 0, .bool true, .bool true, .slice p7 256 c7, .string t0, .slice (some ⟨g9, 0, none⟩) 256 256, .string t0, .bool true, .bool true, .bool true, .slice p8 256 c8, .string t2, .slice (some ⟨g10, 0, none⟩) 256 256, .string t2, undef, undef], []⟩ rfl rfl (by rfl) ?_ hS10 ?_ AllReadyH.nil)
  · exact exec_conv (.tmp 59) rfl _ _ rfl cn10
  refine takeG 18 (.bool true) ⟨#[.bool false, .pointer (some ⟨D, 0, none⟩), .int .i64 0, .slice p7 256 c7, .int .i64 0, .slice p8 256 c8, .int .i64 0, .tuple #[.pointer (some ⟨D, 0, none⟩), .int .i64 0], .tuple #[.pointer (some ⟨D, 0, none⟩), .int .i64 0], .pointer (some ⟨D, 0, none⟩), .int .i64 0, .int .i64 0, .int .i64 0, .bool false, .bool false, .pointer (some ⟨D, 0, none⟩), .bool false, .bool false, .bool false, .pointer (some ⟨D, 0, none⟩), .slice (some ⟨g2, 0, none⟩) 256 256, .int .i64 0, .int .i64 0, .pointer (some ⟨D, 0, none⟩), .slice (some ⟨g4, 0, none⟩) 256 256, .int .i64 0, .int .i64 0, .int .i64 0, .bool false, .bool false, .pointer (some ⟨D, 0, none⟩), .slice (some ⟨w5.heap.size, 0, none⟩) 2 2, .tuple #[], .tuple #[.slice p7 256 c7, .int .i64 0], .pointer (some ⟨D, 0, none⟩), .tuple #[.slice p7 256 c7, .int .i64 0], .slice p7 256 c7, .int .i64 0, .tuple #[.slice p8 256 c8, .int .i64 0], .pointer (some ⟨D, 0, none⟩), .tuple #[.slice p8 256 c8, .int .i64 0], .slice p8 256 c8, .int .i64 0, .int .i64 0, .int .i64 0, .int .i64 0, .int .i64 0, .int .i64 0, .bool true, .bool true, .slice p7 256 c7, .string t0, .slice (some ⟨g9, 0, none⟩) 256 256, .string t0, .bool true, .bool true, .bool true, .slice p8 256 c8, .string t2, .slice (some ⟨g10, 0, none⟩) 256 256, .string t2, .bool true, undef], []⟩ rfl rfl (by kernel_rfl) (by kernel_rfl) (by kernel_rfl) (fun _ _ _ h => h) (by rfl) ?_ hS10 ?_
  · intro W hW
    go_simp
  refine takeG 19 (.bool true) ⟨#[.bool false, .pointer (some ⟨D, 0, none⟩), .int .i64 0, .slice p7 256 c7, .int .i64 0, .slice p8 256 c8, .int .i64 0, .tuple #[.pointer (some ⟨D, 0, none⟩), .int .i64 0], .tuple #[.pointer (some ⟨D, 0, none⟩), .int .i64 0], .pointer (some ⟨D, 0, none⟩), .int .i64 0, .int .i64 0, .int .i64 0, .bool false, .bool false, .pointer (some ⟨D, 0, none⟩), .bool false, .bool false, .bool false, .pointer (some ⟨D, 0, none⟩), .slice (some ⟨g2, 0, none⟩) 256 256, .int .i64 0, .int .i64 0, .pointer (some ⟨D, 0, none⟩), .slice (some ⟨g4, 0, none⟩) 256 256, .int .i64 0, .int .i64 0, .int .i64 0, .bool false, .bool false, .pointer (some ⟨D, 0, none⟩), .slice (some ⟨w5.heap.size, 0, none⟩) 2 2, .tuple #[], .tuple #[.slice p7 256 c7, .int .i64 0], .pointer (some ⟨D, 0, none⟩), .tuple #[.slice p7 256 c7, .int .i64 0], .slice p7 256 c7, .int .i64 0, .tuple #[.slice p8 256 c8, .int .i64 0], .pointer (some ⟨D, 0, none⟩), .tuple #[.slice p8 256 c8, .int .i64 0], .slice p8 256 c8, .int .i64 0, .int .i64 0, .int .i64 0, .int .i64 0, .int .i64 0, .int .i64 0, .bool true, .bool true, .slice p7 256 c7, .string t0, .slice (some ⟨g9, 0, none⟩) 256 256, .string t0, .bool true, .bool true, .bool true, .slice p8 256 c8, .string t2, .slice (some ⟨g10, 0, none⟩) 256 256, .string t2, .bool true, .bool true], []⟩ rfl rfl (by kernel_rfl) (by kernel_rfl) (by kernel_rfl) (fun _ _ _ h => h) (by rfl) ?_ hS10 ?_
  · intro W hW
    go_simp
  refine takeG 20 (.bool true) ⟨#[.bool true, .pointer (some ⟨D, 0, none⟩), .int .i64 0, .slice p7 256 c7, .int .i64 0, .slice p8 256 c8, .int .i64 0, .tuple #[.pointer (some ⟨D, 0, none⟩), .int .i64 0], .tuple #[.pointer (some ⟨D, 0, none⟩), .int .i64 0], .pointer (some ⟨D, 0, none⟩), .int .i64 0, .int .i64 0, .int .i64 0, .bool false, .bool false, .pointer (some ⟨D, 0, none⟩), .bool false, .bool false, .bool false, .pointer (some ⟨D, 0, none⟩), .slice (some ⟨g2, 0, none⟩) 256 256, .int .i64 0, .int .i64 0, .pointer (some ⟨D, 0, none⟩), .slice (some ⟨g4, 0, none⟩) 256 256, .int .i64 0, .int .i64 0, .int .i64 0, .bool false, .bool false, .pointer (some ⟨D, 0, none⟩), .slice (some ⟨w5.heap.size, 0, none⟩) 2 2, .tuple #[], .tuple #[.slice p7 256 c7, .int .i64 0], .pointer (some ⟨D, 0, none⟩), .tuple #[.slice p7 256 c7, .int .i64 0], .slice p7 256 c7, .int .i64 0, .tuple #[.slice p8 256 c8, .int .i64 0], .pointer (some ⟨D, 0, none⟩), .tuple #[.slice p8 256 c8, .int .i64 0], .slice p8 256 c8, .int .i64 0, .int .i64 0, .int .i64 0, .int .i64 0, .int .i64 0, .int .i64 0, .bool true, .bool true, .slice p7 256 c7, .string t0, .slice (some ⟨g9, 0, none⟩) 256 256, .string t0, .bool true, .bool true, .bool true, .slice p8 256 c8, .string t2, .slice (some ⟨g10, 0, none⟩) 256 256, .string t2, .bool true, .bool true], []⟩ rfl rfl (by kernel_rfl) (by kernel_rfl) (by kernel_rfl) (fun _ _ _ h => h) (by rfl) ?_ hS10 ?_
  · intro W hW
    go_simp
  refine wpAnyH_done (by kernel_rfl) ?_ _
  go_wp2
  go_ret
  exact ⟨rfl, B8.out.trans (hS10.mono B8.out.size)⟩
end Go.Proofs.Ytdcgokkbmplihaa

/- Any writes and syncs on a disk with power and no fuse; what was read, kept in two slices. -/
namespace Go.Proofs.Ytdcgokkbmplihaa
open Go.RowKit
variable {s : DSt} {m : Nat}

/-- Six blocks, power, no fuse, at most m versions each. -/
structure Fr (s : DSt) (m : Nat) : Prop where
  free : s.free
  len : s.bs.length = 6
  up : s.upTo m
theorem fr_start : Fr (newD 6) 0 := ⟨⟨rfl, rfl⟩, rfl, newD_upTo 6⟩
theorem fr_write (h : Fr s m) (k : Nat) (hk : k < 6) (l : List Nat) (hl : l.length = 256) : (writeD s k l).1 = 0 ∧ Fr (writeD s k l).2 (m + 1) := by
  have hu := writeD_upTo h.up k l
  have e := writeD_free h.free (i := k) (by rw [h.len]; exact hk) hl
  rw [e] at hu ⊢
  exact ⟨rfl, ⟨h.free.on, h.free.none⟩, by rw [setB_len]; exact h.len, hu⟩
theorem fr_sync (h : Fr s m) : (syncD s).1 = 0 ∧ Fr (syncD s).2 (m + 1) := by
  have hu := (syncD_upTo h.up).mono (Nat.le_succ m)
  have e := syncD_free h.free
  rw [e] at hu ⊢
  exact ⟨rfl, ⟨h.free.on, h.free.none⟩, by simp; exact h.len, hu⟩
variable {N : Nat} {w w' : World} {v : Value}
theorem Try.infoS : (Try.prog.info? 32).map (fun i => (i.zero, i.size, i.bytes)) = some (some (.slice none 0 0), 1, 24) := by kernel_rfl
theorem Try.infoI : (Try.prog.info? 3).map (fun i => (i.zero, i.size, i.bytes)) = some (some (.int .i64 0), 1, 8) := by kernel_rfl
/-- v is a slice of the texts that the first m blocks of s are read as. -/
def Was (N : Nat) (s : DSt) (w : World) (v : Value) (m : Nat) : Prop := ∃ ws, w.ownsRow N 32 1 v m ws ∧ ∀ j, j < m → ∃ u, ws[j]? = some u ∧ Own w N u (readD s (j : Nat)).1
def errsV (s : DSt) (m : Nat) : List Value := (List.range m).map (fun j : Nat => Value.int .i64 (readD s (j : Nat)).2)
def Errs (N : Nat) (s : DSt) (w : World) (v : Value) (m : Nat) : Prop := w.ownsRow N 3 1 v m (errsV s m)
theorem ownsRow_later {e n : Nat} {xs : List Value} (h : w.ownsRow N e 1 v n xs) (hb : Below w.heap.size w w') : w'.ownsRow N e 1 v n xs := by
  refine ⟨h.1, ?_⟩
  rcases h.2 with h0 | ⟨g, cap, cur, e1, h1, h2, h3⟩
  · exact Or.inl h0
  · exact Or.inr ⟨g, cap, cur, e1, h1, (hb.block g (Array.getElem?_eq_some_iff.1 h2).1).trans h2, h3⟩
theorem ownsRow_alien {e n : Nat} {xs : List Value} (h : w.ownsRow N e 1 v n xs) {row : Option Nat} (hg : w.grownBy w' row) (ha : ∀ g, row = some g → ∃ c t fr, w.heap[g]? = some (.cells c t fr) ∧ t ≠ e) : w'.ownsRow N e 1 v n xs := by
  refine ⟨h.1, ?_⟩
  rcases h.2 with h0 | ⟨g, cap, cur, e1, h1, h2, h3⟩
  · exact Or.inl h0
  · refine Or.inr ⟨g, cap, cur, e1, h1, ?_, h3⟩
    rw [hg.block g (Array.getElem?_eq_some_iff.1 h2).1 (fun e2 => ?_)]
    · exact h2
    · obtain ⟨c, t, fr, r1, r2⟩ := ha g e2.symm
      rw [h2] at r1
      injection r1 with r1
      injection r1 with r3 r4
      exact r2 r4.symm
theorem Was.later (h : Was N s w v m) (hb : Below w.heap.size w w') : Was N s w' v m := by
  obtain ⟨ws, h1, h2⟩ := h
  exact ⟨ws, ownsRow_later h1 hb, fun j hj => by obtain ⟨u, e, o⟩ := h2 j hj; exact ⟨u, e, o.later hb⟩⟩
theorem Was.alien (h : Was N s w v m) {row : Option Nat} (hg : w.grownBy w' row) (ha : ∀ g, row = some g → ∃ c t fr, w.heap[g]? = some (.cells c t fr) ∧ t ≠ 32 ∧ t ≠ 5) : Was N s w' v m := by
  obtain ⟨ws, h1, h2⟩ := h
  refine ⟨ws, ownsRow_alien h1 hg (fun g e => ?_), fun j hj => ?_⟩
  · obtain ⟨c, t, fr, r1, r2, r3⟩ := ha g e
    exact ⟨c, t, fr, r1, r2⟩
  · obtain ⟨u, e, o⟩ := h2 j hj
    exact ⟨u, e, o.alien hg (fun g e => by obtain ⟨c, t, fr, r1, r2, r3⟩ := ha g e; exact ⟨c, t, fr, r1, r3⟩)⟩
theorem Errs.later (h : Errs N s w v m) (hb : Below w.heap.size w w') : Errs N s w' v m := ownsRow_later h hb
theorem errsV_succ (s : DSt) (m : Nat) : errsV s (m + 1) = errsV s m ++ [Value.int .i64 (readD s (m : Nat)).2] := by
  unfold errsV
  rw [List.range_succ, List.map_append]
  rfl
/-- A text more. -/
theorem Was.snoc {ws : List Value} {v' u : Value} (h2 : ∀ j, j < m → ∃ u, ws[j]? = some u ∧ Own w N u (readD s (j : Nat)).1) (hu : Own w N u (readD s (m : Nat)).1) (hl : ws.length = m) (hr : w'.ownsRow N 32 1 v' (m + 1) (ws ++ [u])) {row : Option Nat} (hg : w.grownBy w' row)
    (ha : ∀ g, row = some g → ∃ c t fr, w.heap[g]? = some (.cells c t fr) ∧ t ≠ 5) : Was N s w' v' (m + 1) := by
  refine ⟨_, hr, fun j hj => ?_⟩
  by_cases e : j < m
  · obtain ⟨x, e1, o⟩ := h2 j e
    exact ⟨x, by rw [List.getElem?_append_left (by omega)]; exact e1, o.alien hg ha⟩
  · obtain rfl : j = m := by omega
    exact ⟨u, by rw [List.getElem?_append_right (by omega), hl]; simp, hu.alien hg ha⟩
theorem one_cell (w : World) (u : Value) (t : TypeId) : ∀ j x, [u][j]? = some x → (w.alloc (.cells #[u] t)).cell? ((⟨w.heap.size, 0, none⟩ : Addr).add j) = some x := fun j x hx => by
  cases j with
  | zero =>
    rw [addr_add, cell_of_row _ _ _ _ _ _ (heap_alloc_last w _)]
    simpa using hx
  | succ j => simp at hx
/-- 'was = append(was, u)'. -/
theorem app_was {p : Option Addr} {n c : Nat} {ops : Array Oper} {rest : List Oper} {o : Oper} {a : Act} {Q : Exit → Act → World → Prop} (hgd : o.guard = none) (x y : Operand) (ho : o.op = .call { callee := .builtin .append, args := #[x, y], argTypes := #[49, 49] })
    (w0 : World) (hw : w = w0.alloc (.cells #[.slice p n c] 32)) (hN : N ≤ w0.heap.size) (hx : a.eval x = v) (hy : a.eval y = .slice (some ⟨w0.heap.size, 0, none⟩) 1 1) (h : Was N s w0 v m) (hu : Own w0 N (.slice p n c) (readD s (m : Nat)).1) (hm : m ≤ 6)
    (hK : ∀ v' w', Was N s w' v' (m + 1) → w.grownBy w' v.ownBlock → (∀ g, v.ownBlock = some g → N ≤ g ∧ ∃ c, w.heap[g]? = some (.cells c 32 (0, 0))) → wpList Try.prog ops Q rest (a.put o.dst v') w') : wpList Try.prog ops Q (o :: rest) a w := by
  obtain ⟨i0, hi, hz0, hz1, hz2⟩ := info_parts Try.infoS
  have hb : Below w0.heap.size w0 w := by rw [hw]; exact (Below.refl _ w0).alloc (Nat.le_refl _) _
  obtain ⟨ws, h1, h2⟩ := h.later hb
  have hl : ws.length = m := by have := h1.1; omega
  refine wpList_append_own w hgd x y 49 ho N 32 i0 (.slice none 0 0) 1 24 Try.underlying49 hi hz0 hz1 hz2 rfl (by decide) v m ws hx h1 ⟨w0.heap.size, 0, none⟩ 1 1 [.slice p n c] hy rfl (by rw [hw]; exact one_cell w0 _ _) (fun u hu => by simp at hu; rw [hu]; rfl) (by unfold maxLen; omega) (by omega) (Nat.le_trans hN hb.size) ?_
  intro v' w' r1 r2 _
  have hc : ∀ g, v.ownBlock = some g → N ≤ g ∧ ∃ c, w.heap[g]? = some (.cells c 32 (0, 0)) := fun g hg => by
    obtain ⟨c, q1, q2⟩ := ownBlock_cells h1 hg
    exact ⟨q2, c, q1⟩
  exact hK v' w' (Was.snoc h2 (hu.later hb) hl r1 r2 (fun g hg => by obtain ⟨_, c, q⟩ := hc g hg; exact ⟨c, _, _, q, by decide⟩)) r2 hc
/-- 'errs = append(errs, e)'. -/
theorem app_errs {ops : Array Oper} {rest : List Oper} {o : Oper} {a : Act} {Q : Exit → Act → World → Prop} (hgd : o.guard = none) (x y : Operand) (ho : o.op = .call { callee := .builtin .append, args := #[x, y], argTypes := #[33, 33] })
    (w0 : World) (hw : w = w0.alloc (.cells #[.int .i64 (readD s (m : Nat)).2] 3)) (hN : N ≤ w0.heap.size) (hx : a.eval x = v) (hy : a.eval y = .slice (some ⟨w0.heap.size, 0, none⟩) 1 1) (h : Errs N s w0 v m) (hm : m ≤ 6)
    (hK : ∀ v' w', Errs N s w' v' (m + 1) → w.grownBy w' v.ownBlock → (∀ g, v.ownBlock = some g → N ≤ g ∧ ∃ c, w.heap[g]? = some (.cells c 3 (0, 0))) → wpList Try.prog ops Q rest (a.put o.dst v') w') : wpList Try.prog ops Q (o :: rest) a w := by
  obtain ⟨i0, hi, hz0, hz1, hz2⟩ := info_parts Try.infoI
  have hb : Below w0.heap.size w0 w := by rw [hw]; exact (Below.refl _ w0).alloc (Nat.le_refl _) _
  have h1 : w.ownsRow N 3 1 v m (errsV s m) := h.later hb
  refine wpList_append_own w hgd x y 33 ho N 3 i0 (.int .i64 0) 1 8 Try.underlying33 hi hz0 hz1 hz2 rfl (by decide) v m _ hx h1 ⟨w0.heap.size, 0, none⟩ 1 1 [.int .i64 (readD s (m : Nat)).2] hy rfl (by rw [hw]; exact one_cell w0 _ _) (fun u hu => by simp at hu; rw [hu]; rfl) (by unfold maxLen; omega) (by omega) (Nat.le_trans hN hb.size) ?_
  intro v' w' r1 r2 _
  refine hK v' w' (by unfold Errs; rw [errsV_succ]; exact r1) r2 (fun g hg => ?_)
  obtain ⟨c, q1, q2⟩ := ownBlock_cells h1 hg
  exact ⟨q2, c, q1⟩
theorem ownsRow_chg {e n : Nat} {xs : List Value} {F : List Nat} (h : w.ownsRow N e 1 v n xs) (hc : Chg F w w') (hF : ∀ g ∈ F, g < N) : w'.ownsRow N e 1 v n xs := by
  refine ⟨h.1, ?_⟩
  rcases h.2 with h0 | ⟨g, cap, cur, e1, h1, h2, h3⟩
  · exact Or.inl h0
  · exact Or.inr ⟨g, cap, cur, e1, h1, (hc.block g (Array.getElem?_eq_some_iff.1 h2).1 (fun hm => absurd (hF g hm) (by omega))).trans h2, h3⟩
theorem Was.chg {F : List Nat} (h : Was N s w v m) (hc : Chg F w w') (hF : ∀ g ∈ F, g < N) : Was N s w' v m := by
  obtain ⟨ws, h1, h2⟩ := h
  exact ⟨ws, ownsRow_chg h1 hc hF, fun j hj => by obtain ⟨u, e, o⟩ := h2 j hj; exact ⟨u, e, o.1, ownsRow_chg o.2 hc hF⟩⟩
theorem Errs.chg {F : List Nat} (h : Errs N s w v m) (hc : Chg F w w') (hF : ∀ g ∈ F, g < N) : Errs N s w' v m := ownsRow_chg h hc hF
theorem Was.nil (N : Nat) (s : DSt) (w : World) : Was N s w (.slice none 0 0) 0 := ⟨[], World.ownsRow_nil _ _ _ _, fun j hj => absurd hj (by omega)⟩
theorem Errs.nil (N : Nat) (s : DSt) (w : World) : Errs N s w (.slice none 0 0) 0 := World.ownsRow_nil _ _ _ _
theorem Dk.alien {F : List Nat} {D : Nat} (h : Dk w F D s) {row : Option Nat} (hg : w.grownBy w' row) (ha : ∀ g, row = some g → Alien w g) : Dk w' F D s := by
  obtain ⟨B, M, Dm, V, C, h⟩ := h
  exact ⟨B, M, Dm, V, C, h.alien hg ha⟩
theorem Dk.read {F : List Nat} {D : Nat} (h : Dk w F D s) (i : Int) :
    Calls Try.prog 16 #[.pointer (some ⟨D, 0, none⟩), .int .i64 i] w fun x w' => ∃ v, x = .returned (.tuple #[v, .int .i64 (readD s i).2]) ∧ Own w' w.heap.size v (readD s i).1 ∧ Dk w' F D s ∧ Below w.heap.size w w' := by
  have h0 := h
  obtain ⟨B, M, Dm, V, C, h⟩ := h
  refine (read_pic h i).mono ?_
  rintro x w' ⟨v, rfl, ho, hb⟩
  exact ⟨v, rfl, ho, h0.below hb, hb⟩
/-- A crash whose choices lie below N, where all that the disk has lies from N on. -/
theorem Dk.crash {F : List Nat} {D : Nat} (h : Dk w F D s) (hF : ∀ g ∈ F, N ≤ g) (ad : Option Addr) (len cap : Nat) (cs : List Int) (ha : IArg w cs ad len) (hn : ∀ b off, ad = some ⟨b, off, none⟩ → len ≠ 0 → b < N) :
    Calls Try.prog 15 #[.pointer (some ⟨D, 0, none⟩), .slice ad len cap] w fun x w' => x = .returned (.tuple #[]) ∧ Moved Dk F D (crashD s cs) w w' := by
  obtain ⟨B, M, Dm, V, C, h⟩ := h
  refine crash_pic h ad len cap cs ha (fun b off e e2 hm => ?_)
  have := hF b hm
  have := hn b off e e2
  omega
/-- The six texts, as they are loaded. -/
theorem Was.form (h : Was N s w v 6) : ∃ g cap, v = .slice (some ⟨g, 0, none⟩) 6 cap ∧ ∀ W, Below w.heap.size w W → ∀ j, j < 6 → ∃ p c, W.cell? ⟨g, j, none⟩ = some (.slice p (readD s (j : Nat)).1.length c) ∧ (convert 32 9 (.slice p (readD s (j : Nat)).1.length c)).run Try.prog W = .ok (.string (bstr (readD s (j : Nat)).1)) W := by
  obtain ⟨ws, h1, h2⟩ := h
  rcases h1.2 with ⟨_, h0⟩ | ⟨g, cap, cur, e1, q1, q2, q3, q4, q5, q6⟩
  · omega
  · refine ⟨g, cap, e1, fun W hW j hj => ?_⟩
    obtain ⟨u, e, o⟩ := h2 j hj
    obtain ⟨p, c, hu, hp, -⟩ := (o.later hW).slice _ rfl
    refine ⟨p, c, ?_, conv_any hp.2.2 _ c hp.1⟩
    have hb : W.heap[g]? = some (.cells cur 32 (0, 0)) := (hW.block g (Array.getElem?_eq_some_iff.1 q2).1).trans q2
    rw [cell_of_row _ _ _ _ _ _ hb, ← Array.getElem?_toList, ← hu, ← e, ← q6, List.getElem?_take, if_pos (by omega)]
theorem Errs.form (h : Errs N s w v 6) : ∃ g cap, v = .slice (some ⟨g, 0, none⟩) 6 cap ∧ ∀ W, Below w.heap.size w W → ∀ j, j < 6 → W.cell? ⟨g, j, none⟩ = some (.int .i64 (readD s (j : Nat)).2) := by
  rcases h.2 with ⟨_, h0⟩ | ⟨g, cap, cur, e1, q1, q2, q3, q4, q5, q6⟩
  · omega
  · refine ⟨g, cap, e1, fun W hW j hj => ?_⟩
    have hb : W.heap[g]? = some (.cells cur 3 (0, 0)) := (hW.block g (Array.getElem?_eq_some_iff.1 q2).1).trans q2
    have e : (cur.toList.take (6 * 1))[j]? = (errsV s 6)[j]? := by rw [q6]
    rw [List.getElem?_take, if_pos (by omega)] at e
    rw [cell_of_row _ _ _ _ _ _ hb, ← Array.getElem?_toList, e]
    unfold errsV
    rw [List.getElem?_map, List.getElem?_range hj]
    rfl
end Go.Proofs.Ytdcgokkbmplihaa

/- The document's disk (package ref03) in memory; its operation and Cut. -/
namespace Go.Proofs.Ytdcgokkbmplihaa
open Go.RowKit

/-- v is a slice of the texts vs. -/
def VRow (w : World) (G : List Nat) (v : Value) (vs : List (List Nat)) : Prop := ∃ ws, w.ownsRow 0 32 1 v vs.length ws ∧ ∀ j, j < vs.length → ∃ u, ws[j]? = some u ∧ Own w 0 u (vs.getD j []) ∧ ∀ g, u.ownBlock = some g → g ∈ G
structure RPic (w : World) (G : List Nat) (R L cap : Nat) (T V : Nat → Value) (s : DSt) : Prop where
  n1 : 1 ≤ s.bs.length
  n2 : s.bs.length ≤ 4096
  ok : s.ok
  top : s.fuse ≤ 9223372036854775807
  hR : w.heap[R]? = some (.cells #[.slice (some ⟨L, 0, none⟩) s.bs.length cap, .bool s.off, .int .i64 s.fuse] 58 (0, 0))
  hL : ∃ cur : Array Value, w.heap[L]? = some (.cells cur 60 (0, 0)) ∧ cur.size = cap * 3 ∧ s.bs.length ≤ cap ∧ ∀ i, i < s.bs.length → cur[i * 3]? = some (T i) ∧ cur[i * 3 + 1]? = some (.bool (s.at i).dur.isNone) ∧ cur[i * 3 + 2]? = some (V i)
  txt : ∀ i, i < s.bs.length → ∀ t, (s.at i).dur = some t → Own w 0 (T i) t
  bad : ∀ i, i < s.bs.length → (s.at i).dur = none → T i = .slice none 0 0
  ver : ∀ i, i < s.bs.length → VRow w G (V i) (s.at i).vs
  apart : ∀ i j, i < s.bs.length → j < s.bs.length → i ≠ j → ∀ g, (V i).ownBlock = some g → (V j).ownBlock ≠ some g
  mR : R ∈ G
  mL : L ∈ G
  mT : ∀ i, i < s.bs.length → ∀ g, (T i).ownBlock = some g → g ∈ G
  mV : ∀ i, i < s.bs.length → ∀ g, (V i).ownBlock = some g → g ∈ G
  lt : ∀ g ∈ G, g < w.heap.size
def Rk (w : World) (G : List Nat) (R : Nat) (s : DSt) : Prop := ∃ L cap T V, RPic w G R L cap T V s
variable {w w' : World} {G : List Nat} {R L cap : Nat} {T V : Nat → Value} {s : DSt}
theorem row_keep {N e n : Nat} {v : Value} {xs : List Value} (h : w.ownsRow N e 1 v n xs) (hk : ∀ g, v.ownBlock = some g → w'.heap[g]? = w.heap[g]?) : w'.ownsRow N e 1 v n xs := by
  refine ⟨h.1, ?_⟩
  rcases h.2 with h0 | ⟨g, c, cur, e1, h1, h2, h3⟩
  · exact Or.inl h0
  · subst e1
    exact Or.inr ⟨g, c, cur, rfl, h1, (hk g rfl).trans h2, h3⟩
theorem VRow.keep {v : Value} {vs : List (List Nat)} (h : VRow w G v vs) (hv : ∀ g, v.ownBlock = some g → w'.heap[g]? = w.heap[g]?) (hk : ∀ g ∈ G, (∃ c fr, w.heap[g]? = some (.cells c 5 fr)) → w'.heap[g]? = w.heap[g]?) : VRow w' G v vs := by
  obtain ⟨ws, h1, h2⟩ := h
  refine ⟨ws, row_keep h1 hv, fun j hj => ?_⟩
  obtain ⟨u, e, o, m⟩ := h2 j hj
  refine ⟨u, e, ⟨o.1, row_keep o.2 (fun g hg => hk g (m g hg) ?_)⟩, m⟩
  obtain ⟨c, q, _⟩ := ownBlock_cells o.2 hg
  exact ⟨c, _, q⟩
theorem RPic.keep (h : RPic w G R L cap T V s) (hk : ∀ g ∈ G, w'.heap[g]? = w.heap[g]?) (hs : w.heap.size ≤ w'.heap.size) : RPic w' G R L cap T V s := by
  obtain ⟨cur, l1, l2⟩ := h.hL
  exact ⟨h.n1, h.n2, h.ok, h.top, (hk R h.mR).trans h.hR, ⟨cur, (hk L h.mL).trans l1, l2⟩, fun i hi t ht => ⟨(h.txt i hi t ht).1, row_keep (h.txt i hi t ht).2 (fun g hg => hk g (h.mT i hi g hg))⟩, h.bad, fun i hi => (h.ver i hi).keep (fun g hg => hk g (h.mV i hi g hg)) (fun g hg _ => hk g hg), h.apart, h.mR, h.mL, h.mT, h.mV, fun g hg => Nat.lt_of_lt_of_le (h.lt g hg) hs⟩
theorem RPic.cells (h : RPic w G R L cap T V s) : w.cell? ⟨R, 0, none⟩ = some (.slice (some ⟨L, 0, none⟩) s.bs.length cap) ∧ w.cell? ⟨R, 1, none⟩ = some (.bool s.off) ∧ w.cell? ⟨R, 2, none⟩ = some (.int .i64 s.fuse) := by
  refine ⟨?_, ?_, ?_⟩ <;> (rw [cell_of_row _ _ _ _ _ _ h.hR]; rfl)
theorem RPic.free (h : RPic w G R L cap T V s) (i : Nat) : w.frozen? ⟨R, i, none⟩ = false := by simp [World.frozen?, h.hR]
/-- The struct is written. -/
theorem RPic.set (h : RPic w G R L cap T V s) (off : Bool) (fuse : Int) (hb : Chg [R] w w') (hR : w'.heap[R]? = some (.cells #[.slice (some ⟨L, 0, none⟩) s.bs.length cap, .bool off, .int .i64 fuse] 58 (0, 0))) (h1 : -1 ≤ fuse) (h2 : fuse ≤ 9223372036854775807) : RPic w' G R L cap T V ⟨s.bs, off, fuse⟩ := by
  obtain ⟨cur, l1, l2⟩ := h.hL
  have hk : ∀ g ∈ G, g ≠ R → w'.heap[g]? = w.heap[g]? := fun g hg hne => hb.block g (h.lt g hg) (by simpa using hne)
  have ne : ∀ {g : Nat} {c : Array Value} {e : TypeId} {fr : Nat × Nat}, w.heap[g]? = some (.cells c e fr) → e ≠ 58 → g ≠ R := fun {g c e fr} q he e2 => by
    rw [e2, h.hR] at q
    injection q with q
    injection q with _ q
    exact he q.symm
  refine ⟨h.n1, h.n2, ⟨h.ok.dur, h.ok.vs, h1⟩, h2, hR, ⟨cur, (hk L h.mL (ne l1 (by decide))).trans l1, l2⟩, fun i hi t ht => ?_, h.bad, fun i hi => ?_, h.apart, h.mR, h.mL, h.mT, h.mV, fun g hg => Nat.lt_of_lt_of_le (h.lt g hg) hb.size⟩
  · have o := h.txt i hi t ht
    refine ⟨o.1, row_keep o.2 (fun g hg => ?_)⟩
    obtain ⟨c, q, _⟩ := ownBlock_cells o.2 hg
    exact hk g (h.mT i hi g hg) (ne q (by decide))
  · refine (h.ver i hi).keep (fun g hg => ?_) (fun g hg hc => ?_)
    · obtain ⟨ws, q1, -⟩ := h.ver i hi
      obtain ⟨c, q, _⟩ := ownBlock_cells q1 hg
      exact hk g (h.mV i hi g hg) (ne q (by decide))
    · obtain ⟨c, fr, q⟩ := hc
      exact hk g hg (ne q (by decide))
theorem RPic.set2 (h : RPic w G R L cap T V s) (fuse : Int) : (w.setCell ⟨R, 2, none⟩ (.int .i64 fuse)).heap[R]? = some (.cells #[.slice (some ⟨L, 0, none⟩) s.bs.length cap, .bool s.off, .int .i64 fuse] 58 (0, 0)) := by
  rw [heap_setCell_same w R 2 _ _ _ h.hR]; rfl
theorem RPic.set12 (h : RPic w G R L cap T V s) (off : Bool) (fuse : Int) : ((w.setCell ⟨R, 1, none⟩ (.bool off)).setCell ⟨R, 2, none⟩ (.int .i64 fuse)).heap[R]? = some (.cells #[.slice (some ⟨L, 0, none⟩) s.bs.length cap, .bool off, .int .i64 fuse] 58 (0, 0)) := by
  rw [heap_setCell_same _ R 2 _ _ _ (heap_setCell_same w R 1 _ _ _ h.hR)]; rfl
set_option maxRecDepth 100000 in
set_option maxHeartbeats 1000000 in
theorem refop_any (h : RPic w G R L cap T V s) : Calls Try.prog 42 #[.pointer (some ⟨R, 0, none⟩)] w fun e w' => e = .returned (.bool (opD s).1) ∧ RPic w' G R L cap T V (opD s).2 ∧ Chg [R] w w' := by
  obtain ⟨-, c2, c3⟩ := h.cells
  have f2 := h.free 1
  have f3 := h.free 2
  have hf := h.ok.fuse
  have ht := h.top
  have HP : Hid (RPic w G R L cap T V s) := h
  clear h
  cases hoff : s.off with
  | true =>
    rw [hoff] at c2
    rw [opD_on hoff]
    go_enter Try.func42, Try.ntmps42
    go_wp2
    go_ret
    exact ⟨rfl, HP.out, Chg.refl _ _⟩
  | false =>
    rw [hoff] at c2
    rcases Int.lt_trichotomy s.fuse 0 with h0 | h0 | h0
    · rw [opD_neg hoff h0]
      have hne : (s.fuse == 0) = false := by simp; omega
      go_enter Try.func42, Try.ntmps42
      go_wp2
      go_ret
      exact ⟨rfl, HP.out, Chg.refl _ _⟩
    · rw [h0] at c3
      rw [opD_zero hoff h0]
      go_enter Try.func42, Try.ntmps42
      go_wp2
      go_ret
      have hc : Chg [R] w ((w.setCell ⟨R, 1, none⟩ (.bool true)).setCell ⟨R, 2, none⟩ (.int .i64 (-1))) := ((Chg.refl [R] w).set (Or.inl (by simp)) _ _).set (Or.inl (by simp)) _ _
      exact ⟨rfl, HP.out.set true (-1) hc (HP.out.set12 true (-1)) (by omega) (by omega), hc⟩
    · rw [opD_pos hoff h0]
      have hne : (s.fuse == 0) = false := by simp; omega
      go_enter Try.func42, Try.ntmps42
      go_wp2
      go_ret
      have hc : Chg [R] w (w.setCell ⟨R, 2, none⟩ (.int .i64 (s.fuse - 1))) := (Chg.refl [R] w).set (Or.inl (by simp)) _ _
      exact ⟨rfl, HP.out.set false (s.fuse - 1) hc (by rw [← hoff]; exact HP.out.set2 _) (by omega) (by omega), hc⟩
set_option maxRecDepth 100000 in
set_option maxHeartbeats 1000000 in
theorem refcut_any (h : RPic w G R L cap T V s) (n : Int) (hn : n ≤ 9223372036854775807) : Calls Try.prog 28 #[.pointer (some ⟨R, 0, none⟩), .int .i64 n] w fun e w' => e = .returned (.tuple #[]) ∧ RPic w' G R L cap T V (cutD s n) ∧ Chg [R] w w' := by
  obtain ⟨-, c2, c3⟩ := h.cells
  have f3 := h.free 2
  have H : Hid (RPic w G R L cap T V s) := h
  clear h
  unfold cutD
  cases hoff : s.off with
  | true =>
    rw [hoff] at c2
    go_enter Try.func28, Try.ntmps28
    go_wp2
    exact bodyPost_end (results_none rfl _ _ _) rfl ⟨rfl, H.out, Chg.refl _ _⟩
  | false =>
    rw [hoff] at c2
    go_enter Try.func28, Try.ntmps28
    go_wp2
    all_goals refine bodyPost_end (results_none rfl _ _ _) rfl ⟨rfl, ?_, (Chg.refl [R] w).set (Or.inl (by simp)) _ _⟩
    · have e : max n (-1) = -1 := by omega
      rw [e]
      exact H.out.set false (-1) ((Chg.refl [R] w).set (g := R) (Or.inl (by simp)) 2 (.int .i64 (-1))) (by rw [← hoff]; exact H.out.set2 _) (by omega) (by omega)
    · have e : max n (-1) = n := by omega
      rw [e]
      exact H.out.set false n ((Chg.refl [R] w).set (g := R) (Or.inl (by simp)) 2 (.int .i64 n)) (by rw [← hoff]; exact H.out.set2 _) (by omega) (by omega)
end Go.Proofs.Ytdcgokkbmplihaa

/- Dirty and Read of package ref03. -/
namespace Go.Proofs.Ytdcgokkbmplihaa
open Go.RowKit
variable {w w' : World} {G : List Nat} {R L cap : Nat} {T V : Nat → Value} {s : DSt}

theorem dirtyBs_append (xs ys : List DBlock) : dirtyBs (xs ++ ys) = dirtyBs xs + dirtyBs ys := by
  induction xs with
  | nil => simp [dirtyBs]
  | cons x xs ih => rw [List.cons_append, dirtyBs, dirtyBs, ih]; omega
theorem dirty_take (s : DSt) (m : Nat) (h : m < s.bs.length) : dirtyBs (s.bs.take (m + 1)) = dirtyBs (s.bs.take m) + (if (s.at m).vs = [] then 0 else 1) := by
  rw [List.take_succ_eq_append_getElem h, dirtyBs_append]
  have e : s.at m = s.bs[m] := by unfold DSt.at; rw [List.getD_eq_getElem?_getD, List.getElem?_eq_getElem h]; rfl
  rw [e]
  simp [dirtyBs]
theorem RPic.entry (h : RPic w G R L cap T V s) {i : Nat} (hi : i < s.bs.length) : w.cell? ⟨L, i * 3, none⟩ = some (T i) ∧ w.cell? ⟨L, i * 3 + 1, none⟩ = some (.bool (s.at i).dur.isNone) ∧ w.cell? ⟨L, i * 3 + 2, none⟩ = some (V i) := by
  obtain ⟨cur, l1, _, _, l4⟩ := h.hL
  obtain ⟨q1, q2, q3⟩ := l4 i hi
  refine ⟨?_, ?_, ?_⟩ <;> (rw [cell_of_row _ _ _ _ _ _ l1]; assumption)
theorem VRow.form {v : Value} {vs : List (List Nat)} (h : VRow w G v vs) : ∃ p c, v = .slice p vs.length c ∧ ∀ j, j < vs.length → ∃ g, p = some ⟨g, 0, none⟩ ∧ ∃ q n d, w.cell? ⟨g, j, none⟩ = some (.slice q n d) ∧ Part.ok w ⟨q, n, d, vs.getD j []⟩ := by
  obtain ⟨ws, h1, h2⟩ := h
  rcases h1.2 with ⟨rfl, h0⟩ | ⟨g, c, cur, rfl, q1, q2, q3, q4, q5, q6⟩
  · exact ⟨none, 0, by rw [h0], fun j hj => absurd hj (by omega)⟩
  · refine ⟨some ⟨g, 0, none⟩, c, rfl, fun j hj => ⟨g, rfl, ?_⟩⟩
    obtain ⟨u, e, o, -⟩ := h2 j hj
    obtain ⟨q, d, hu, hp, -⟩ := o.slice _ rfl
    refine ⟨q, _, d, ?_, hp⟩
    rw [cell_of_row _ _ _ _ _ _ q2, ← Array.getElem?_toList, ← hu, ← e, ← q6, List.getElem?_take, if_pos (by omega)]
set_option maxRecDepth 100000 in
set_option maxHeartbeats 1000000 in
theorem refdirty_any (h : RPic w G R L cap T V s) : Calls Try.prog 31 #[.pointer (some ⟨R, 0, none⟩)] w fun e w' => e = .returned (.int .i64 (dirtyD s : Nat)) ∧ w' = w := by
  obtain ⟨c0, -, -⟩ := h.cells
  have hn2 := h.n2
  obtain ⟨cur, _, _, hcap, _⟩ := h.hL
  have HP : Hid (RPic w G R L cap T V s) := h
  obtain ⟨n, hn⟩ : ∃ n, s.bs.length = n := ⟨_, rfl⟩
  have HN : Hid (s.bs.length = n) := hn
  rw [hn] at c0 hcap hn2
  clear h hn
  go_enter Try.func31, Try.ntmps31
  go_wp2_with fail
  go_loopw [3, 4] (fun k i wr => ∃ m : Nat, m ≤ n ∧ i = .int .i64 m ∧ (∃ d : Nat, d ≤ m ∧ k = .int .i64 d ∧ Hid (dirtyBs (s.bs.take m) = d)) ∧ wr = w) (fun _ i _ => n - (intOf i).toNat)
  case atStart => exact ⟨0, by omega, rfl, ⟨0, by omega, rfl, (show Hid (dirtyBs (s.bs.take 0) = 0) from rfl)⟩, rfl⟩
  case round =>
    obtain ⟨m, hm, rfl, ⟨d, hd, rfl, HD⟩, rfl⟩ := hrel
    by_cases hlt : m < n
    · have hml : m < s.bs.length := by rw [HN.out]; exact hlt
      obtain ⟨-, -, e2⟩ := HP.out.entry hml
      obtain ⟨p, c, hV, -⟩ := (HP.out.ver m hml).form
      rw [hV] at e2
      have hs := dirty_take s m hml
      rw [HD.out] at hs
      by_cases hv : (s.at m).vs = []
      · rw [if_pos hv] at hs
        have h1 : dirtyBs (s.bs.take (m + 1)) = d := by omega
        have H1 : Hid (dirtyBs (s.bs.take (m + 1)) = d) := h1
        have h0 : (s.at m).vs.length = 0 := by rw [hv]; rfl
        rw [h0] at e2
        clear hs hV hv h0 HD h1
        go_wp2_with fail
        refine ⟨⟨m + 1, by omega, by go_num, ⟨d, by omega, by first | rfl | trivial, H1⟩, by first | rfl | trivial⟩, by simp [intOf]; omega⟩
      · rw [if_neg hv] at hs
        have H1 : Hid (dirtyBs (s.bs.take (m + 1)) = d + 1) := hs
        obtain ⟨k, hk⟩ : ∃ k, (s.at m).vs.length = k + 1 := ⟨(s.at m).vs.length - 1, by have := List.length_pos_iff.2 hv; omega⟩
        rw [hk] at e2
        clear hs hV hv hk HD
        go_wp2_with fail
        refine ⟨⟨m + 1, by omega, by go_num, ⟨d + 1, by omega, by go_num, H1⟩, by first | rfl | trivial⟩, by simp [intOf]; omega⟩
    · obtain rfl : m = n := by omega
      go_wp2_with fail
      go_ret
      have e : dirtyD s = d := by unfold dirtyD; rw [← HD.out, ← HN.out, List.take_length]
      rw [e]
      exact ⟨rfl, rfl⟩
end Go.Proofs.Ytdcgokkbmplihaa

/- Read of package ref03. -/
namespace Go.Proofs.Ytdcgokkbmplihaa
open Go.RowKit
variable {w w' : World} {G : List Nat} {R L cap : Nat} {T V : Nat → Value} {s : DSt}

theorem two_below (w : World) (o o' : Obj) : Below w.heap.size w ((w.alloc o).alloc o') := ((Below.refl _ w).alloc (Nat.le_refl _) o).alloc (by simp) o'
theorem row_empty (w : World) (o : Obj) : ((w.alloc o).alloc (.cells #[] 5)).ownsRow w.heap.size 5 1 (.slice (some ⟨w.heap.size + 1, 0, none⟩) 0 0) 0 (([] : List Nat).map bv) :=
  ⟨by simp, Or.inr ⟨w.heap.size + 1, 0, #[], rfl, by omega, by have h := heap_alloc_last (w.alloc o) (.cells #[] 5); simpa using h, by omega, by unfold maxLen; omega, by simp, by simp⟩⟩
theorem two_grown {o o' : Obj} {w1 : World} {n c : Nat} (hg : ((w.alloc o).alloc o').grownBy w1 (Value.slice (some ⟨w.heap.size + 1, 0, none⟩) n c).ownBlock) : Below w.heap.size w w1 :=
  (two_below w o o').grown hg (by simp; omega) (fun k hk => by cases hk; exact Nat.le_succ _)
set_option maxRecDepth 100000 in
set_option maxHeartbeats 1000000 in
theorem refread_any (h : RPic w G R L cap T V s) (i : Int) : Calls Try.prog 30 #[.pointer (some ⟨R, 0, none⟩), .int .i64 i] w fun x w' => ∃ v, x = .returned (.tuple #[v, .int .i64 (readD s i).2]) ∧ Own w' w.heap.size v (readD s i).1 ∧ Below w.heap.size w w' := by
  obtain ⟨c0, c1, -⟩ := h.cells
  have hn2 := h.n2
  obtain ⟨cur, _, _, hcap, _⟩ := h.hL
  have hltR := h.lt R h.mR
  have hltL := h.lt L h.mL
  unfold readD
  by_cases hi : s.has i = true
  · obtain ⟨j, hj⟩ : ∃ j : Nat, i = j := ⟨i.toNat, by have := (has_lt hi).1; omega⟩
    subst hj
    have hlt : j < s.bs.length := by have := (has_lt hi).2; omega
    rw [if_pos hi]
    obtain ⟨e0, e1, e2⟩ := h.entry hlt
    obtain ⟨p, c, hV, hvv⟩ := (h.ver j hlt).form
    have HP : Hid (RPic w G R L cap T V s) := h
    have HJ : Hid (j < s.bs.length) := hlt
    clear h hi
    obtain ⟨n, hn⟩ : ∃ n, s.bs.length = n := ⟨_, rfl⟩
    rw [hn] at c0 hcap hn2 hlt
    clear hn
    cases hoff : s.off with
    | true =>
      rw [hoff] at c1
      clear e0 e1 e2 hV hvv
      go_enter Try.func30, Try.ntmps30
      go_wp2
      go_ret2
      exact ⟨_, rfl, Own.nil _ _, Below.refl _ _⟩
    | false =>
      rw [hoff] at c1
      simp only [Bool.false_eq_true, if_false, Int.toNat_natCast]
      rw [hV] at e2
      by_cases hv : (s.at j).vs = []
      · have h0 : (s.at j).vs.length = 0 := by rw [hv]; rfl
        rw [h0] at e2
        have hnow : (s.at j).now = (s.at j).dur := by unfold DBlock.now; rw [if_pos hv]
        rw [hnow]
        clear hV hvv hv h0 hnow
        cases hd : (s.at j).dur with
        | none =>
          rw [HP.out.bad j HJ.out hd] at e0
          rw [hd] at e1
          simp only [Option.isNone] at e1 ⊢
          go_enter Try.func30, Try.ntmps30
          go_wp2
          go_ret2
          exact ⟨_, rfl, Own.nil _ _, (Below.refl _ w).alloc (Nat.le_refl _) _⟩
        | some t =>
          have ho := HP.out.txt j HJ.out t hd
          have ht := HP.out.ok.dur _ (at_mem HJ.out) t hd
          obtain ⟨q, d, hT, hp, -⟩ := ho.slice 256 ht.1
          rw [hT] at e0
          rw [hd] at e1
          simp only [Option.isNone] at e1 ⊢
          have HO : Hid (Part.ok w ⟨q, 256, d, t⟩) := hp
          clear ho hp ht hT hd
          go_enter Try.func30, Try.ntmps30
          go_wp2_with (at_builtin; refine app_any rfl _ _ rfl w.heap.size _ 0 [] rfl (row_empty w _) q 256 d t rfl HO.out.1 HO.out.2.1 (HO.out.later (two_below w _ _)).2.2 (by omega) (by simp; omega) ?_; intro v w1 hown hg)
          go_ret2
          refine ⟨v, rfl, ⟨HO.out.2.2.1, by simpa [HO.out.1] using hown⟩, two_grown hg⟩
      · obtain ⟨k, hk⟩ : ∃ k, (s.at j).vs.length = k + 1 := ⟨(s.at j).vs.length - 1, by have := List.length_pos_iff.2 hv; omega⟩
        obtain ⟨g, rfl, q, n', d, hc, hp⟩ := hvv k (by omega)
        have hmem : (s.at j).vs.getD k [] ∈ (s.at j).vs := by
          rw [List.getD_eq_getElem?_getD, List.getElem?_eq_getElem (by omega)]
          exact List.getElem_mem _
        have ht := HP.out.ok.vs _ (at_mem HJ.out) _ hmem
        have hnow : (s.at j).now = some ((s.at j).vs.getD k []) := by
          unfold DBlock.now
          rw [if_neg hv, List.getLast?_eq_getElem?, List.getD_eq_getElem?_getD, hk, Nat.add_sub_cancel, List.getElem?_eq_getElem (by omega)]
          rfl
        obtain ⟨pT, nT, dT, hT⟩ : ∃ pT nT dT, T j = .slice pT nT dT := by
          cases hd : (s.at j).dur with
          | none => exact ⟨_, _, _, HP.out.bad j HJ.out hd⟩
          | some t => obtain ⟨q, d, hT, -⟩ := (HP.out.txt j HJ.out t hd).slice _ rfl; exact ⟨_, _, _, hT⟩
        obtain ⟨hmax, hkc, hltg⟩ : k < 9223372036854775807 ∧ k + 1 ≤ c ∧ g < w.heap.size := by
          obtain ⟨ws, q1, -⟩ := HP.out.ver j HJ.out
          rw [hV] at q1
          rcases q1.2 with ⟨h1, _⟩ | ⟨g, c, cur, h1, _, h4, h2, h3, _⟩
          · cases h1
          · cases h1
            unfold maxLen at h3
            exact ⟨by omega, by omega, (Array.getElem?_eq_some_iff.1 h4).1⟩
        rw [hT] at e0
        rw [hk] at e2
        rw [hnow]
        generalize (s.at j).vs.getD k [] = t at *
        simp only
        obtain rfl : n' = 256 := by have := hp.1; simp only at this; omega
        have HO : Hid (Part.ok w ⟨q, 256, d, t⟩) := hp
        clear hp ht hT hV hvv hv hk hmem hnow
        go_enter Try.func30, Try.ntmps30
        go_wp2_with (at_builtin; refine app_any rfl _ _ rfl w.heap.size _ 0 [] rfl (row_empty w _) q 256 d t rfl HO.out.1 HO.out.2.1 (HO.out.later (two_below w _ _)).2.2 (by omega) (by simp; omega) ?_; intro v w1 hown hg)
        go_ret2
        refine ⟨v, rfl, ⟨HO.out.2.2.1, by simpa [HO.out.1] using hown⟩, two_grown hg⟩
  · have hi2 : s.has i = false := by simpa using hi
    rw [if_neg hi]
    have hb : i < 0 ∨ (s.bs.length : Int) ≤ i := by
      unfold DSt.has at hi2
      simp at hi2
      omega
    clear h hi hi2
    generalize s.bs.length = n at *
    rcases hb with hb | hb
    · go_enter Try.func30, Try.ntmps30
      go_wp2
      go_ret2
      exact ⟨_, rfl, Own.nil _ _, Below.refl _ _⟩
    · go_enter Try.func30, Try.ntmps30
      go_wp2
      all_goals
        go_ret2
        exact ⟨_, rfl, Own.nil _ _, Below.refl _ _⟩
end Go.Proofs.Ytdcgokkbmplihaa

/- One entry of the document's disk (package ref03) is written. -/
namespace Go.Proofs.Ytdcgokkbmplihaa
open Go.RowKit
variable {w w' : World} {G G' : List Nat} {R L cap : Nat} {T V : Nat → Value} {s : DSt}

def updV (f : Nat → Value) (i : Nat) (v : Value) : Nat → Value := fun j => if j = i then v else f j
theorem updV_same (f : Nat → Value) (i : Nat) (v : Value) : updV f i v i = v := if_pos rfl
theorem updV_other (f : Nat → Value) {i j : Nat} (v : Value) (h : j ≠ i) : updV f i v j = f j := if_neg h
theorem VRow.more {v : Value} {vs : List (List Nat)} (h : VRow w G v vs) (hG : ∀ g ∈ G, g ∈ G') : VRow w G' v vs := by
  obtain ⟨ws, h1, h2⟩ := h
  refine ⟨ws, h1, fun j hj => ?_⟩
  obtain ⟨u, e, o, m⟩ := h2 j hj
  exact ⟨u, e, o, fun g hg => hG g (m g hg)⟩
theorem RPic.setE (h : RPic w G R L cap T V s) {i : Nat} (hi : i < s.bs.length) (x : DBlock) (t v : Value)
    (hk : ∀ g ∈ G, g ≠ L → (V i).ownBlock ≠ some g → w'.heap[g]? = w.heap[g]?)
    (hL : ∃ cur cur' : Array Value, w.heap[L]? = some (.cells cur 60 (0, 0)) ∧ w'.heap[L]? = some (.cells cur' 60 (0, 0)) ∧ cur'.size = cur.size ∧ (∀ k, k < i * 3 ∨ i * 3 + 3 ≤ k → cur'[k]? = cur[k]?) ∧ cur'[i * 3]? = some t ∧ cur'[i * 3 + 1]? = some (.bool x.dur.isNone) ∧ cur'[i * 3 + 2]? = some v)
    (hd : ∀ y, x.dur = some y → y.length = 256 ∧ ∀ z ∈ y, z < 256) (hvs : ∀ y ∈ x.vs, y.length = 256 ∧ ∀ z ∈ y, z < 256)
    (ht : ∀ y, x.dur = some y → Own w' 0 t y) (hb : x.dur = none → t = .slice none 0 0) (hv : VRow w' G' v x.vs)
    (ha : ∀ g, v.ownBlock = some g → (V i).ownBlock = some g ∨ w.heap.size ≤ g)
    (hG : ∀ g ∈ G, g ∈ G') (mt : ∀ g, t.ownBlock = some g → g ∈ G') (mv : ∀ g, v.ownBlock = some g → g ∈ G') (hlt : ∀ g ∈ G', g < w'.heap.size) :
    RPic w' G' R L cap (updV T i t) (updV V i v) (s.setB i x) := by
  have hat : ∀ j, (s.setB i x).at j = if j = i then x else s.at j := fun j => setB_at _ _ _ _ hi
  have hother : ∀ j, j ≠ i → (s.setB i x).at j = s.at j := fun j e => by rw [hat, if_neg e]
  have hsame : (s.setB i x).at i = x := by rw [hat, if_pos rfl]
  obtain ⟨cur, cur', l1, l1', l2, l3, k0, k1, k2⟩ := hL
  obtain ⟨cur0, q1, q2, q3, q4⟩ := h.hL
  obtain rfl : cur0 = cur := by
    rw [l1] at q1
    injection q1 with q1
    injection q1 with q1
    exact q1.symm
  obtain ⟨wsi, vi1, -⟩ := h.ver i hi
  have hVt : ∀ {g : Nat}, (V i).ownBlock = some g → ∃ c, w.heap[g]? = some (.cells c 32 (0, 0)) := fun {g} hg => by
    obtain ⟨c, q, -⟩ := ownBlock_cells vi1 hg
    exact ⟨c, q⟩
  have neL : ∀ {g : Nat} {c : Array Value} {e : TypeId} {fr : Nat × Nat}, w.heap[g]? = some (.cells c e fr) → e ≠ 60 → g ≠ L := fun {g c e fr} q he e2 => by
    rw [e2, l1] at q
    injection q with q
    injection q with _ q
    exact he q.symm
  have neV : ∀ {g : Nat} {c : Array Value} {e : TypeId} {fr : Nat × Nat}, w.heap[g]? = some (.cells c e fr) → e ≠ 32 → (V i).ownBlock ≠ some g := fun {g c e fr} q he e2 => by
    obtain ⟨c2, q2⟩ := hVt e2
    rw [q2] at q
    injection q with q
    injection q with _ q
    exact he q.symm
  refine ⟨by rw [setB_len]; exact h.n1, by rw [setB_len]; exact h.n2, setB_ok h.ok hd hvs, h.top, ?_, ?_, ?_, ?_, ?_, ?_, hG R h.mR, hG L h.mL, ?_, ?_, hlt⟩
  · rw [setB_len, hk R h.mR (neL h.hR (by decide)) (neV h.hR (by decide))]
    exact h.hR
  · refine ⟨cur', l1', by rw [l2]; exact q2, by rw [setB_len]; exact q3, fun j hj => ?_⟩
    rw [setB_len] at hj
    by_cases e : j = i
    · subst e
      rw [hsame, updV_same, updV_same]
      exact ⟨k0, k1, k2⟩
    · rw [hother j e, updV_other _ _ e, updV_other _ _ e, l3 _ (by omega), l3 _ (by omega), l3 _ (by omega)]
      exact q4 j hj
  · intro j hj y hy
    rw [setB_len] at hj
    by_cases e : j = i
    · subst e
      rw [hsame] at hy
      rw [updV_same]
      exact ht y hy
    · rw [hother j e] at hy
      rw [updV_other _ _ e]
      have o := h.txt j hj y hy
      refine ⟨o.1, row_keep o.2 (fun g hg => ?_)⟩
      obtain ⟨c, q, _⟩ := ownBlock_cells o.2 hg
      exact hk g (h.mT j hj g hg) (neL q (by decide)) (neV q (by decide))
  · intro j hj hy
    rw [setB_len] at hj
    by_cases e : j = i
    · subst e
      rw [hsame] at hy
      rw [updV_same]
      exact hb hy
    · rw [hother j e] at hy
      rw [updV_other _ _ e]
      exact h.bad j hj hy
  · intro j hj
    rw [setB_len] at hj
    by_cases e : j = i
    · subst e
      rw [hsame, updV_same]
      exact hv
    · rw [hother j e, updV_other _ _ e]
      refine VRow.more ((h.ver j hj).keep (fun g hg => ?_) (fun g hg hc => ?_)) hG
      · obtain ⟨ws, p1, -⟩ := h.ver j hj
        obtain ⟨c, q, _⟩ := ownBlock_cells p1 hg
        exact hk g (h.mV j hj g hg) (neL q (by decide)) (h.apart j i hj hi e g hg)
      · obtain ⟨c, fr, q⟩ := hc
        exact hk g hg (neL q (by decide)) (neV q (by decide))
  · intro a b ha2 hb2 hab g hg
    rw [setB_len] at ha2 hb2
    by_cases e : a = i
    · subst e
      have e2 : b ≠ a := fun e2 => hab e2.symm
      rw [updV_same] at hg
      rw [updV_other _ _ e2]
      intro hg2
      rcases ha g hg with h1 | h1
      · exact h.apart a b ha2 hb2 hab g h1 hg2
      · have := h.lt g (h.mV b hb2 g hg2); omega
    · rw [updV_other _ _ e] at hg
      by_cases e2 : b = i
      · subst e2
        rw [updV_same]
        intro hg2
        rcases ha g hg2 with h1 | h1
        · exact h.apart a b ha2 hb2 hab g hg h1
        · have := h.lt g (h.mV a ha2 g hg); omega
      · rw [updV_other _ _ e2]
        exact h.apart a b ha2 hb2 hab g hg
  · intro j hj g hg
    rw [setB_len] at hj
    by_cases e : j = i
    · subst e
      rw [updV_same] at hg
      exact mt g hg
    · rw [updV_other _ _ e] at hg
      exact hG g (h.mT j hj g hg)
  · intro j hj g hg
    rw [setB_len] at hj
    by_cases e : j = i
    · subst e
      rw [updV_same] at hg
      exact mv g hg
    · rw [updV_other _ _ e] at hg
      exact hG g (h.mV j hj g hg)
end Go.Proofs.Ytdcgokkbmplihaa

/- Sync and Crash of the document's disk, block by block: plain mathematics. -/
namespace Go.Proofs.Ytdcgokkbmplihaa
open Go.RowKit

theorem drop_at (s : DSt) {m : Nat} (h : m < s.bs.length) : s.bs.drop m = s.at m :: s.bs.drop (m + 1) := by
  rw [List.drop_eq_getElem_cons h]
  congr 1
  unfold DSt.at
  rw [List.getD_eq_getElem?_getD, List.getElem?_eq_getElem h]; rfl
theorem take_at (s : DSt) {m : Nat} (h : m < s.bs.length) : s.bs.take (m + 1) = s.bs.take m ++ [s.at m] := by
  rw [List.take_succ_eq_append_getElem h]
  congr 2
  unfold DSt.at
  rw [List.getD_eq_getElem?_getD, List.getElem?_eq_getElem h]; rfl
theorem set_mid {α : Type} (xs ys : List α) (x y : α) (m : Nat) (h : xs.length = m) : (xs ++ x :: ys).set m y = xs ++ y :: ys := by
  rw [List.set_append_right _ _ (by omega), h, Nat.sub_self]; rfl
theorem getD_mid {α : Type} (xs ys : List α) (x z : α) (m : Nat) (h : xs.length = m) : (xs ++ x :: ys).getD m z = x := by
  rw [List.getD_eq_getElem?_getD, List.getElem?_append_right (by omega), h, Nat.sub_self]; rfl
/-- The first m blocks are synced. -/
def syncP (s : DSt) (m : Nat) : DSt := ⟨(s.bs.take m).map DBlock.sync ++ s.bs.drop m, s.off, s.fuse⟩
theorem syncP_zero (s : DSt) : syncP s 0 = s := by simp [syncP]
theorem syncP_all (s : DSt) : syncP s s.bs.length = ⟨s.bs.map DBlock.sync, s.off, s.fuse⟩ := by simp [syncP]
theorem syncP_len (s : DSt) (m : Nat) : (syncP s m).bs.length = s.bs.length := by simp [syncP]; omega
theorem syncP_at (s : DSt) {m : Nat} (h : m < s.bs.length) : (syncP s m).at m = s.at m := by
  unfold syncP
  rw [drop_at s h]
  exact getD_mid _ _ _ _ m (by simp; omega)
theorem syncP_set (s : DSt) {m : Nat} (h : m < s.bs.length) : syncP s (m + 1) = (syncP s m).setB m (s.at m).sync := by
  unfold syncP DSt.setB
  simp only
  rw [drop_at s h, set_mid _ _ _ _ m (by simp; omega), take_at s h]
  simp
theorem syncP_clean (s : DSt) {m : Nat} (h : m < s.bs.length) (hv : (s.at m).vs = []) : syncP s (m + 1) = syncP s m := by
  unfold syncP
  rw [drop_at s h, take_at s h]
  have e : (s.at m).sync = s.at m := by unfold DBlock.sync; rw [if_pos hv]
  simp [e]
theorem crashBs_append (xs ys : List DBlock) : ∀ cs : List Int, crashBs (xs ++ ys) cs = crashBs xs cs ++ crashBs ys (cs.drop (dirtyBs xs)) := by
  induction xs with
  | nil => intro cs; simp [crashBs, dirtyBs]
  | cons x xs ih =>
    intro cs
    rw [List.cons_append, crashBs, crashBs, dirtyBs]
    by_cases h : x.vs = []
    · rw [if_pos h, if_pos h, if_pos h, ih]
      simp
    · rw [if_neg h, if_neg h, if_neg h, ih]
      have e : cs.tail.drop (dirtyBs xs) = cs.drop (1 + dirtyBs xs) := by rw [← List.drop_one, List.drop_drop]
      rw [e]; rfl
/-- The first m blocks have crashed. -/
def crashP (s : DSt) (cs : List Int) (m : Nat) : DSt := ⟨crashBs (s.bs.take m) cs ++ s.bs.drop m, s.off, s.fuse⟩
theorem crashP_zero (s : DSt) (cs : List Int) : crashP s cs 0 = s := by simp [crashP, crashBs]
theorem crashP_all (s : DSt) (cs : List Int) : crashP s cs s.bs.length = ⟨crashBs s.bs cs, s.off, s.fuse⟩ := by simp [crashP]
theorem crashP_len (s : DSt) (cs : List Int) (m : Nat) : (crashP s cs m).bs.length = s.bs.length := by simp [crashP, crashBs_length]; omega
theorem crashP_at (s : DSt) (cs : List Int) {m : Nat} (h : m < s.bs.length) : (crashP s cs m).at m = s.at m := by
  unfold crashP
  rw [drop_at s h]
  exact getD_mid _ _ _ _ m (by rw [crashBs_length]; simp; omega)
theorem crashP_clean (s : DSt) (cs : List Int) {m : Nat} (h : m < s.bs.length) (hv : (s.at m).vs = []) : crashP s cs (m + 1) = crashP s cs m := by
  unfold crashP
  rw [drop_at s h, take_at s h, crashBs_append]
  simp [crashBs, hv]
theorem crashP_set (s : DSt) (cs : List Int) {m : Nat} (h : m < s.bs.length) (hv : (s.at m).vs ≠ []) : crashP s cs (m + 1) = (crashP s cs m).setB m ((s.at m).crash (cs.getD (dirtyBs (s.bs.take m)) 0)) := by
  unfold crashP DSt.setB
  simp only
  rw [drop_at s h, set_mid _ _ _ _ m (by rw [crashBs_length]; simp; omega), take_at s h, crashBs_append]
  have e : (cs.drop (dirtyBs (s.bs.take m))).headD 0 = cs.getD (dirtyBs (s.bs.take m)) 0 := by
    rw [List.headD_eq_head?_getD, List.head?_drop, List.getD_eq_getElem?_getD]
  simp only [crashBs, if_neg hv, e, List.append_assoc, List.singleton_append]
end Go.Proofs.Ytdcgokkbmplihaa

/- The versions of one block of the document's disk (package ref03) end. -/
namespace Go.Proofs.Ytdcgokkbmplihaa
open Go.RowKit
variable {w w' : World} {G : List Nat} {R L cap : Nat} {T V : Nat → Value} {s : DSt}

theorem VRow.form2 {v : Value} {vs : List (List Nat)} (h : VRow w G v vs) : ∃ p c, v = .slice p vs.length c ∧ (vs ≠ [] → vs.length ≤ c ∧ c ≤ maxLen) ∧ ∀ j, j < vs.length → ∃ g, p = some ⟨g, 0, none⟩ ∧ ∃ q n d, w.cell? ⟨g, j, none⟩ = some (.slice q n d) ∧ Own w 0 (.slice q n d) (vs.getD j []) ∧ ∀ b, (Value.slice q n d).ownBlock = some b → b ∈ G := by
  obtain ⟨ws, h1, h2⟩ := h
  rcases h1.2 with ⟨rfl, h0⟩ | ⟨g, c, cur, rfl, q1, q2, q3, q4, q5, q6⟩
  · exact ⟨none, 0, by rw [h0], fun hn => absurd (List.eq_nil_of_length_eq_zero h0) hn, fun j hj => absurd hj (by omega)⟩
  · refine ⟨some ⟨g, 0, none⟩, c, rfl, fun _ => ⟨q3, q4⟩, fun j hj => ⟨g, rfl, ?_⟩⟩
    obtain ⟨u, e, o, m⟩ := h2 j hj
    obtain ⟨q, d, hu, hp, -⟩ := o.slice _ rfl
    refine ⟨q, _, d, ?_, hu ▸ o, hu ▸ m⟩
    rw [cell_of_row _ _ _ _ _ _ q2, ← Array.getElem?_toList, ← hu, ← e, ← q6, List.getElem?_take, if_pos (by omega)]
theorem RPic.endV (h : RPic w G R L cap T V s) {i : Nat} (hi : i < s.bs.length) (d : Option (List Nat)) (t : Value) (hd : ∀ y, d = some y → y.length = 256 ∧ ∀ z ∈ y, z < 256) (ht : ∀ y, d = some y → Own w 0 t y) (hb : d = none → t = .slice none 0 0) (mt : ∀ g, t.ownBlock = some g → g ∈ G)
    (hc : Chg [L] w w') (hs : w'.heap.size = w.heap.size) (hw : ∃ cur cur' : Array Value, w.heap[L]? = some (.cells cur 60 (0, 0)) ∧ w'.heap[L]? = some (.cells cur' 60 (0, 0)) ∧ cur'.size = cur.size ∧ (∀ k, k < i * 3 ∨ i * 3 + 3 ≤ k → cur'[k]? = cur[k]?) ∧ cur'[i * 3]? = some t ∧ cur'[i * 3 + 1]? = some (.bool d.isNone) ∧ cur'[i * 3 + 2]? = some (.slice none 0 0)) :
    RPic w' G R L cap (updV T i t) (updV V i (.slice none 0 0)) (s.setB i ⟨d, []⟩) := by
  obtain ⟨cur0, l1, -⟩ := h.hL
  have hk : ∀ g ∈ G, g ≠ L → w'.heap[g]? = w.heap[g]? := fun g hg hne => hc.block g (h.lt g hg) (by simpa using hne)
  refine h.setE hi ⟨d, []⟩ t _ (fun g hg hne _ => hk g hg hne) hw hd (fun y hy => by cases hy) (fun y hy => ?_) hb ⟨[], World.ownsRow_nil _ _ _ _, fun j hj => absurd hj (by simp)⟩ (fun g hg => by cases hg) (fun g hg => hg) mt (fun g hg => by cases hg) (fun g hg => by rw [hs]; exact h.lt g hg)
  have o := ht y hy
  refine ⟨o.1, row_keep o.2 (fun g hg => hk g (mt g hg) (fun e => ?_))⟩
  obtain ⟨c, q, _⟩ := ownBlock_cells o.2 hg
  rw [e, l1] at q
  injection q with q
  injection q with _ q
  exact absurd q (by decide)
theorem size_put3 (a b c : Value) (i : Nat) : (((w.setCell ⟨L, i * 3, none⟩ a).setCell ⟨L, i * 3 + 1, none⟩ b).setCell ⟨L, i * 3 + 2, none⟩ c).heap.size = w.heap.size := by simp
theorem put3_row {cur : Array Value} {ty : TypeId} (hL : w.heap[L]? = some (.cells cur ty (0, 0))) (a b c : Value) (i : Nat) (hi : i * 3 + 2 < cur.size) : ∃ cur' : Array Value, (((w.setCell ⟨L, i * 3, none⟩ a).setCell ⟨L, i * 3 + 1, none⟩ b).setCell ⟨L, i * 3 + 2, none⟩ c).heap[L]? = some (.cells cur' ty (0, 0)) ∧ cur'.size = cur.size ∧ (∀ k, k < i * 3 ∨ i * 3 + 3 ≤ k → cur'[k]? = cur[k]?) ∧ cur'[i * 3]? = some a ∧ cur'[i * 3 + 1]? = some b ∧ cur'[i * 3 + 2]? = some c := by
  refine ⟨_, heap_setCell_same _ L _ _ _ _ (heap_setCell_same _ L _ _ _ _ (heap_setCell_same w L _ _ _ _ hL)), by simp, fun k hk => ?_, ?_, ?_, ?_⟩
  · rw [Array.getElem?_setIfInBounds, if_neg (by omega), Array.getElem?_setIfInBounds, if_neg (by omega), Array.getElem?_setIfInBounds, if_neg (by omega)]
  all_goals simp [Array.getElem?_setIfInBounds]
  all_goals omega
end Go.Proofs.Ytdcgokkbmplihaa

/- Sync of package ref03. -/
namespace Go.Proofs.Ytdcgokkbmplihaa
open Go.RowKit
variable {w w' : World} {G : List Nat} {R L cap : Nat} {T V : Nat → Value} {s : DSt}

set_option maxRecDepth 100000 in
set_option maxHeartbeats 1000000 in
theorem refsync_any (h : RPic w G R L cap T V s) : Calls Try.prog 27 #[.pointer (some ⟨R, 0, none⟩)] w fun e w' => e = .returned (.int .i64 (syncD s).1) ∧ (∃ T' V', RPic w' G R L cap T' V' (syncD s).2) ∧ Chg [R, L] w w' := by
  have hop := refop_any h
  have hlen : (opD s).2.bs = s.bs := by unfold opD; split <;> (try split) <;> (try split) <;> rfl
  unfold syncD
  obtain ⟨ok, hok⟩ : ∃ ok, (opD s).1 = ok := ⟨_, rfl⟩
  rw [hok] at hop ⊢
  generalize (opD s).2 = s1 at *
  cases ok with
  | false =>
    go_enter Try.func27, Try.ntmps27
    go_wp2_with (go_at_call 42; refine hop.mono ?_; rintro e w1 ⟨rfl, hr, hc⟩)
    go_ret
    exact ⟨rfl, ⟨T, V, hr⟩, hc.mono (by simp)⟩
  | true =>
    have hn2 := h.n2
    clear h
    obtain ⟨n, hn⟩ : ∃ n, s1.bs.length = n := ⟨_, rfl⟩
    rw [← hlen, hn] at hn2
    have HN : Hid (s1.bs.length = n) := hn
    have HOP : Hid (Calls Try.prog 42 #[.pointer (some ⟨R, 0, none⟩)] w fun e w' => e = .returned (.bool true) ∧ RPic w' G R L cap T V s1 ∧ Chg [R] w w') := hop
    clear hop hlen hok hn
    go_enter Try.func27, Try.ntmps27
    go_wp2_with (go_at_call 42; refine HOP.out.mono ?_; rintro e w1 ⟨rfl, hr, hc⟩; have HR : Hid (RPic w1 G R L cap T V s1 ∧ Chg [R] w w1) := (show Hid _ from ⟨hr, hc⟩); clear hr hc)
    go_loopw [3] (fun i wr => ∃ m : Nat, m ≤ n ∧ i = .int .i64 m ∧ ∃ T' V', Hid (RPic wr G R L cap T' V' (syncP s1 m) ∧ Chg [R, L] w wr)) (fun i _ => n - (intOf i).toNat)
    case atStart => exact ⟨0, by omega, rfl, T, V, (show Hid _ from ⟨by rw [syncP_zero]; exact HR.out.1, HR.out.2.mono (by simp)⟩)⟩
    case round =>
      obtain ⟨m, hm, rfl, T', V', HD⟩ := hrel
      obtain ⟨c0, -, -⟩ := HD.out.1.cells
      obtain ⟨cur, hLb, hcs, hcap, _⟩ := HD.out.1.hL
      rw [syncP_len, HN.out] at c0 hcap
      by_cases hlt : m < n
      · have hml : m < s1.bs.length := by rw [HN.out]; exact hlt
        have hml2 : m < (syncP s1 m).bs.length := by rw [syncP_len]; exact hml
        obtain ⟨e0, e1, e2⟩ := HD.out.1.entry hml2
        obtain ⟨p, c, hV, hcc, hvv⟩ := (HD.out.1.ver m hml2).form2
        rw [syncP_at s1 hml] at hV hvv hcc
        rw [hV] at e2
        by_cases hv : (s1.at m).vs = []
        · have h0 : (s1.at m).vs.length = 0 := by rw [hv]; rfl
          rw [h0] at e2
          have HE : Hid (syncP s1 (m + 1) = syncP s1 m) := syncP_clean s1 hml hv
          clear hcc hV hvv hv h0 e0 e1 hLb hcs hml hml2
          go_wp2_with fail
          refine ⟨⟨m + 1, by omega, by go_num, T', V', (show Hid _ from ⟨by rw [HE.out]; exact HD.out.1, HD.out.2⟩)⟩, by simp [intOf]; omega⟩
        · obtain ⟨k, hk⟩ : ∃ k, (s1.at m).vs.length = k + 1 := ⟨(s1.at m).vs.length - 1, by have := List.length_pos_iff.2 hv; omega⟩
          obtain ⟨hmax, hkc⟩ := hcc hv
          unfold maxLen at hkc
          obtain ⟨g, rfl, q, n', d, hc, ho, hoG⟩ := hvv k (by omega)
          have hlast : (s1.at m).vs.getLast? = some ((s1.at m).vs.getD k []) := by
            rw [List.getLast?_eq_getElem?, List.getD_eq_getElem?_getD, hk, Nat.add_sub_cancel, List.getElem?_eq_getElem (by omega)]
            rfl
          have hsync : (s1.at m).sync = ⟨some ((s1.at m).vs.getD k []), []⟩ := by unfold DBlock.sync; rw [if_neg hv, hlast]
          have hch : Chg [L] wr (((wr.setCell ⟨L, m * 3, none⟩ (.slice q n' d)).setCell ⟨L, m * 3 + 1, none⟩ (.bool false)).setCell ⟨L, m * 3 + 2, none⟩ (.slice none 0 0)) := (((Chg.refl [L] wr).set (Or.inl (by simp)) _ _).set (Or.inl (by simp)) _ _).set (Or.inl (by simp)) _ _
          obtain ⟨cur', p1, p2⟩ := put3_row hLb (.slice q n' d) (.bool false) (.slice none 0 0) m (by rw [hcs]; omega)
          have hend := HD.out.1.endV hml2 (some ((s1.at m).vs.getD k [])) (.slice q n' d) (fun y hy => by
            cases hy
            exact HD.out.1.ok.vs _ (at_mem hml2) _ (by rw [syncP_at s1 hml]; exact getLast_mem hlast)) (fun y hy => by cases hy; exact ho) (fun hn => by cases hn) hoG hch (size_put3 _ _ _ _) ⟨cur, cur', hLb, p1, p2⟩
          rw [← hsync, ← syncP_set s1 hml] at hend
          have HX : Hid (RPic (((wr.setCell ⟨L, m * 3, none⟩ (.slice q n' d)).setCell ⟨L, m * 3 + 1, none⟩ (.bool false)).setCell ⟨L, m * 3 + 2, none⟩ (.slice none 0 0)).drew G R L cap (updV T' m (.slice q n' d)) (updV V' m (.slice none 0 0)) (syncP s1 (m + 1)) ∧ Chg [R, L] w (((wr.setCell ⟨L, m * 3, none⟩ (.slice q n' d)).setCell ⟨L, m * 3 + 1, none⟩ (.bool false)).setCell ⟨L, m * 3 + 2, none⟩ (.slice none 0 0)).drew) :=
            (show Hid _ from ⟨hend.keep (fun _ _ => rfl) (Nat.le_refl _), (HD.out.2.trans hch (by simp)).drew⟩)
          have hfz : ∀ i, wr.frozen? ⟨L, i, none⟩ = false := fun i => by simp [World.frozen?, hLb]
          have f0 := hfz (m * 3)
          have f1 := hfz (m * 3 + 1)
          have f2 := hfz (m * 3 + 2)
          rw [hk] at e2 hmax
          clear hcc hV hvv hv hk ho hoG hlast hsync hch p1 p2 hend hLb hcs hml hml2 hfz cur'
          go_wp2
          have hw1 : IntKind.i64.wrap (k : Int) = (k : Int) := by rw [IntKind.wrap_i64]; omega
          have hw2 : (k : Int) < k + 1 := by omega
          go_region_law (fail)
          all_goals
            go_wp2
            refine ⟨⟨m + 1, by omega, by go_num, _, _, HX⟩, by simp [intOf]; omega⟩
      · obtain rfl : m = n := by omega
        go_wp2_with fail
        go_ret
        refine ⟨rfl, ⟨T', V', ?_⟩, HD.out.2⟩
        have := HD.out.1
        rw [← HN.out, syncP_all] at this
        exact this
end Go.Proofs.Ytdcgokkbmplihaa

/- Crash of package ref03. -/
namespace Go.Proofs.Ytdcgokkbmplihaa
open Go.RowKit
variable {w w' : World} {G : List Nat} {R L cap : Nat} {T V : Nat → Value} {s : DSt}

set_option maxRecDepth 100000 in
set_option maxHeartbeats 1000000 in
theorem refcrash_any (h : RPic w G R L cap T V s) (cs : List Int) (ad : Option Addr) (len cc : Nat) (hcs : IArg w cs ad len) (hna : ∀ b off, ad = some ⟨b, off, none⟩ → len ≠ 0 → b ∉ [L]) (hlen : len ≤ 1073741824) : Calls Try.prog 29 #[.pointer (some ⟨R, 0, none⟩), .slice ad len cc] w fun e w' => e = .returned (.tuple #[]) ∧ (∃ T' V', RPic w' G R L cap T' V' (crashD s cs)) ∧ Chg [R, L] w w' := by
  have hn2 := h.n2
  obtain ⟨n, hn⟩ : ∃ n, s.bs.length = n := ⟨_, rfl⟩
  rw [hn] at hn2
  have HN : Hid (s.bs.length = n) := hn
  have HP : Hid (RPic w G R L cap T V s ∧ IArg w cs ad len) := (show Hid _ from ⟨h, hcs⟩)
  clear h hcs hn
  go_enter Try.func29, Try.ntmps29
  go_wp2_with fail
  go_loopw [4, 5] (fun kv i wr => ∃ m : Nat, m ≤ n ∧ i = .int .i64 m ∧ (∃ e : Nat, e ≤ m ∧ kv = .int .i64 e ∧ Hid (dirtyBs (s.bs.take m) = e)) ∧ ∃ T' V', Hid (RPic wr G R L cap T' V' (crashP s cs m) ∧ Chg [L] w wr)) (fun _ i _ => n - (intOf i).toNat)
  case atStart => exact ⟨0, by omega, rfl, ⟨0, by omega, rfl, (show Hid (dirtyBs (s.bs.take 0) = 0) from rfl)⟩, T, V, (show Hid _ from ⟨by rw [crashP_zero]; exact HP.out.1, Chg.refl _ _⟩)⟩
  case round =>
    obtain ⟨m, hm, rfl, ⟨e, he, rfl, HE⟩, T', V', HD⟩ := hrel
    obtain ⟨c0, -, -⟩ := HD.out.1.cells
    obtain ⟨cur, hLb, hcsz, hcap, hcur⟩ := HD.out.1.hL
    rw [crashP_len, HN.out] at c0 hcap
    by_cases hlt : m < n
    · have hml : m < s.bs.length := by rw [HN.out]; exact hlt
      have hml2 : m < (crashP s cs m).bs.length := by rw [crashP_len]; exact hml
      obtain ⟨e0, e1, e2⟩ := HD.out.1.entry hml2
      obtain ⟨p, c, hV, hcc, hvv⟩ := (HD.out.1.ver m hml2).form2
      rw [crashP_at s cs hml] at hV hvv hcc e1
      rw [hV] at e2
      have hdt := dirty_take s m hml
      rw [HE.out] at hdt
      by_cases hv : (s.at m).vs = []
      · rw [if_pos hv] at hdt
        have HE1 : Hid (dirtyBs (s.bs.take (m + 1)) = e) := (show dirtyBs (s.bs.take (m + 1)) = e by omega)
        have h0 : (s.at m).vs.length = 0 := by rw [hv]; rfl
        rw [h0] at e2
        have HQ : Hid (crashP s cs (m + 1) = crashP s cs m) := crashP_clean s cs hml hv
        clear hcc hV hvv hv h0 e0 e1 hLb hcsz hml hml2 hcur hdt HE
        go_wp2_with fail
        refine ⟨⟨m + 1, by omega, by go_num, ⟨e, by omega, by first | rfl | trivial, HE1⟩, T', V', (show Hid _ from ⟨by rw [HQ.out]; exact HD.out.1, HD.out.2⟩)⟩, by simp [intOf]; omega⟩
      · rw [if_neg hv] at hdt
        have HE1 : Hid (dirtyBs (s.bs.take (m + 1)) = e + 1) := hdt
        obtain ⟨hmax, hkc⟩ := hcc hv
        unfold maxLen at hkc
        have hset := crashP_set s cs hml hv
        rw [HE.out] at hset
        have hfz : ∀ i, wr.frozen? ⟨L, i, none⟩ = false := fun i => by simp [World.frozen?, hLb]
        have f0 := hfz (m * 3)
        have f1 := hfz (m * 3 + 1)
        have f2 := hfz (m * 3 + 2)
        obtain ⟨k, hk⟩ : ∃ k, (s.at m).vs.length = k + 1 := ⟨(s.at m).vs.length - 1, by have := List.length_pos_iff.2 hv; omega⟩
        have HA : Hid (IArg wr cs ad len) := HP.out.2.chg HD.out.2 hna
        have hzero : cs.getD e 0 = 0 → Hid (RPic (wr.setCell ⟨L, m * 3 + 2, none⟩ (.slice none 0 0)) G R L cap (updV T' m (T' m)) (updV V' m (.slice none 0 0)) (crashP s cs (m + 1)) ∧ Chg [L] w (wr.setCell ⟨L, m * 3 + 2, none⟩ (.slice none 0 0))) := fun hc0 => by
          have hch : Chg [L] wr (wr.setCell ⟨L, m * 3 + 2, none⟩ (.slice none 0 0)) := (Chg.refl [L] wr).set (Or.inl (by simp)) _ _
          have q := hcur m hml2
          rw [crashP_at s cs hml] at q
          have hend := HD.out.1.endV (w' := wr.setCell ⟨L, m * 3 + 2, none⟩ (.slice none 0 0)) hml2 (s.at m).dur (T' m) (fun y hy => HD.out.1.ok.dur _ (at_mem hml2) y (by rw [crashP_at s cs hml]; exact hy)) (fun y hy => HD.out.1.txt m hml2 y (by rw [crashP_at s cs hml]; exact hy)) (fun hy => HD.out.1.bad m hml2 (by rw [crashP_at s cs hml]; exact hy)) (HD.out.1.mT m hml2) hch (by simp)
            ⟨cur, _, hLb, heap_setCell_same _ L _ _ _ _ hLb, by simp, fun k hk => by rw [Array.getElem?_setIfInBounds, if_neg (by omega)], by rw [Array.getElem?_setIfInBounds, if_neg (by omega)]; exact q.1, by rw [Array.getElem?_setIfInBounds, if_neg (by omega)]; exact q.2.1, by rw [Array.getElem?_setIfInBounds, if_pos rfl, if_pos (by omega)]⟩
          have hx : (s.at m).crash (cs.getD e 0) = ⟨(s.at m).dur, []⟩ := by unfold DBlock.crash; rw [if_pos hc0]
          rw [← hx, ← hset] at hend
          exact (show Hid _ from ⟨hend, HD.out.2.trans hch (by simp)⟩)
        by_cases hel : e < len
        · obtain ⟨b, off, rfl, hbl, hcell⟩ : ∃ b off, ad = some ⟨b, off, none⟩ ∧ b < wr.heap.size ∧ ∀ i, i < len → wr.cell? ⟨b, off + i, none⟩ = some (.int .i64 (cs.getD i 0)) := by
            rcases HA.out.2 with h0 | h0
            · omega
            · exact h0
          have ce := hcell e hel
          have hrng := HA.out.3 (cs.getD e 0) (by
            have := HA.out.1
            rw [List.getD_eq_getElem?_getD, List.getElem?_eq_getElem (by omega)]
            exact List.getElem_mem _)
          by_cases hc0 : cs.getD e 0 = 0
          · have HZ := hzero hc0
            rw [hc0] at ce
            rw [hk] at e2
            clear hcc hV hvv hv hk e0 e1 hLb hcsz hml hml2 hcur hdt HE hset hfz hzero hc0 hcell hrng
            go_wp2
            refine ⟨⟨m + 1, by omega, by go_num, ⟨e + 1, by omega, by go_num, HE1⟩, _, _, HZ⟩, by simp [intOf]; omega⟩
          · by_cases hin : 0 < cs.getD e 0 ∧ cs.getD e 0 ≤ (s.at m).vs.length
            · obtain ⟨j, hj⟩ : ∃ j : Nat, cs.getD e 0 = j + 1 := ⟨(cs.getD e 0).toNat - 1, by omega⟩
              have hjk : j ≤ k := by have := hin.2; rw [hk, hj] at this; omega
              have hx : (s.at m).crash (cs.getD e 0) = ⟨some ((s.at m).vs.getD j []), []⟩ := by
                unfold DBlock.crash
                rw [if_neg hc0, if_pos hin, hj]
                rfl
              obtain ⟨g, rfl, q, n', d, hc, ho, hoG⟩ := hvv j (by omega)
              have hch : Chg [L] wr (((wr.setCell ⟨L, m * 3, none⟩ (.slice q n' d)).setCell ⟨L, m * 3 + 1, none⟩ (.bool false)).setCell ⟨L, m * 3 + 2, none⟩ (.slice none 0 0)) := (((Chg.refl [L] wr).set (Or.inl (by simp)) _ _).set (Or.inl (by simp)) _ _).set (Or.inl (by simp)) _ _
              obtain ⟨cur', p1, p2⟩ := put3_row hLb (.slice q n' d) (.bool false) (.slice none 0 0) m (by rw [hcsz]; omega)
              have hend := HD.out.1.endV hml2 (some ((s.at m).vs.getD j [])) (.slice q n' d) (fun y hy => by
                cases hy
                refine HD.out.1.ok.vs _ (at_mem hml2) _ ?_
                rw [crashP_at s cs hml, List.getD_eq_getElem?_getD, List.getElem?_eq_getElem (by omega)]
                exact List.getElem_mem _) (fun y hy => by cases hy; exact ho) (fun hn => by cases hn) hoG hch (size_put3 _ _ _ _) ⟨cur, cur', hLb, p1, p2⟩
              rw [← hx, ← hset] at hend
              have HX : Hid (RPic _ G R L cap (updV T' m (.slice q n' d)) (updV V' m (.slice none 0 0)) (crashP s cs (m + 1)) ∧ Chg [L] w _) := (show Hid _ from ⟨hend, HD.out.2.trans hch (by simp)⟩)
              rw [hj] at ce
              rw [hk] at e2 hmax
              clear hcc hV hvv hv hk ho hoG hch p1 p2 hend hLb hcsz hml hml2 hcur hdt HE hset hfz hzero hc0 hcell hrng hin hj hx cur'
              have hz : (((j : Int) + 1) == 0) = false := by simp; omega
              go_wp2
              refine ⟨⟨m + 1, by omega, by go_num, ⟨e + 1, by omega, by go_num, HE1⟩, _, _, HX⟩, by simp [intOf]; omega⟩
            · have hx : (s.at m).crash (cs.getD e 0) = ⟨none, []⟩ := by
                unfold DBlock.crash
                rw [if_neg hc0, if_neg hin]
              have hch : Chg [L] wr (((wr.setCell ⟨L, m * 3, none⟩ (.slice none 0 0)).setCell ⟨L, m * 3 + 1, none⟩ (.bool true)).setCell ⟨L, m * 3 + 2, none⟩ (.slice none 0 0)) := (((Chg.refl [L] wr).set (Or.inl (by simp)) _ _).set (Or.inl (by simp)) _ _).set (Or.inl (by simp)) _ _
              obtain ⟨cur', p1, p2⟩ := put3_row hLb (.slice none 0 0) (.bool true) (.slice none 0 0) m (by rw [hcsz]; omega)
              have hend := HD.out.1.endV hml2 none (.slice none 0 0) (fun y hy => by cases hy) (fun y hy => by cases hy) (fun _ => rfl) (fun g hg => by cases hg) hch (size_put3 _ _ _ _) ⟨cur, cur', hLb, p1, p2⟩
              rw [← hx, ← hset] at hend
              have HX : Hid (RPic _ G R L cap (updV T' m (.slice none 0 0)) (updV V' m (.slice none 0 0)) (crashP s cs (m + 1)) ∧ Chg [L] w _) := (show Hid _ from ⟨hend, HD.out.2.trans hch (by simp)⟩)
              rw [hk] at e2 hmax hin
              generalize hcv : cs.getD e 0 = cv at *
              have hz : (cv == 0) = false := by simpa using hc0
              clear hcc hV hvv hv hk hch p1 p2 hend hLb hcsz hml hml2 hcur hdt HE hset hfz hzero hcell hx cur' hcv
              by_cases hpos : 0 < cv
              · have hbig : ((k + 1 : Nat) : Int) < cv := by omega
                go_wp2
                refine ⟨⟨m + 1, by omega, by go_num, ⟨e + 1, by omega, by go_num, HE1⟩, _, _, HX⟩, by simp [intOf]; omega⟩
              · have hneg2 : cv < 0 := by omega
                go_wp2
                refine ⟨⟨m + 1, by omega, by go_num, ⟨e + 1, by omega, by go_num, HE1⟩, _, _, HX⟩, by simp [intOf]; omega⟩
        · have hc0 : cs.getD e 0 = 0 := by
            have := HA.out.1
            rw [List.getD_eq_getElem?_getD, List.getElem?_eq_none (by omega)]; rfl
          have HZ := hzero hc0
          rw [hk] at e2
          clear hcc hV hvv hv hk e0 e1 hLb hcsz hml hml2 hcur hdt HE hset hfz hzero hc0
          go_wp2
          refine ⟨⟨m + 1, by omega, by go_num, ⟨e + 1, by omega, by go_num, HE1⟩, _, _, HZ⟩, by simp [intOf]; omega⟩
    · obtain rfl : m = n := by omega
      obtain ⟨-, c1, c2⟩ := HD.out.1.cells
      have g1 := HD.out.1.free 1
      have g2 := HD.out.1.free 2
      clear hLb hcsz hcap hcur HE
      go_wp2
      have hch : Chg [R, L] w ((wr.setCell ⟨R, 1, none⟩ (.bool false)).setCell ⟨R, 2, none⟩ (.int .i64 (-1))) := ((HD.out.2.mono (by simp)).set (Or.inl (by simp)) _ _).set (Or.inl (by simp)) _ _
      have hch2 : Chg [R] wr ((wr.setCell ⟨R, 1, none⟩ (.bool false)).setCell ⟨R, 2, none⟩ (.int .i64 (-1))) := ((Chg.refl [R] wr).set (Or.inl (by simp)) _ _).set (Or.inl (by simp)) _ _
      refine bodyPost_end (results_none rfl _ _ _) rfl ⟨rfl, ⟨T', V', ?_⟩, hch⟩
      have hq := HD.out.1.set false (-1) hch2 (HD.out.1.set12 false (-1)) (by omega) (by omega)
      have e3 : (crashP s cs m).bs = crashBs s.bs cs := by rw [← HN.out, crashP_all]
      rw [e3] at hq
      exact hq
end Go.Proofs.Ytdcgokkbmplihaa

/- What was written and synced, and not written since: the disk's side in plain mathematics; the three tables of DiskSynced in memory. -/
namespace Go.Proofs.Ytdcgokkbmplihaa
open Go.RowKit

/-- What the tables say of the disk: last is what is read now; what is not dirty is durable as sure says. -/
structure Sy (s : DSt) (m : Nat) (su la : Nat → Nat) (d : Nat → Bool) : Prop where
  fr : Fr s m
  now : ∀ j, j < 6 → (s.at j).now = some (fullN (la j))
  sure : ∀ j, j < 6 → d j = false → (s.at j).vs = [] ∧ su j = la j
variable {s : DSt} {m : Nat} {su la : Nat → Nat} {d : Nat → Bool}
theorem sy_start : Sy (newD 6) 0 (fun _ => 0) (fun _ => 0) (fun _ => false) :=
  ⟨fr_start, fun j _ => by rw [new_at]; rfl, fun j _ _ => ⟨by rw [new_at]; rfl, rfl⟩⟩
theorem sy_sync (h : Sy s m su la d) : (syncD s).1 = 0 ∧ Sy (syncD s).2 (m + 1) la la (fun _ => false) := by
  refine ⟨(fr_sync h.fr).1, (fr_sync h.fr).2, fun j hj => ?_, fun j hj _ => ⟨?_, rfl⟩⟩
  · rw [syncD_free h.fr.free, sync_at, sync_now]; exact h.now j hj
  · rw [syncD_free h.fr.free, sync_at, sync_vs]
def updF {α : Type} (f : Nat → α) (i : Nat) (x : α) : Nat → α := fun j => if j = i then x else f j
theorem sy_write (h : Sy s m su la d) (k : Nat) (hk : k < 6) (c : Nat) : (writeD s k (fullN c)).1 = 0 ∧ Sy (writeD s k (fullN c)).2 (m + 1) su (updF la k c) (updF d k true) := by
  have hw := fr_write h.fr k hk (fullN c) (fullN_len c)
  have hi : k < s.bs.length := by rw [h.fr.len]; exact hk
  have e := writeD_free h.fr.free hi (fullN_len c)
  refine ⟨hw.1, hw.2, fun j hj => ?_, fun j hj hd => ?_⟩
  · rw [e]
    show ((s.setB k ((s.at k).add (fullN c))).at j).now = _
    rw [setB_at _ _ _ _ hi]
    unfold updF
    by_cases ej : j = k
    · rw [if_pos ej, if_pos ej, add_now]
    · rw [if_neg ej, if_neg ej]; exact h.now j hj
  · unfold updF at hd ⊢
    by_cases ej : j = k
    · rw [if_pos ej] at hd; cases hd
    · rw [if_neg ej] at hd
      rw [if_neg ej, e]
      show ((s.setB k ((s.at k).add (fullN c))).at j).vs = [] ∧ _
      rw [setB_at _ _ _ _ hi, if_neg ej]
      exact h.sure j hj hd
/-- P306, P307: behind a crash. -/
theorem sy_crash (h : Sy s m su la d) (cs : List Int) (j : Nat) (hj : j < 6) (hd : d j = false) : readD (crashD s cs) (j : Nat) = (fullN (su j), 0) := by
  obtain ⟨h1, h2⟩ := h.sure j hj hd
  have h3 := crashBs_at s.bs cs j h1
  refine readD_free rfl (by show j < (crashBs s.bs cs).length; rw [crashBs_length, h.fr.len]; exact hj) ?_
  show ((crashBs s.bs cs).getD j b0).now = _
  rw [h3, h2]
  exact h.now j hj
theorem sy_len (h : Sy s m su la d) : s.upTo m := h.fr.up

/-! ### The tables in memory -/
def tv (t : Nat) : Value := .slice (some ⟨t, 0, none⟩) 256 256
def txtO (c : Nat) : Obj := .cells (verV (fullN c)).toArray 5 (0, 0)
/-- Block g is a table of texts: text j lies in block t j, full of c j, as far as m; none of them is the disk's. -/
structure Tab (w : World) (F : List Nat) (g m : Nat) (t c : Nat → Nat) : Prop where
  blk : ∃ cur : Array Value, w.heap[g]? = some (.cells cur 32 (0, 0)) ∧ cur.size = 6 ∧ ∀ j, j < m → cur[j]? = some (tv (t j))
  out : g ∉ F
  txt : ∀ j, j < m → t j ∉ F ∧ c j < 256 ∧ w.heap[t j]? = some (txtO (c j))
structure Bools (w : World) (F : List Nat) (g : Nat) (d : Nat → Bool) : Prop where
  blk : ∃ cur : Array Value, w.heap[g]? = some (.cells cur 4 (0, 0)) ∧ cur.size = 6 ∧ ∀ j, j < 6 → cur[j]? = some (.bool (d j))
  out : g ∉ F
variable {w w' : World} {F F' : List Nat} {g : Nat} {t c : Nat → Nat}
theorem some_lt {o : Obj} (h : w.heap[g]? = some o) : g < w.heap.size := (Array.getElem?_eq_some_iff.1 h).1
theorem Tab.chg (h : Tab w F g m t c) (hc : Chg F w w') (hF : ∀ k ∈ F', k ∈ F ∨ w.heap.size ≤ k) : Tab w' F' g m t c := by
  obtain ⟨cur, h1, h2, h3⟩ := h.blk
  have ho : ∀ k, k < w.heap.size → k ∉ F → k ∉ F' := fun k hk hn hm => (hF k hm).elim hn (by omega)
  refine ⟨⟨cur, (hc.block g (some_lt h1) h.out).trans h1, h2, h3⟩, ho g (some_lt h1) h.out, fun j hj => ?_⟩
  obtain ⟨q1, q2, q3⟩ := h.txt j hj
  exact ⟨ho _ (some_lt q3) q1, q2, (hc.block _ (some_lt q3) q1).trans q3⟩
theorem Bools.chg (h : Bools w F g d) (hc : Chg F w w') (hF : ∀ k ∈ F', k ∈ F ∨ w.heap.size ≤ k) : Bools w' F' g d := by
  obtain ⟨cur, h1, h2, h3⟩ := h.blk
  exact ⟨⟨cur, (hc.block g (some_lt h1) h.out).trans h1, h2, h3⟩, fun hm => (hF g hm).elim h.out (by have := some_lt h1; omega)⟩
theorem Tab.later (h : Tab w F g m t c) (hb : Below w.heap.size w w') : Tab w' F g m t c := h.chg (Chg.of hb) (fun _ hk => Or.inl hk)
theorem Bools.later (h : Bools w F g d) (hb : Below w.heap.size w w') : Bools w' F g d := h.chg (Chg.of hb) (fun _ hk => Or.inl hk)
theorem Tab.cell (h : Tab w F g m t c) {j : Nat} (hj : j < m) : w.cell? ⟨g, j, none⟩ = some (tv (t j)) := by
  obtain ⟨cur, h1, h2, h3⟩ := h.blk
  rw [cell_of_row _ _ _ _ _ _ h1]; exact h3 j hj
theorem Tab.free (h : Tab w F g m t c) (j : Nat) : w.frozen? ⟨g, j, none⟩ = false := by
  obtain ⟨cur, h1, -⟩ := h.blk
  simp [World.frozen?, h1]
theorem Tab.any (h : Tab w F g m t c) {j : Nat} (hj : j < 6) : ∃ u, w.cell? ⟨g, j, none⟩ = some u := by
  obtain ⟨cur, h1, h2, h3⟩ := h.blk
  rw [cell_of_row _ _ _ _ _ _ h1]
  exact ⟨cur[j]'(by omega), Array.getElem?_eq_getElem (by omega)⟩
theorem Bools.cell (h : Bools w F g d) {j : Nat} (hj : j < 6) : w.cell? ⟨g, j, none⟩ = some (.bool (d j)) := by
  obtain ⟨cur, h1, h2, h3⟩ := h.blk
  rw [cell_of_row _ _ _ _ _ _ h1]; exact h3 j hj
theorem Bools.free (h : Bools w F g d) (j : Nat) : w.frozen? ⟨g, j, none⟩ = false := by
  obtain ⟨cur, h1, -⟩ := h.blk
  simp [World.frozen?, h1]
/-- A cell of another block is written: of unlike type, or another number. -/
theorem Tab.other (h : Tab w F g m t c) {k : Nat} (i : Nat) (u : Value) (hk : ∃ cur e fr, w.heap[k]? = some (.cells cur e fr) ∧ e ≠ 5 ∧ (e ≠ 32 ∨ k ≠ g)) : Tab (w.setCell ⟨k, i, none⟩ u) F g m t c := by
  obtain ⟨kc, e, fr, k1, k2, k3⟩ := hk
  have hg : g ≠ k := fun e2 => by
    rcases k3 with k3 | k3
    · obtain ⟨cur, h1, -⟩ := h.blk
      rw [e2, k1] at h1
      injection h1 with h1
      injection h1 with _ h1
      exact k3 h1
    · exact k3 e2.symm
  obtain ⟨cur, h1, h2, h3⟩ := h.blk
  refine ⟨⟨cur, (heap_setCell_other w ⟨k, i, none⟩ g u hg).trans h1, h2, h3⟩, h.out, fun j hj => ?_⟩
  obtain ⟨q1, q2, q3⟩ := h.txt j hj
  refine ⟨q1, q2, (heap_setCell_other w ⟨k, i, none⟩ (t j) u (fun e2 => ?_)).trans q3⟩
  simp only at e2
  rw [e2, k1] at q3
  injection q3 with q3
  injection q3 with _ q3
  exact k2 q3
theorem Tab.typed (h : Tab w F g m t c) : ∃ cur e fr, w.heap[g]? = some (.cells cur e fr) ∧ e = 32 := by
  obtain ⟨cur, h1, -⟩ := h.blk
  exact ⟨cur, _, _, h1, rfl⟩
theorem Bools.typed (h : Bools w F g d) : ∃ cur, w.heap[g]? = some (.cells cur 4 (0, 0)) := by
  obtain ⟨cur, h1, -⟩ := h.blk
  exact ⟨cur, h1⟩
/-- Text j is another one. -/
theorem Tab.set (h : Tab w F g m t c) {j m' x y : Nat} (hj : j < 6) (hm : m' ≤ m ∨ (m' = m + 1 ∧ j = m)) (hx : x ∉ F) (hy : y < 256) (hb : w.heap[x]? = some (txtO y)) : Tab (w.setCell ⟨g, j, none⟩ (tv x)) F g m' (updF t j x) (updF c j y) := by
  obtain ⟨cur, h1, h2, h3⟩ := h.blk
  have hne : ∀ k, w.heap[k]? = some (txtO y) ∨ (∃ z, w.heap[k]? = some (txtO z)) → k ≠ g := fun k hk e => by
    rw [e, h1] at hk
    rcases hk with hk | ⟨z, hk⟩
    · injection hk with hk; injection hk with _ hk; exact absurd hk (by decide)
    · injection hk with hk; injection hk with _ hk; exact absurd hk (by decide)
  have hlt : ∀ i, i < m' → i ≠ j → i < m := fun i hi hij => by omega
  refine ⟨⟨cur.setIfInBounds j (tv x), by rw [heap_setCell_same w g j cur _ _ h1], by simp [h2], fun i hi => ?_⟩, h.out, fun i hi => ?_⟩
  · unfold updF
    by_cases e : i = j
    · rw [if_pos e, e]; simp [h2, hj]
    · rw [if_neg e, Array.getElem?_setIfInBounds_ne (fun e2 => e e2.symm)]; exact h3 i (hlt i hi e)
  · unfold updF
    by_cases e : i = j
    · rw [if_pos e, if_pos e]
      exact ⟨hx, hy, (heap_setCell_other w ⟨g, j, none⟩ x _ (hne x (Or.inl hb))).trans hb⟩
    · rw [if_neg e, if_neg e]
      obtain ⟨q1, q2, q3⟩ := h.txt i (hlt i hi e)
      exact ⟨q1, q2, (heap_setCell_other w ⟨g, j, none⟩ (t i) _ (hne _ (Or.inr ⟨_, q3⟩))).trans q3⟩
theorem Bools.set (h : Bools w F g d) (j : Nat) (hj : j < 6) (b : Bool) : Bools (w.setCell ⟨g, j, none⟩ (.bool b)) F g (updF d j b) := by
  obtain ⟨cur, h1, h2, h3⟩ := h.blk
  refine ⟨⟨cur.setIfInBounds j (.bool b), by rw [heap_setCell_same w g j cur _ _ h1], by simp [h2], fun i hi => ?_⟩, h.out⟩
  unfold updF
  by_cases e : i = j
  · rw [if_pos e, e]; simp [h2, hj]
  · rw [if_neg e, Array.getElem?_setIfInBounds_ne (fun e2 => e e2.symm)]; exact h3 i hi
theorem Bools.other (h : Bools w F g d) {k : Nat} (i : Nat) (u : Value) (hk : ∃ cur e fr, w.heap[k]? = some (.cells cur e fr) ∧ e = 32) : Bools (w.setCell ⟨k, i, none⟩ u) F g d := by
  obtain ⟨kc, e, fr, k1, k2⟩ := hk
  obtain ⟨cur, h1, h2, h3⟩ := h.blk
  refine ⟨⟨cur, (heap_setCell_other w ⟨k, i, none⟩ g u (fun e2 => ?_)).trans h1, h2, h3⟩, h.out⟩
  simp only at e2
  rw [e2, k1, k2] at h1
  injection h1 with h1
  injection h1 with _ h1
  exact absurd h1 (by decide)
/-- A text of one byte, as its block. -/
theorem own_block {N x y : Nat} (h : Own w N (.slice (some ⟨x, 0, none⟩) 256 256) (fullN y)) : w.heap[x]? = some (txtO y) ∧ N ≤ x := by
  rcases h.2.2 with ⟨e, _⟩ | ⟨g', cap, cur, e, h1, h2, h3, h4, h5, h6⟩
  · cases e
  · injection e with e1 e2 e3
    cases e1
    refine ⟨?_, h1⟩
    rw [h2]
    unfold txtO verV
    rw [fullN_len] at h6
    have hc : cur.size = 256 := by omega
    rw [List.take_of_length_le (by rw [Array.length_toList]; omega)] at h6
    rw [← h6]
end Go.Proofs.Ytdcgokkbmplihaa
