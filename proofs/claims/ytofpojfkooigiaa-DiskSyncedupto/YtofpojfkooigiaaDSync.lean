/- Sync and Crash of package disk. -/
import Derived.Test.YtofpojfkooigiaaDSettle
namespace Go.Proofs.Ytofpojfkooigiaa
open Go.RowKit
variable {w w' : World} {F : List Nat} {D B M : Nat} {Dm : DataW Value} {V C : Nat → Nat} {s : DSt}

set_option maxRecDepth 100000 in
theorem last_any (W : World) (k n : Nat) : Calls Try.prog 41 #[.int .i64 (k : Int), .int .i64 (n : Int)] W fun e w' => e = .returned (.int .i64 (n : Int)) ∧ w' = W := by
  go_enter Try.func41, Try.ntmps41
  go_wp2
  go_ret
  exact ⟨rfl, rfl⟩
set_option maxRecDepth 100000 in
set_option maxHeartbeats 1000000 in
theorem sync1_pic (h : Pic w F D B M Dm V C s) (gd : Nat) (cd : w.cell? ⟨gd, 0, none⟩ = some (.pointer (some ⟨D, 0, none⟩))) :
    Calls Try.prog 40 #[.pointer (some ⟨gd, 0, none⟩)] w fun e w' => e = .returned (.tuple #[]) ∧ Moved Dk F D ⟨s.bs.map DBlock.sync, s.off, s.fuse⟩ w w' := by
  have hs := settle_s h (fun _ n => (n : Int)) (fun k n hn => by omega) (fun W k n _ => last_any W k n)
  have e : midS (fun _ n => (n : Int)) s (dirtyD s) = ⟨s.bs.map DBlock.sync, s.off, s.fuse⟩ := by
    unfold midS dirtyD
    rw [settle_sync]
  rw [e] at hs
  clear h e
  go_enter Try.func40, Try.ntmps40
  go_wp2_with (go_at_call 33; refine hs.mono ?_; rintro e w2 ⟨rfl, ⟨Dm', hp⟩, hc⟩)
  exact bodyPost_end (results_none rfl _ _ _) rfl ⟨rfl, hp.moved hc⟩
set_option maxRecDepth 100000 in
set_option maxHeartbeats 1000000 in
theorem sync_pic (h : Pic w F D B M Dm V C s) :
    Calls Try.prog 18 #[.pointer (some ⟨D, 0, none⟩)] w fun x w' => x = .returned (.int .i64 (syncD s).1) ∧ Moved Dk F D (syncD s).2 w w' := by
  have b1 : Below w.heap.size w (w.alloc (.cells #[.pointer (some ⟨D, 0, none⟩)] 23)) := (Below.refl w.heap.size w).alloc (Nat.le_refl _) _
  have h1 := h.below b1
  have hm := made_pic h1
  have hop : Calls Try.prog 38 #[.pointer (some ⟨D, 0, none⟩), .func (.func 40) #[] #[.pointer (some ⟨w.heap.size, 0, none⟩)]] (w.alloc (.cells #[.pointer (some ⟨D, 0, none⟩)] 23)) fun x w' => x = .returned (.int .i64 (syncD s).1) ∧ Moved Dk F D (syncD s).2 w w' := by
    have hD := h.ltD
    refine (op_sync h1 _ (fun w' => Moved Dk F D ⟨(opD s).2.bs.map DBlock.sync, (opD s).2.off, (opD s).2.fuse⟩ w w') (fun w2 h0 h2 hc => ?_)).mono ?_
    · refine (sync1_pic h2 w.heap.size ?_).mono ?_
      · rw [hc.cell (by simp) (by simp; omega), cell_of_row _ _ _ _ _ _ (heap_alloc_last w _)]; rfl
      · rintro e w3 ⟨rfl, hm⟩
        exact ⟨rfl, hm.pre ((Chg.of b1).trans (G := [D]) hc (fun k hk => by simp at hk; rw [hk]; exact Or.inl h.mD))⟩
    · unfold syncD
      rintro e w3 (⟨h0, rfl, hm⟩ | ⟨h0, rfl, hm, hc⟩)
      · rw [if_pos h0]
        exact ⟨rfl, hm⟩
      · rw [if_neg (by rw [h0]; simp)]
        exact ⟨rfl, hm.moved ((Chg.of b1).trans (G := [D]) hc (fun k hk => by simp at hk; rw [hk]; exact Or.inl h.mD))⟩
  clear h h1 b1
  go_enter Try.func18, Try.ntmps18
  go_wp2_with (first
    | (go_at_call 32; refine hm.mono ?_; rintro e w' ⟨rfl, hw'⟩; obtain rfl := hw'.symm)
    | (go_at_call 38; refine hop.mono ?_; rintro e w3 ⟨rfl, hmv⟩))
  go_ret
  exact ⟨rfl, hmv⟩
/-- A slice of numbers. -/
structure IArg (w : World) (cs : List Int) (ad : Option Addr) (len : Nat) : Prop where
  len_eq : cs.length = len
  row : len = 0 ∨ ∃ b off, ad = some ⟨b, off, none⟩ ∧ b < w.heap.size ∧ ∀ i, i < len → w.cell? ⟨b, off + i, none⟩ = some (.int .i64 (cs.getD i 0))
  rng : ∀ c ∈ cs, -9223372036854775808 ≤ c ∧ c ≤ 9223372036854775807
theorem IArg.chg {cs : List Int} {ad : Option Addr} {len : Nat} (h : IArg w cs ad len) (hb : Chg F w w') (hn : ∀ b off, ad = some ⟨b, off, none⟩ → len ≠ 0 → b ∉ F) : IArg w' cs ad len := by
  refine ⟨h.1, ?_, h.3⟩
  rcases h.2 with h0 | ⟨b, off, e, hs, hc⟩
  · exact Or.inl h0
  · by_cases h0 : len = 0
    · exact Or.inl h0
    · exact Or.inr ⟨b, off, e, Nat.lt_of_lt_of_le hs hb.size, fun i hi => by rw [hb.cell hs (hn b off e h0)]; exact hc i hi⟩
theorem IArg.later {cs : List Int} {ad : Option Addr} {len : Nat} (h : IArg w cs ad len) (hb : Below w.heap.size w w') : IArg w' cs ad len := h.chg (F := []) (Chg.of hb) (fun _ _ _ _ => by simp)
set_option maxRecDepth 100000 in
set_option maxHeartbeats 1000000 in
theorem choice_any {cs : List Int} {ad : Option Addr} {len cap g : Nat} (W : World) (h : IArg W cs ad len) (cg : W.cell? ⟨g, 0, none⟩ = some (.slice ad len cap)) (k n : Nat) :
    Calls Try.prog 34 #[.int .i64 (k : Int), .int .i64 (n : Int), .pointer (some ⟨g, 0, none⟩)] W fun e w' => e = .returned (.int .i64 (cs.getD k 0)) ∧ w' = W := by
  by_cases hk : k < len
  · obtain ⟨b, off, rfl, -, hc⟩ := h.2.resolve_left (by omega)
    have ck := hc k hk
    clear h hc
    go_enter Try.func34, Try.ntmps34
    go_wp2
    go_ret
    exact ⟨rfl, rfl⟩
  · have e : cs.getD k 0 = 0 := by rw [List.getD_eq_getElem?_getD, List.getElem?_eq_none (by rw [h.1]; omega)]; rfl
    rw [e]
    clear h e
    go_enter Try.func34, Try.ntmps34
    go_wp2
    go_ret
    exact ⟨rfl, rfl⟩
set_option maxRecDepth 100000 in
set_option maxHeartbeats 1000000 in
theorem crash_pic (h : Pic w F D B M Dm V C s) (ad : Option Addr) (len cap : Nat) (cs : List Int) (ha : IArg w cs ad len) (hn : ∀ b off, ad = some ⟨b, off, none⟩ → len ≠ 0 → b ∉ F) :
    Calls Try.prog 15 #[.pointer (some ⟨D, 0, none⟩), .slice ad len cap] w fun x w' => x = .returned (.tuple #[]) ∧ Moved Dk F D (crashD s cs) w w' := by
  have b1 : Below w.heap.size w (w.alloc (.cells #[.slice ad len cap] 33)) := (Below.refl w.heap.size w).alloc (Nat.le_refl _) _
  have h1 := h.below b1
  have hm := made_pic h1
  have hltF := h.lt
  have hrng : ∀ k, -9223372036854775808 ≤ cs.getD k 0 ∧ cs.getD k 0 ≤ 9223372036854775807 := fun k => by
    rw [List.getD_eq_getElem?_getD]
    by_cases hk : k < cs.length
    · rw [List.getElem?_eq_getElem hk]; exact ha.3 _ (List.getElem_mem hk)
    · rw [List.getElem?_eq_none (by omega)]; simp
  have hs := settle_c h1 (.pointer (some ⟨w.heap.size, 0, none⟩)) (fun k _ => cs.getD k 0) (fun k n _ => hrng k) (fun W k n hc => by
    refine choice_any (cap := cap) W ((ha.later b1).chg hc (fun b off e h0 => hn b off e h0)) ?_ k n
    rw [hc.cell (by simp) (fun hh => absurd (hltF _ hh) (by omega)), cell_of_row _ _ _ _ _ _ (heap_alloc_last w _)]; rfl)
  have e : midS (fun k _ => cs.getD k 0) s (dirtyD s) = ⟨crashBs s.bs cs, s.off, s.fuse⟩ := by
    unfold midS dirtyD
    rw [settle_crash _ s.bs 0 cs (fun j n => by rw [Nat.zero_add])]
  rw [e] at hs
  have B1 : Hid (Chg F w (w.alloc (.cells #[.slice ad len cap] 33))) := (show Hid _ from Chg.of b1)
  clear e h h1 hrng hltF ha hn b1
  go_enter Try.func15, Try.ntmps15
  go_wp2_with (first
    | (go_at_call 32; refine hm.mono ?_; rintro e w' ⟨rfl, hw'⟩; obtain rfl := hw'.symm)
    | (go_at_call 33; refine hs.mono ?_; rintro e w2 ⟨rfl, ⟨Dm', hp⟩, hc⟩; have HP : Hid (Pic w2 F D B M Dm' V C ⟨crashBs s.bs cs, s.off, s.fuse⟩) := hp; have HC : Hid (Chg F w w2) := (show Hid _ from B1.out.trans hc (fun k hk => Or.inl hk)); have c2 := hp.cells.2.2.1; have c3 := hp.cells.2.2.2; have f2 := hp.free 2; have f3 := hp.free 3; clear hp hc))
  have hc2 : Chg [D] w2 ((w2.setCell ⟨D, 2, none⟩ (.bool false)).setCell ⟨D, 3, none⟩ (.int .i64 (-1))) := ((Chg.refl [D] w2).set (Or.inl (by simp)) _ _).set (Or.inl (by simp)) _ _
  have hfin := HP.out.set false (-1) hc2 (HP.out.set23 false (-1)) (by omega) (by omega)
  exact bodyPost_end (results_none rfl _ _ _) rfl ⟨rfl, hfin.moved (HC.out.trans hc2 (fun k hk => by simp at hk; rw [hk]; exact Or.inl HP.out.mD))⟩
end Go.Proofs.Ytofpojfkooigiaa
