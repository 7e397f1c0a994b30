/- What Write hands on: the bytes become a version more. -/
import Derived.Test.YtofpojfkooigiaaDWrite0
namespace Go.Proofs.Ytofpojfkooigiaa
open Go.RowKit
variable {w w' : World} {F : List Nat} {D B M : Nat} {Dm : DataW Value} {V C : Nat → Nat} {s : DSt}

set_option maxRecDepth 100000 in
set_option maxHeartbeats 2000000 in
theorem write1_pic (h : Pic w F D B M Dm V C s) (i : Nat) (hi : i < s.bs.length) (gb gd gi cap : Nat) (ad : Option Addr) (l : List Nat) (hp : Part.ok w ⟨ad, 256, cap, l⟩)
    (cb : w.cell? ⟨gb, 0, none⟩ = some (.slice ad 256 cap)) (cd : w.cell? ⟨gd, 0, none⟩ = some (.pointer (some ⟨D, 0, none⟩))) (ci : w.cell? ⟨gi, 0, none⟩ = some (.int .i64 (i : Int)))
    (hnd : gd ∉ F) (hni : gi ∉ F) (hfew : (s.at i).vs.length ≤ 1073741824) :
    Calls Try.prog 39 #[.pointer (some ⟨gb, 0, none⟩), .pointer (some ⟨gd, 0, none⟩), .pointer (some ⟨gi, 0, none⟩)] w fun e w' => e = .returned (.tuple #[]) ∧ Moved Dk F D (s.setB i ((s.at i).add l)) w w' := by
  have h256 : (verV l).length = 256 := by unfold verV; rw [List.length_map]; exact hp.1
  have HP : Hid (Pic w F D B M Dm V C s) := h
  have HA : Hid (Part.ok w ⟨ad, 256, cap, l⟩) := hp
  clear h hp
  have lb := block_lt_of_cell cb
  have ld := block_lt_of_cell cd
  have li := block_lt_of_cell ci
  simp only at lb ld li
  have cb1 := (World.cell?_alloc_lt w (.cells Try.zeroCells71 71) ⟨gb, 0, none⟩ lb).trans cb
  have B1 : Hid (Below w.heap.size w (w.alloc (.cells Try.zeroCells71 TB)).drew) := ((Below.refl w.heap.size w).alloc (Nat.le_refl _) _).drew
  go_enter Try.func39, Try.ntmps39
  go_wp2_with fail
  go_region_law (refine step_copy (by rfl) _ _ (by rfl) w.heap.size cap ad l (by rfl) (by rfl) (HA.out.later B1.out) Try.zeroCells71 TB (heap_alloc_last w _) (by rw [zcB]; simp [z256_len]) w.heap.size w B1.out (Nat.le_refl _) ?_; intro w2 hX b2; have HX : Hid (w2.heap[w.heap.size]? = some (.cells (verV l).toArray TB (0, 0))) := hX; have B2 : Hid (Below w.heap.size w w2) := b2; clear hX b2)
  go_wp2_with fail
  have hS0 : w2.drew.cell? ⟨gd, 0, none⟩ = some (.pointer (some ⟨D, 0, none⟩)) ∧ w2.drew.cell? ⟨gi, 0, none⟩ = some (.int .i64 (i : Int)) ∧ w2.drew.cell? ⟨D, 1, none⟩ = some (.map (some M)) ∧ w2.drew.heap[w.heap.size]? = some (.cells (verV l).toArray TB (0, 0)) :=
    ⟨(B2.out.cell (p := ⟨gd, 0, none⟩) ld).trans cd, (B2.out.cell (p := ⟨gi, 0, none⟩) li).trans ci, (HP.out.below B2.out).cells.2.1, HX.out⟩
  refine wp_region_held_drew (S := fun W => W.cell? ⟨gd, 0, none⟩ = some (.pointer (some ⟨D, 0, none⟩)) ∧ W.cell? ⟨gi, 0, none⟩ = some (.int .i64 (i : Int)) ∧ W.cell? ⟨D, 1, none⟩ = some (.map (some M)) ∧ W.heap[w.heap.size]? = some (.cells (verV l).toArray TB (0, 0))) (by kernel_rfl) hS0 (fun hS => ?_)
  refine takeH 0 (.pointer (some ⟨D, 0, none⟩)) ⟨#[.pointer (some ⟨gb, 0, none⟩), .pointer (some ⟨gd, 0, none⟩), .pointer (some ⟨gi, 0, none⟩), .pointer (some ⟨w.heap.size, 0, none⟩), .slice (some ⟨w.heap.size, 0, none⟩) 256 256, .slice ad 256 cap, .int .i64 256, .pointer (some ⟨D, 0, none⟩), undef, undef, undef, undef, undef, undef, undef, undef, undef, undef, undef, undef, undef], []⟩ rfl rfl (by kernel_rfl) (by kernel_rfl) (by kernel_rfl) (fun _ _ _ h => h) rfl ?_ hS ?_
  · intro W hW
    obtain ⟨s1, s2, s3, s4⟩ := hW
    go_simp
  refine takeH 1 (.pointer (some ⟨D, 0, none⟩)) ⟨#[.pointer (some ⟨gb, 0, none⟩), .pointer (some ⟨gd, 0, none⟩), .pointer (some ⟨gi, 0, none⟩), .pointer (some ⟨w.heap.size, 0, none⟩), .slice (some ⟨w.heap.size, 0, none⟩) 256 256, .slice ad 256 cap, .int .i64 256, .pointer (some ⟨D, 0, none⟩), .pointer (some ⟨D, 0, none⟩), undef, undef, undef, undef, undef, undef, undef, undef, undef, undef, undef, undef], []⟩ rfl rfl (by kernel_rfl) (by kernel_rfl) (by kernel_rfl) (fun _ _ _ h => h) rfl ?_ hS ?_
  · intro W hW
    obtain ⟨s1, s2, s3, s4⟩ := hW
    go_simp
  refine takeH 2 (.pointer (some ⟨D, 1, none⟩)) ⟨#[.pointer (some ⟨gb, 0, none⟩), .pointer (some ⟨gd, 0, none⟩), .pointer (some ⟨gi, 0, none⟩), .pointer (some ⟨w.heap.size, 0, none⟩), .slice (some ⟨w.heap.size, 0, none⟩) 256 256, .slice ad 256 cap, .int .i64 256, .pointer (some ⟨D, 0, none⟩), .pointer (some ⟨D, 0, none⟩), .pointer (some ⟨D, 1, none⟩), undef, undef, undef, undef, undef, undef, undef, undef, undef, undef, undef], []⟩ rfl rfl (by kernel_rfl) (by kernel_rfl) (by kernel_rfl) (fun _ _ _ h => h) rfl ?_ hS ?_
  · intro W hW
    obtain ⟨s1, s2, s3, s4⟩ := hW
    go_simp
  refine takeH 3 (.map (some M)) ⟨#[.pointer (some ⟨gb, 0, none⟩), .pointer (some ⟨gd, 0, none⟩), .pointer (some ⟨gi, 0, none⟩), .pointer (some ⟨w.heap.size, 0, none⟩), .slice (some ⟨w.heap.size, 0, none⟩) 256 256, .slice ad 256 cap, .int .i64 256, .pointer (some ⟨D, 0, none⟩), .pointer (some ⟨D, 0, none⟩), .pointer (some ⟨D, 1, none⟩), .map (some M), undef, undef, undef, undef, undef, undef, undef, undef, undef, undef], []⟩ rfl rfl (by kernel_rfl) (by kernel_rfl) (by kernel_rfl) (fun _ _ _ h => h) rfl ?_ hS ?_
  · intro W hW
    obtain ⟨s1, s2, s3, s4⟩ := hW
    go_simp
  refine takeH 4 (.int .i64 (i : Int)) ⟨#[.pointer (some ⟨gb, 0, none⟩), .pointer (some ⟨gd, 0, none⟩), .pointer (some ⟨gi, 0, none⟩), .pointer (some ⟨w.heap.size, 0, none⟩), .slice (some ⟨w.heap.size, 0, none⟩) 256 256, .slice ad 256 cap, .int .i64 256, .pointer (some ⟨D, 0, none⟩), .pointer (some ⟨D, 0, none⟩), .pointer (some ⟨D, 1, none⟩), .map (some M), .int .i64 (i : Int), undef, undef, undef, undef, undef, undef, undef, undef, undef], []⟩ rfl rfl (by kernel_rfl) (by kernel_rfl) (by kernel_rfl) (fun _ _ _ h => h) rfl ?_ hS ?_
  · intro W hW
    obtain ⟨s1, s2, s3, s4⟩ := hW
    go_simp
  refine takeH 5 (.pointer (some ⟨D, 0, none⟩)) ⟨#[.pointer (some ⟨gb, 0, none⟩), .pointer (some ⟨gd, 0, none⟩), .pointer (some ⟨gi, 0, none⟩), .pointer (some ⟨w.heap.size, 0, none⟩), .slice (some ⟨w.heap.size, 0, none⟩) 256 256, .slice ad 256 cap, .int .i64 256, .pointer (some ⟨D, 0, none⟩), .pointer (some ⟨D, 0, none⟩), .pointer (some ⟨D, 1, none⟩), .map (some M), .int .i64 (i : Int), .pointer (some ⟨D, 0, none⟩), undef, undef, undef, undef, undef, undef, undef, undef], []⟩ rfl rfl (by kernel_rfl) (by kernel_rfl) (by kernel_rfl) (fun _ _ _ h => h) rfl ?_ hS ?_
  · intro W hW
    obtain ⟨s1, s2, s3, s4⟩ := hW
    go_simp
  refine takeH 6 (.pointer (some ⟨D, 0, none⟩)) ⟨#[.pointer (some ⟨gb, 0, none⟩), .pointer (some ⟨gd, 0, none⟩), .pointer (some ⟨gi, 0, none⟩), .pointer (some ⟨w.heap.size, 0, none⟩), .slice (some ⟨w.heap.size, 0, none⟩) 256 256, .slice ad 256 cap, .int .i64 256, .pointer (some ⟨D, 0, none⟩), .pointer (some ⟨D, 0, none⟩), .pointer (some ⟨D, 1, none⟩), .map (some M), .int .i64 (i : Int), .pointer (some ⟨D, 0, none⟩), .pointer (some ⟨D, 0, none⟩), undef, undef, undef, undef, undef, undef, undef], []⟩ rfl rfl (by kernel_rfl) (by kernel_rfl) (by kernel_rfl) (fun _ _ _ h => h) rfl ?_ hS ?_
  · intro W hW
    obtain ⟨s1, s2, s3, s4⟩ := hW
    go_simp
  refine takeH 7 (.pointer (some ⟨D, 1, none⟩)) ⟨#[.pointer (some ⟨gb, 0, none⟩), .pointer (some ⟨gd, 0, none⟩), .pointer (some ⟨gi, 0, none⟩), .pointer (some ⟨w.heap.size, 0, none⟩), .slice (some ⟨w.heap.size, 0, none⟩) 256 256, .slice ad 256 cap, .int .i64 256, .pointer (some ⟨D, 0, none⟩), .pointer (some ⟨D, 0, none⟩), .pointer (some ⟨D, 1, none⟩), .map (some M), .int .i64 (i : Int), .pointer (some ⟨D, 0, none⟩), .pointer (some ⟨D, 0, none⟩), .pointer (some ⟨D, 1, none⟩), undef, undef, undef, undef, undef, undef], []⟩ rfl rfl (by kernel_rfl) (by kernel_rfl) (by kernel_rfl) (fun _ _ _ h => h) rfl ?_ hS ?_
  · intro W hW
    obtain ⟨s1, s2, s3, s4⟩ := hW
    go_simp
  refine takeH 8 (.map (some M)) ⟨#[.pointer (some ⟨gb, 0, none⟩), .pointer (some ⟨gd, 0, none⟩), .pointer (some ⟨gi, 0, none⟩), .pointer (some ⟨w.heap.size, 0, none⟩), .slice (some ⟨w.heap.size, 0, none⟩) 256 256, .slice ad 256 cap, .int .i64 256, .pointer (some ⟨D, 0, none⟩), .pointer (some ⟨D, 0, none⟩), .pointer (some ⟨D, 1, none⟩), .map (some M), .int .i64 (i : Int), .pointer (some ⟨D, 0, none⟩), .pointer (some ⟨D, 0, none⟩), .pointer (some ⟨D, 1, none⟩), .map (some M), undef, undef, undef, undef, undef], []⟩ rfl rfl (by kernel_rfl) (by kernel_rfl) (by kernel_rfl) (fun _ _ _ h => h) rfl ?_ hS ?_
  · intro W hW
    obtain ⟨s1, s2, s3, s4⟩ := hW
    go_simp
  refine takeH 9 (.int .i64 (i : Int)) ⟨#[.pointer (some ⟨gb, 0, none⟩), .pointer (some ⟨gd, 0, none⟩), .pointer (some ⟨gi, 0, none⟩), .pointer (some ⟨w.heap.size, 0, none⟩), .slice (some ⟨w.heap.size, 0, none⟩) 256 256, .slice ad 256 cap, .int .i64 256, .pointer (some ⟨D, 0, none⟩), .pointer (some ⟨D, 0, none⟩), .pointer (some ⟨D, 1, none⟩), .map (some M), .int .i64 (i : Int), .pointer (some ⟨D, 0, none⟩), .pointer (some ⟨D, 0, none⟩), .pointer (some ⟨D, 1, none⟩), .map (some M), .int .i64 (i : Int), undef, undef, undef, undef], []⟩ rfl rfl (by kernel_rfl) (by kernel_rfl) (by kernel_rfl) (fun _ _ _ h => h) rfl ?_ hS ?_
  · intro W hW
    obtain ⟨s1, s2, s3, s4⟩ := hW
    go_simp
  refine takeH 11 (.agg (verV l).toArray) ⟨#[.pointer (some ⟨gb, 0, none⟩), .pointer (some ⟨gd, 0, none⟩), .pointer (some ⟨gi, 0, none⟩), .pointer (some ⟨w.heap.size, 0, none⟩), .slice (some ⟨w.heap.size, 0, none⟩) 256 256, .slice ad 256 cap, .int .i64 256, .pointer (some ⟨D, 0, none⟩), .pointer (some ⟨D, 0, none⟩), .pointer (some ⟨D, 1, none⟩), .map (some M), .int .i64 (i : Int), .pointer (some ⟨D, 0, none⟩), .pointer (some ⟨D, 0, none⟩), .pointer (some ⟨D, 1, none⟩), .map (some M), .int .i64 (i : Int), undef, .agg (verV l).toArray, undef, undef], []⟩ rfl rfl (by kernel_rfl) (by kernel_rfl) (by kernel_rfl) (fun _ _ _ h => h) rfl ?_ hS ?_
  · intro W hW
    obtain ⟨s1, s2, s3, s4⟩ := hW
    refine exec_load_wide TB _ rfl _ Try.underlying71 rfl (verV l) (by rw [h256]; exact sizeB) w.heap.size 0 rfl (fun j hj => ?_)
    rw [cell_of_row _ _ _ _ _ _ s4, List.getElem?_toArray, Nat.zero_add]
  have key : ∃ g c w4 w5, (Builtin.append_ #[76, 76] 76 #[verN V C s i, .slice (some ⟨w2.drew.heap.size, 0, none⟩) 1 1]).run Try.prog (w2.drew.alloc (.cells (verV l).toArray TB)) = .ok (.slice (some ⟨g, 0, none⟩) ((s.at i).vs.length + 1) c) w4 ∧
      (Instr.mapUpdate 45 (.map (some M)) (.int .i64 (i : Int)) (.slice (some ⟨g, 0, none⟩) ((s.at i).vs.length + 1) c)).run Try.prog w4 = .ok () w5 ∧
      Moved Dk F D (s.setB i ((s.at i).add l)) w w5 ∧ (∀ k, k < w2.heap.size → k ∉ F → w4.heap[k]? = w2.heap[k]?) ∧ (∀ k, k < w2.heap.size → k ≠ M → k ∉ F ∨ k = D → w5.heap[k]? = w2.heap[k]?) ∧ w4.heap[D]? = w2.heap[D]? := write_key HP.out hi l ⟨HA.out.1, HA.out.2.2.1⟩ B2.out hfew
  obtain ⟨g, c, w4, w5, ha, hu, hm, hk4, hk5, hd4⟩ := key
  have hlook := ((HP.out.below B2.out).below ((Below.refl _ w2).drew)).lookup hi
  have hlook3 := (((HP.out.below B2.out).below ((Below.refl _ w2).drew)).below ((Below.refl _ w2.drew).alloc (Nat.le_refl _) (.cells (verV l).toArray TB))).lookup hi
  have hsz := B2.out.size
  have hXl : w.heap.size < w2.heap.size := (Array.getElem?_eq_some_iff.1 HX.out).1
  have hDl := HP.out.ltD
  have hXF : w.heap.size ∉ F := fun hm2 => absurd (HP.out.lt _ hm2) (by omega)
  have hcell : ∀ {W1 W2 : World} {g : Nat} {k : Nat}, W2.heap[g]? = W1.heap[g]? → W2.cell? ⟨g, k, none⟩ = W1.cell? ⟨g, k, none⟩ := fun {W1 W2 g k} e => by simp only [World.cell?, e]
  have hS3 : (w2.drew.alloc (.cells (verV l).toArray TB)).cell? ⟨gd, 0, none⟩ = some (.pointer (some ⟨D, 0, none⟩)) ∧ (w2.drew.alloc (.cells (verV l).toArray TB)).cell? ⟨gi, 0, none⟩ = some (.int .i64 (i : Int)) ∧ (w2.drew.alloc (.cells (verV l).toArray TB)).cell? ⟨D, 1, none⟩ = some (.map (some M)) ∧ (w2.drew.alloc (.cells (verV l).toArray TB)).heap[w.heap.size]? = some (.cells (verV l).toArray TB (0, 0)) := by
    refine ⟨(hcell (heap_alloc_old _ _ (by simp; omega))).trans hS.1, (hcell (heap_alloc_old _ _ (by simp; omega))).trans hS.2.1, (hcell (heap_alloc_old _ _ (by simp; omega))).trans hS.2.2.1, (heap_alloc_old _ _ (by simp; omega)).trans hS.2.2.2⟩
  have hS4 : w4.cell? ⟨gd, 0, none⟩ = some (.pointer (some ⟨D, 0, none⟩)) ∧ w4.cell? ⟨gi, 0, none⟩ = some (.int .i64 (i : Int)) ∧ w4.cell? ⟨D, 1, none⟩ = some (.map (some M)) ∧ w4.heap[w.heap.size]? = some (.cells (verV l).toArray TB (0, 0)) := by
    refine ⟨(hcell (hk4 gd (by omega) hnd)).trans hS.1, (hcell (hk4 gi (by omega) hni)).trans hS.2.1, (hcell hd4).trans hS.2.2.1, (hk4 _ hXl hXF).trans hS.2.2.2⟩
  have hS5 : w5.cell? ⟨gd, 0, none⟩ = some (.pointer (some ⟨D, 0, none⟩)) ∧ w5.cell? ⟨gi, 0, none⟩ = some (.int .i64 (i : Int)) ∧ w5.cell? ⟨D, 1, none⟩ = some (.map (some M)) ∧ w5.heap[w.heap.size]? = some (.cells (verV l).toArray TB (0, 0)) := by
    have hMF := HP.out.mM
    refine ⟨(hcell (hk5 gd (by omega) (fun e => hnd (by rw [e]; exact hMF)) (Or.inl hnd))).trans hS.1, (hcell (hk5 gi (by omega) (fun e => hni (by rw [e]; exact hMF)) (Or.inl hni))).trans hS.2.1, (hcell (hk5 D (by omega) HP.out.neM.1 (Or.inr rfl))).trans hS.2.2.1, (hk5 _ hXl (fun e => hXF (by rw [e]; exact hMF)) (Or.inl hXF)).trans hS.2.2.2⟩
  refine wpAnyH_ready (rs := [10, 12]) (by kernel_rfl) (by simp) (stepH (verN V C s i) w2.drew ⟨#[.pointer (some ⟨gb, 0, none⟩), .pointer (some ⟨gd, 0, none⟩), .pointer (some ⟨gi, 0, none⟩), .pointer (some ⟨w.heap.size, 0, none⟩), .slice (some ⟨w.heap.size, 0, none⟩) 256 256, .slice ad 256 cap, .int .i64 256, .pointer (some ⟨D, 0, none⟩), .pointer (some ⟨D, 0, none⟩), .pointer (some ⟨D, 1, none⟩), .map (some M), .int .i64 (i : Int), .pointer (some ⟨D, 0, none⟩), .pointer (some ⟨D, 0, none⟩), .pointer (some ⟨D, 1, none⟩), .map (some M), .int .i64 (i : Int), verN V C s i, .agg (verV l).toArray, undef, undef], []⟩ rfl rfl rfl ?_ hS ?_ (stepH (.slice (some ⟨w2.drew.heap.size, 0, none⟩) 1 1) (w2.drew.alloc (.cells (verV l).toArray TB)) ⟨#[.pointer (some ⟨gb, 0, none⟩), .pointer (some ⟨gd, 0, none⟩), .pointer (some ⟨gi, 0, none⟩), .pointer (some ⟨w.heap.size, 0, none⟩), .slice (some ⟨w.heap.size, 0, none⟩) 256 256, .slice ad 256 cap, .int .i64 256, .pointer (some ⟨D, 0, none⟩), .pointer (some ⟨D, 0, none⟩), .pointer (some ⟨D, 1, none⟩), .map (some M), .int .i64 (i : Int), .pointer (some ⟨D, 0, none⟩), .pointer (some ⟨D, 0, none⟩), .pointer (some ⟨D, 1, none⟩), .map (some M), .int .i64 (i : Int), undef, .agg (verV l).toArray, .slice (some ⟨w2.drew.heap.size, 0, none⟩) 1 1, undef], []⟩ rfl rfl rfl ?_ hS3 ?_ AllReadyH.nil))
  · exact exec_lookup (.tmp 15) (.tmp 16) rfl (.map (some M)) (.int .i64 (i : Int)) _ rfl rfl hlook
  · refine wpAnyH_ready (rs := [12]) (by kernel_rfl) (by simp) (stepH (.slice (some ⟨w2.drew.heap.size, 0, none⟩) 1 1) (w2.drew.alloc (.cells (verV l).toArray TB)) ⟨#[.pointer (some ⟨gb, 0, none⟩), .pointer (some ⟨gd, 0, none⟩), .pointer (some ⟨gi, 0, none⟩), .pointer (some ⟨w.heap.size, 0, none⟩), .slice (some ⟨w.heap.size, 0, none⟩) 256 256, .slice ad 256 cap, .int .i64 256, .pointer (some ⟨D, 0, none⟩), .pointer (some ⟨D, 0, none⟩), .pointer (some ⟨D, 1, none⟩), .map (some M), .int .i64 (i : Int), .pointer (some ⟨D, 0, none⟩), .pointer (some ⟨D, 0, none⟩), .pointer (some ⟨D, 1, none⟩), .map (some M), .int .i64 (i : Int), verN V C s i, .agg (verV l).toArray, .slice (some ⟨w2.drew.heap.size, 0, none⟩) 1 1, undef], []⟩ rfl rfl rfl ?_ hS3 ?_ AllReadyH.nil)
    · exact exec_buildSlice (.tmp 18) rfl (verV l) h256 rfl
    refine wpAnyH_ready (rs := [13]) (by kernel_rfl) (by simp) (stepH (.slice (some ⟨g, 0, none⟩) ((s.at i).vs.length + 1) c) w4 ⟨#[.pointer (some ⟨gb, 0, none⟩), .pointer (some ⟨gd, 0, none⟩), .pointer (some ⟨gi, 0, none⟩), .pointer (some ⟨w.heap.size, 0, none⟩), .slice (some ⟨w.heap.size, 0, none⟩) 256 256, .slice ad 256 cap, .int .i64 256, .pointer (some ⟨D, 0, none⟩), .pointer (some ⟨D, 0, none⟩), .pointer (some ⟨D, 1, none⟩), .map (some M), .int .i64 (i : Int), .pointer (some ⟨D, 0, none⟩), .pointer (some ⟨D, 0, none⟩), .pointer (some ⟨D, 1, none⟩), .map (some M), .int .i64 (i : Int), verN V C s i, .agg (verV l).toArray, .slice (some ⟨w2.drew.heap.size, 0, none⟩) 1 1, .slice (some ⟨g, 0, none⟩) ((s.at i).vs.length + 1) c], []⟩ rfl rfl rfl ?_ hS4 ?_ AllReadyH.nil)
    · exact exec_append (.tmp 17) (.tmp 19) rfl (verN V C s i) (.slice (some ⟨w2.drew.heap.size, 0, none⟩) 1 1) _ rfl rfl ha
    refine wpAnyH_ready (rs := [14]) (by kernel_rfl) (by simp) (stepSkipH w5 ⟨#[.pointer (some ⟨gb, 0, none⟩), .pointer (some ⟨gd, 0, none⟩), .pointer (some ⟨gi, 0, none⟩), .pointer (some ⟨w.heap.size, 0, none⟩), .slice (some ⟨w.heap.size, 0, none⟩) 256 256, .slice ad 256 cap, .int .i64 256, .pointer (some ⟨D, 0, none⟩), .pointer (some ⟨D, 0, none⟩), .pointer (some ⟨D, 1, none⟩), .map (some M), .int .i64 (i : Int), .pointer (some ⟨D, 0, none⟩), .pointer (some ⟨D, 0, none⟩), .pointer (some ⟨D, 1, none⟩), .map (some M), .int .i64 (i : Int), verN V C s i, .agg (verV l).toArray, .slice (some ⟨w2.drew.heap.size, 0, none⟩) 1 1, .slice (some ⟨g, 0, none⟩) ((s.at i).vs.length + 1) c], []⟩ rfl rfl rfl ?_ hS5 ?_ AllReadyH.nil)
    · exact exec_update (.tmp 10) (.tmp 11) (.tmp 20) rfl (.map (some M)) (.int .i64 (i : Int)) (.slice (some ⟨g, 0, none⟩) ((s.at i).vs.length + 1) c) rfl rfl rfl hu
    refine wpAnyH_done (by kernel_rfl) ?_ _
    exact bodyPost_end (results_none rfl _ _ _) rfl ⟨rfl, hm⟩
  · exact exec_buildSlice (.tmp 18) rfl (verV l) h256 rfl
  · refine wpAnyH_ready (rs := [10]) (by kernel_rfl) (by simp) (stepH (verN V C s i) (w2.drew.alloc (.cells (verV l).toArray TB)) ⟨#[.pointer (some ⟨gb, 0, none⟩), .pointer (some ⟨gd, 0, none⟩), .pointer (some ⟨gi, 0, none⟩), .pointer (some ⟨w.heap.size, 0, none⟩), .slice (some ⟨w.heap.size, 0, none⟩) 256 256, .slice ad 256 cap, .int .i64 256, .pointer (some ⟨D, 0, none⟩), .pointer (some ⟨D, 0, none⟩), .pointer (some ⟨D, 1, none⟩), .map (some M), .int .i64 (i : Int), .pointer (some ⟨D, 0, none⟩), .pointer (some ⟨D, 0, none⟩), .pointer (some ⟨D, 1, none⟩), .map (some M), .int .i64 (i : Int), verN V C s i, .agg (verV l).toArray, .slice (some ⟨w2.drew.heap.size, 0, none⟩) 1 1, undef], []⟩ rfl rfl rfl ?_ hS3 ?_ AllReadyH.nil)
    · exact exec_lookup (.tmp 15) (.tmp 16) rfl (.map (some M)) (.int .i64 (i : Int)) _ rfl rfl hlook3
    refine wpAnyH_ready (rs := [13]) (by kernel_rfl) (by simp) (stepH (.slice (some ⟨g, 0, none⟩) ((s.at i).vs.length + 1) c) w4 ⟨#[.pointer (some ⟨gb, 0, none⟩), .pointer (some ⟨gd, 0, none⟩), .pointer (some ⟨gi, 0, none⟩), .pointer (some ⟨w.heap.size, 0, none⟩), .slice (some ⟨w.heap.size, 0, none⟩) 256 256, .slice ad 256 cap, .int .i64 256, .pointer (some ⟨D, 0, none⟩), .pointer (some ⟨D, 0, none⟩), .pointer (some ⟨D, 1, none⟩), .map (some M), .int .i64 (i : Int), .pointer (some ⟨D, 0, none⟩), .pointer (some ⟨D, 0, none⟩), .pointer (some ⟨D, 1, none⟩), .map (some M), .int .i64 (i : Int), verN V C s i, .agg (verV l).toArray, .slice (some ⟨w2.drew.heap.size, 0, none⟩) 1 1, .slice (some ⟨g, 0, none⟩) ((s.at i).vs.length + 1) c], []⟩ rfl rfl rfl ?_ hS4 ?_ AllReadyH.nil)
    · exact exec_append (.tmp 17) (.tmp 19) rfl (verN V C s i) (.slice (some ⟨w2.drew.heap.size, 0, none⟩) 1 1) _ rfl rfl ha
    refine wpAnyH_ready (rs := [14]) (by kernel_rfl) (by simp) (stepSkipH w5 ⟨#[.pointer (some ⟨gb, 0, none⟩), .pointer (some ⟨gd, 0, none⟩), .pointer (some ⟨gi, 0, none⟩), .pointer (some ⟨w.heap.size, 0, none⟩), .slice (some ⟨w.heap.size, 0, none⟩) 256 256, .slice ad 256 cap, .int .i64 256, .pointer (some ⟨D, 0, none⟩), .pointer (some ⟨D, 0, none⟩), .pointer (some ⟨D, 1, none⟩), .map (some M), .int .i64 (i : Int), .pointer (some ⟨D, 0, none⟩), .pointer (some ⟨D, 0, none⟩), .pointer (some ⟨D, 1, none⟩), .map (some M), .int .i64 (i : Int), verN V C s i, .agg (verV l).toArray, .slice (some ⟨w2.drew.heap.size, 0, none⟩) 1 1, .slice (some ⟨g, 0, none⟩) ((s.at i).vs.length + 1) c], []⟩ rfl rfl rfl ?_ hS5 ?_ AllReadyH.nil)
    · exact exec_update (.tmp 10) (.tmp 11) (.tmp 20) rfl (.map (some M)) (.int .i64 (i : Int)) (.slice (some ⟨g, 0, none⟩) ((s.at i).vs.length + 1) c) rfl rfl rfl hu
    refine wpAnyH_done (by kernel_rfl) ?_ _
    exact bodyPost_end (results_none rfl _ _ _) rfl ⟨rfl, hm⟩
end Go.Proofs.Ytofpojfkooigiaa
