/- Message of the document's net. -/
import Derived.Test.YtgbjlkaaniaaaaaDoorQLuck
import Derived.Deep.RegionHeld3
namespace Go.Proofs.YtgbjlkaaniaaaaaDoor
open Go.RowKit
variable {w w' : World} {G : List Nat} {R : Nat} {v1 v2 : Value} {luck : List Int} {ms : List QM} {s : NSt}

set_option maxRecDepth 100000 in
set_option maxHeartbeats 2000000 in
theorem qmessage_pic (h : QPic w G R v1 v2 luck ms) (hms : ms.map QM.msg = s.late) (k : Int) :
    Calls Tryd.prog 22 #[.pointer (some ⟨R, 0, none⟩), .int .i64 k] w fun e w' => Tells w w' s k e ∧ Below w.heap.size w w' := by
  have hlen : s.late.length = ms.length := by rw [← hms, List.length_map]
  obtain ⟨-, c1⟩ := h.cells
  obtain ⟨p, cp, hv, hq1, hq2⟩ := h.r2.form
  subst hv
  cases hk : hasD s k with
  | false =>
    have hcase : k < 0 ∨ ((ms.length : Int) ≤ k ∧ 0 ≤ k) := by
      simp [hasD] at hk
      omega
    have HT := hide (tells_no hk w w)
    clear h hk hlen hms
    rcases hcase with hc0 | ⟨hc0, hc1⟩
    all_goals
      go_enter Tryd.func22, Tryd.ntmps22
      go_wp2
      go_ret3
      exact ⟨HT.out, Below.refl _ _⟩
  | true =>
    obtain ⟨n, hn, rfl, hm⟩ := has_yes hk
    have hn2 : n < ms.length := by omega
    obtain ⟨g, o, cap, cur, hv, hg, hn1, hm1, hs, hx, hc⟩ := h.r2.cells (by omega)
    cases hv
    have hq := h.ps _ (List.getElem_mem hn2)
    have hmq : msgD s (n : Int) = ms[n].msg := by
      rw [hm]
      have : s.late[n]? = some (ms[n].msg) := by rw [← hms, List.getElem?_map, List.getElem?_eq_getElem hn2]; rfl
      rw [List.getElem?_eq_getElem hn] at this
      exact Option.some.inj this
    have k0 : w.cell? ⟨g, o + n * 2, none⟩ = some (.int .i64 ms[n].to) := by rw [hc _ (by omega)]; exact (qmsV_get ms n hn2).1
    have k1 : w.cell? ⟨g, o + n * 2 + 1, none⟩ = some (.slice ms[n].p.ad ms[n].p.len ms[n].p.cap) := by rw [Nat.add_assoc, hc _ (by omega)]; exact (qmsV_get ms n hn2).2
    have hRl := h.lt R h.mD
    have hgl := h.lt g (h.m2 g rfl)
    generalize ms[n] = q at *
    obtain ⟨qt, qa, ql, qc, qb⟩ := q
    simp only at k0 k1
    have hpk : Part.ok w ⟨qa, ql, qc, qb⟩ := hq.1
    have HPK := hide hpk
    have hql : ql ≤ 1048576 := hq.2.1
    have HZ : Hid (∀ W, Below w.heap.size w W → W.cell? ⟨R, 1, none⟩ = some (.slice (some ⟨g, o, none⟩) ms.length cp) ∧ W.cell? ⟨g, o + n * 2, none⟩ = some (.int .i64 qt) ∧ W.cell? ⟨g, o + n * 2 + 1, none⟩ = some (.slice qa ql qc)) := fun W hb => ⟨(hb.cell (p := ⟨R, 1, none⟩) hRl).trans c1, (hb.cell (p := ⟨g, o + n * 2, none⟩) hgl).trans k0, (hb.cell (p := ⟨g, o + n * 2 + 1, none⟩) hgl).trans k1⟩
    have HE : Hid ((w.alloc (.cells #[] 5)).drew.ownsRow w.heap.size 5 1 (.slice (some ⟨w.heap.size, 0, none⟩) 0 0) 0 (([] : List Nat).map bv)) := empty_own w.drew w.heap.size (Nat.le_refl _)
    have HR : Hid (Row (w.alloc (.cells #[] 5)).drew qa qb) := (HPK.out.later (((Below.refl _ w).alloc (Nat.le_refl _) _).drew)).2.2
    have HK := hide hk
    have HMQ := hide hmq
    have hnn : (n : Int) < (ms.length : Int) := by omega
    have hm2 : cp ≤ 9223372036854775807 := by unfold maxLen at hm1; omega
    clear h hk hlen hms hm hn hq hmq hx hc hg hs hpk
    go_enter Tryd.func22, Tryd.ntmps22
    go_wp2_with fail
    go_region_held3 (fun W => W.cell? ⟨R, 1, none⟩ = some (.slice (some ⟨g, o, none⟩) ms.length cp) ∧ W.cell? ⟨g, o + n * 2, none⟩ = some (.int .i64 qt) ∧ W.cell? ⟨g, o + n * 2 + 1, none⟩ = some (.slice qa ql qc)) (first | exact HZ.out _ ((Below.refl _ _).drew) | exact HZ.out _ (((Below.refl _ _).alloc (Nat.le_refl _) _).drew) | exact HZ.out _ hw4)
      ((refine step_app_any (by rfl) _ _ (by rfl) w.heap.size (.slice (some ⟨w.heap.size, 0, none⟩) 0 0) 0 [] (by rfl) HE.out qa ql qc qb (by rfl) HPK.out.1 HPK.out.2.1 HR.out (by omega) (by simp) ?_; intro v4 w4 o4 g4; have hw4 : Below w.heap.size w w4 := (((Below.refl _ w).alloc (Nat.le_refl _) _).drew).grown g4 (by simp) (fun k hk => (by simp [Value.ownBlock] at hk; omega)); obtain ⟨p4, c4, hv4, hq4, hq5⟩ : ∃ p c, v4 = .slice p ql c ∧ Part.ok w4 ⟨p, ql, c, qb⟩ ∧ _ := part_new HPK.out.1 HPK.out.2.2.1 o4; subst hv4; have HQ4 := hide hq4; have HQ5 := hide hq5; clear o4 g4 hq4 hq5))
    all_goals go_wp2
    all_goals go_ret3
    all_goals exact ⟨⟨⟨p4, ql, c4, qb⟩, by rw [HK.out, HMQ.out]; rfl, by rw [HMQ.out]; rfl, HQ4.out, fun b off e => (HQ5.out b off e).1⟩, hw4⟩
end Go.Proofs.YtgbjlkaaniaaaaaDoor
