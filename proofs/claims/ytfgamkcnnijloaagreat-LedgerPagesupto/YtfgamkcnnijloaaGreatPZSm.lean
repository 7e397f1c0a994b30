/- New of package producer; Records of the statements of layer 12 (cut out of PKnows, for seats without knows of layer 12). The small looks of package ledger: made, Start, End, Stable, isMarker; New. -/
import Derived.Test.YtfgamkcnnijloaaGreatPNote
import Derived.Test.YtfgamkcnnijloaaGreatPZMem
import Derived.WalkLawsBesides
namespace Go.Proofs.YtfgamkcnnijloaaGreat
open Go.RowKit Go.Shelf
variable {w w' : World} {t M n : Nat} {T : Tb}

/-- Nobody is known. -/
def tb0 : Tb := fun _ => none
theorem New_any (w : World) : Calls Tryz.prog 20 #[] w fun e w' => e = .returned (.pointer (some ⟨w.heap.size + 1, 0, none⟩)) ∧ TPic w' (w.heap.size + 1) w.heap.size 0 tb0 ∧ Below w.heap.size w w' := by
  have hmm : ∀ (t : TypeId) (w : World), (Instr.makeMap t none).run Tryz.prog w = .ok (.map (some w.heap.size)) (w.alloc (.map #[] 0)) := fun t w => run_makeMap _ w
  go_enter Tryz.func20, Tryz.ntmps20
  go_wp2
  go_ret
  have b1 : Below w.heap.size w (w.alloc (.map #[] 0)) := (Below.refl _ _).alloc (Nat.le_refl _) _
  have b2 : Below w.heap.size w ((w.alloc (.map #[] 0)).alloc (.cells #[.map (some w.heap.size)] TTb)) := b1.alloc (by simp) _
  refine ⟨rfl, ⟨?_, ?_, fun p s h => by cases h⟩, b2⟩
  · have h := heap_alloc_new (w.alloc (.map #[] 0)) (.cells #[.map (some w.heap.size)] TTb)
    rw [show (w.alloc (.map #[] 0)).heap.size = w.heap.size + 1 by simp] at h
    exact h
  · refine (MapF.empty ?_).congr ?_
    · have h := heap_alloc_new w (.map #[] 0)
      rw [Below.heap_alloc _ _ _ (by simp)]
      exact h
    · intro kl
      unfold tbF tb0
      split <;> rfl
/-- The Record of Records. -/
def recK : Rec := ⟨⟨#[107]⟩, ⟨#[]⟩, false⟩
theorem recK_row (w : World) : RRow (w.alloc (.cells #[.string ⟨#[107]⟩, .string ⟨#[]⟩, .bool false] 43)) (some ⟨w.heap.size, 0, none⟩) [recK] := by
  refine Or.inr ⟨w.heap.size, 0, rfl, by simp, fun i hi => ?_⟩
  have hi' : i < 1 := hi
  obtain rfl : i = 0 := by omega
  refine ⟨?_, ?_, ?_⟩
  all_goals rw [cell_of_row _ w.heap.size _ _ 43 (0, 0) (heap_alloc_new w _)]; rfl
theorem recs_step {w W w5 : World} {j : Nat} {v v' : Value} {o : Obj} (hb : Below w.heap.size w W) (hO : OwnR W w.heap.size v (List.replicate j recK)) (hown : w5.ownsRow w.heap.size 43 3 v' (j + 1) (recsV (List.replicate j recK ++ [recK]))) (hg : (W.alloc o).grownBy w5 v.ownBlock) :
    OwnR w5 w.heap.size v' (List.replicate (j + 1) recK) ∧ Below w.heap.size w w5 := by
  refine ⟨?_, ?_⟩
  · unfold OwnR
    rw [List.replicate_succ', List.length_append, List.length_replicate]
    exact hown
  · refine (hb.alloc hb.size o).grown hg (by simp; have := hb.size; omega) (fun k hk => ?_)
    rcases hO.2 with ⟨rfl, -⟩ | ⟨g, c, cur, rfl, hgb, -⟩
    · cases hk
    · cases hk; exact hgb
set_option maxHeartbeats 400000 in
theorem records_any (m : Nat) (hm : m ≤ 64) (w : World) : Calls Tryz.prog 42 #[.int .i64 (m : Int)] w fun e w' => ∃ v, e = .returned v ∧ OwnR w' w.heap.size v (List.replicate m recK) ∧ Below w.heap.size w w' := by
  go_enter Tryz.func42, Tryz.ntmps42
  go_wp2_with fail
  go_loopw [3, 4] (fun v i wr => ∃ j : Nat, j ≤ m ∧ i = .int .i64 (j : Int) ∧ (∃ a c, v = .slice a j c) ∧ Hid (OwnR wr w.heap.size v (List.replicate j recK)) ∧ Hid (Below w.heap.size w wr)) (fun _ i _ => m - (intOf i).toNat)
  case atStart => exact ⟨0, by omega, rfl, ⟨none, 0, rfl⟩, World.ownsRow_nil _ _ _ _, Below.refl _ _⟩
  case round =>
    obtain ⟨j, hj, rfl, ⟨a, c, rfl⟩, HO, HB⟩ := hrel
    by_cases hjm : j < m
    · have HR := hid (recK_row wr)
      have HO2 := hid (HO.out.later ((Below.refl _ wr).alloc (Nat.le_refl _) (.cells #[.string ⟨#[107]⟩, .string ⟨#[]⟩, .bool false] 43)))
      have hszw := HB.out.size
      go_wp2_with (at_builtin; refine app_recs rfl (.tmp 10) (.tmp 12) rfl w.heap.size (.slice a j c) j (List.replicate j recK) rfl (by have h := HO2.out; unfold OwnR at h; rw [List.length_replicate] at h; exact h) (some ⟨wr.heap.size, 0, none⟩) 1 1 [recK] rfl rfl (fun e => by cases e) HR.out (by omega) (by simp; omega) ?_; intro v1 w1 hown1 hg1; obtain ⟨hO1, hB1⟩ := recs_step HB.out HO.out hown1 hg1; obtain ⟨a1, c1, hv1, -⟩ := hO1.form; rw [List.length_replicate] at hv1; subst hv1; have HO1 := hid hO1; have HB1 := hid hB1; clear hO1 hB1 hown1 hg1)
      go_roundw
      case rel => exact ⟨j + 1, by omega, by go_num, ⟨a1, c1, rfl⟩, HO1, HB1⟩
      case measure => simp [intOf]; omega
    · obtain rfl : j = m := by omega
      go_wp2_with fail
      go_ret
      exact ⟨_, rfl, HO.out, HB.out⟩
theorem OwnR.arg {W : World} {base : Nat} {ad : Option Addr} {m cap : Nat} {rs : List Rec} (h : OwnR W base (.slice ad m cap) rs) (hl : rs.length = m) (hs : ∀ r ∈ rs, r.key.size ≤ maxLen ∧ r.val.size ≤ maxLen) (k p e q : Int) (tx : Bool) : BArg W ⟨k, p, e, q, tx, rs⟩ ad m cap := by
  obtain ⟨a, c, hv, h1, h2, h3, h4⟩ := h.form
  rw [hl] at hv h1 h2
  cases hv
  exact ⟨hl, h1, h2, h3, h4, hs⟩
theorem recK_size (m : Nat) : ∀ r ∈ List.replicate m recK, r.key.size ≤ maxLen ∧ r.val.size ≤ maxLen := by
  intro r hr
  rw [(List.mem_replicate.1 hr).2]
  exact ⟨by decide, by decide⟩
theorem OwnR.chg {w w' : World} {N : Nat} {F : List Nat} {v : Value} {rs : List Rec} (h : OwnR w N v rs) (hb : Chg F w w') (hn : ∀ g, v.ownBlock = some g → g ∉ F) : OwnR w' N v rs := by
  refine ⟨h.1, ?_⟩
  rcases h.2 with h2 | ⟨g, cap, cur, hv, hgb, hg, r⟩
  · exact Or.inl h2
  · refine Or.inr ⟨g, cap, cur, hv, hgb, ?_, r⟩
    have hlt : g < w.heap.size := by
      rcases Nat.lt_or_ge g w.heap.size with hlt | hge
      · exact hlt
      · rw [Array.getElem?_eq_none hge] at hg; cases hg
    rw [hb.block g hlt (hn g (by rw [hv]; rfl))]
    exact hg
theorem BBox.chg {w w' : World} {B : Nat} {F : List Nat} {k p e q : Int} {tx : Bool} {v : Value} (h : BBox w B k p e q tx v) (hb : Chg F w w') (hn : B ∉ F) : BBox w' B k p e q tx v := (hb.block B h.lt hn).trans h
end Go.Proofs.YtfgamkcnnijloaaGreat
namespace Go.Proofs.YtfgamkcnnijloaaGreat
open Go.RowKit Go.Shelf
variable {w w' : World} {L t M n N : Nat} {vr vo va : Value} {g : Lg}

theorem madeL_any {t : Nat} (h : w.cell? ⟨L, 0, none⟩ = some (.pointer (some ⟨t, 0, none⟩))) : Calls Tryz.prog 23 #[.pointer (some ⟨L, 0, none⟩)] w fun r w' => r = .returned (.bool true) ∧ w' = w := by
  go_enter Tryz.func23, Tryz.ntmps23
  go_wp2
  go_ret
  exact ⟨rfl, rfl⟩
/-- No ledger, or one that nobody made. -/
def NoL (w : World) (v : Value) : Prop := v = .pointer none ∨ ∃ L, v = .pointer (some ⟨L, 0, none⟩) ∧ w.cell? ⟨L, 0, none⟩ = some (.pointer none) ∧ L < w.heap.size
theorem NoL.later {v : Value} (h : NoL w v) (hb : Below w.heap.size w w') : NoL w' v := by
  rcases h with h | ⟨L, h1, h2, h3⟩
  · exact Or.inl h
  · exact Or.inr ⟨L, h1, (hb.cell (p := ⟨L, 0, none⟩) h3).trans h2, Nat.lt_of_lt_of_le h3 hb.size⟩
theorem stable_any (h : LPic0 w L t M n N vr vo va g) : Calls Tryz.prog 15 #[.pointer (some ⟨L, 0, none⟩)] w fun r w' => r = .returned (.int .i64 g.stable) ∧ w' = w := by
  have HM := madeL_any h.c0
  obtain ⟨ao, co, hv, hA⟩ := h.opn.form kTx_ok.tofit
  have c2 := h.c2
  have c4 := h.c4
  rw [hv] at c4
  have HA := hid hA
  clear h hA hv
  cases ho : g.opn with
  | nil =>
    have HS : Hid (g.stable = g.fin) := by unfold Lg.stable; rw [ho]; exact rfl
    rw [ho] at c4
    clear ho HA
    go_enter Tryz.func15, Tryz.ntmps15
    go_wp2_with (go_at_call 23; refine HM.mono ?_; rintro e w1 ⟨rfl, hw1⟩; obtain rfl := hw1.symm)
    go_ret
    exact ⟨by rw [HS.out]; rfl, rfl⟩
  | cons x l =>
    have HS : Hid (g.stable = x.first) := by unfold Lg.stable; rw [ho]; exact rfl
    have hA2 := HA.out
    rw [ho] at hA2 c4
    obtain ⟨b, off, rfl, hb, hc⟩ := hA2.cells (by simp)
    have r1 : w.cell? ⟨b, off + 1, none⟩ = some (.int .i64 x.first) := by have := hc 0 (by simp) 1 (by decide); simpa [txV] using this
    rw [List.length_cons] at c4
    generalize l.length = k at *
    clear ho HA hA2 hc
    go_enter Tryz.func15, Tryz.ntmps15
    go_wp2_with (go_at_call 23; refine HM.mono ?_; rintro e w1 ⟨rfl, hw1⟩; obtain rfl := hw1.symm)
    go_ret
    exact ⟨by rw [HS.out]; rfl, rfl⟩
theorem mark13_any (k p e s : Int) (t : Bool) (a : Option Addr) (m c : Nat) (w : World) :
    Calls Tryz.prog 47 #[.agg #[.int .i64 k, .int .i64 p, .int .i64 e, .int .i64 s, .bool t, .slice a m c]] w fun r w' => r = .returned (.bool (!(k == 1))) ∧ w' = w.alloc (.cells #[.int .i64 k, .int .i64 p, .int .i64 e, .int .i64 s, .bool t, .slice a m c] 30) := by
  go_enter Tryz.func47, Tryz.ntmps47
  go_wp2
  go_ret
  exact ⟨rfl, rfl⟩
theorem lg0_ok : LgOk lg0 := ⟨⟨by decide, by decide⟩, by decide, List.Pairwise.nil, fun r hr => (by cases hr), fun r hr => (by cases hr), List.Pairwise.nil, fun r hr => (by cases hr)⟩
theorem newL_any (w : World) : Calls Tryz.prog 7 #[] w fun e w' => ∃ L t M, e = .returned (.pointer (some ⟨L, 0, none⟩)) ∧ LPic w' L t M 0 w.heap.size (.slice none 0 0) (.slice none 0 0) (.slice none 0 0) lg0 ∧ Below w.heap.size w w' ∧ w.heap.size ≤ L ∧ w.heap.size ≤ t ∧ w.heap.size ≤ M := by
  go_enter Tryz.func7, Tryz.ntmps7
  go_wp2_with (go_at_call 20; refine (New_any _).mono ?_; rintro e w1 ⟨rfl, hp1, hb1⟩; have HP1 := hid hp1; have HB1 := hid hb1; clear hp1 hb1)
  go_ret
  have b2 : Below w1.heap.size w1 (w1.alloc (.cells #[.pointer (some ⟨w.heap.size + 1, 0, none⟩), .int .i64 0, .int .i64 0, .slice none 0 0, .slice none 0 0, .slice none 0 0] TLg)) := (Below.refl _ _).alloc (Nat.le_refl _) _
  refine ⟨_, _, _, rfl, ⟨⟨heap_alloc_new w1 _, HP1.out.later b2, OwnK.nil _ _, OwnK.nil _ _, OwnK.nil _ _⟩, lg0_ok⟩, HB1.out.trans (b2.mono HB1.out.size), HB1.out.size, by omega, Nat.le_refl _⟩
end Go.Proofs.YtfgamkcnnijloaaGreat
