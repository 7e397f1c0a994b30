/- The looks of package net: New, Made, has, Late, Left, and what is laid behind its lists. -/
import Derived.Test.YtgbjlkaaniaaaaaDoorNPic
import Derived.Deep.WholeRow
namespace Go.Proofs.YtgbjlkaaniaaaaaDoor
open Go.RowKit
variable {w : World} {F : List Nat} {D : Nat} {v1 v2 : Value} {s : NSt}

theorem hide {p : Prop} (h : p) : Hid p := h
set_option maxRecDepth 100000 in
theorem new_ok (w : World) : Calls Tryd.prog 7 #[] w fun e w' => e = .returned (.pointer (some ⟨w.heap.size, 0, none⟩)) ∧ NPic w' [w.heap.size] w.heap.size (.slice none 0 0) (.slice none 0 0) new0 ∧ Below w.heap.size w w' := by
  go_enter Tryd.func7, Tryd.ntmps7
  go_wp2
  go_ret
  refine ⟨rfl, ⟨heap_alloc_last _ _, OffRow.nil _ _ _, OffRow.nil _ _ _, new0_ok, by simp, fun g hg => (by cases hg), fun g hg => (by cases hg), fun g hg => by simp at hg; subst hg; simp⟩, (Below.refl _ w).alloc (Nat.le_refl _) _⟩
set_option maxRecDepth 100000 in
theorem made_pic (h : NPic w F D v1 v2 s) : Calls Tryd.prog 8 #[.pointer (some ⟨D, 0, none⟩)] w fun e w' => e = .returned (.bool true) ∧ w' = w := by
  obtain ⟨c0, -, -⟩ := h.cells
  clear h
  go_enter Tryd.func8, Tryd.ntmps8
  go_wp2
  all_goals go_ret
  all_goals simp
set_option maxRecDepth 100000 in
theorem counti_at (p : Addr) (ad : Option Addr) (n c : Nat) (w : World) (h : w.cell? p = some (.slice ad n c)) : Calls Tryd.prog 33 #[.pointer (some p)] w fun e w' => e = .returned (.int .i64 n) ∧ w' = w := by
  go_enter Tryd.func33, Tryd.ntmps33
  go_wp2
  all_goals go_ret
  all_goals simp
set_option maxRecDepth 100000 in
theorem countm_at (p : Addr) (ad : Option Addr) (n c : Nat) (w : World) (h : w.cell? p = some (.slice ad n c)) : Calls Tryd.prog 32 #[.pointer (some p)] w fun e w' => e = .returned (.int .i64 n) ∧ w' = w := by
  go_enter Tryd.func32, Tryd.ntmps32
  go_wp2
  all_goals go_ret
  all_goals simp
set_option maxRecDepth 100000 in
theorem hasi_at (p : Addr) (ad : Option Addr) (n c : Nat) (w : World) (h : w.cell? p = some (.slice ad n c)) (k : Int) : Calls Tryd.prog 34 #[.pointer (some p), .int .i64 k] w fun e w' => e = .returned (.bool (decide (0 ≤ k) && decide (k < n))) ∧ w' = w := by
  go_enter Tryd.func34, Tryd.ntmps34
  go_wp2
  all_goals go_ret
  all_goals simp
  all_goals omega
set_option maxRecDepth 100000 in
theorem hasm_at (p : Addr) (ad : Option Addr) (n c : Nat) (w : World) (h : w.cell? p = some (.slice ad n c)) (k : Int) : Calls Tryd.prog 37 #[.pointer (some p), .int .i64 k] w fun e w' => e = .returned (.bool (decide (0 ≤ k) && decide (k < n))) ∧ w' = w := by
  go_enter Tryd.func37, Tryd.ntmps37
  go_wp2
  all_goals go_ret
  all_goals simp
  all_goals omega
set_option maxRecDepth 100000 in
theorem late_pic (h : NPic w F D v1 v2 s) : Calls Tryd.prog 16 #[.pointer (some ⟨D, 0, none⟩)] w fun e w' => e = .returned (.int .i64 (s.late.length : Nat)) ∧ w' = w := by
  obtain ⟨-, -, c2⟩ := h.cells
  have hm := made_pic h
  obtain ⟨ad, cap, rfl, -, -⟩ := h.r2.form
  have hc := countm_at ⟨D, 2, none⟩ ad _ cap w c2
  generalize s.late.length = n at *
  clear h
  go_enter Tryd.func16, Tryd.ntmps16
  go_wp2_with (first
    | (go_at_call 8; refine hm.mono ?_; rintro e w' ⟨rfl, hw'⟩; obtain rfl := hw'.symm)
    | (go_at_call 32; refine hc.mono ?_; rintro e w' ⟨rfl, hw'⟩; obtain rfl := hw'.symm))
  go_ret
  exact ⟨rfl, rfl⟩
set_option maxRecDepth 100000 in
theorem left_pic (h : NPic w F D v1 v2 s) : Calls Tryd.prog 17 #[.pointer (some ⟨D, 0, none⟩)] w fun e w' => e = .returned (.int .i64 (s.luck.length : Nat)) ∧ w' = w := by
  obtain ⟨-, c1, -⟩ := h.cells
  have hm := made_pic h
  obtain ⟨ad, cap, rfl, -, -⟩ := h.r1.form
  have hc := counti_at ⟨D, 1, none⟩ ad _ cap w c1
  generalize s.luck.length = n at *
  clear h
  go_enter Tryd.func17, Tryd.ntmps17
  go_wp2_with (first
    | (go_at_call 8; refine hm.mono ?_; rintro e w' ⟨rfl, hw'⟩; obtain rfl := hw'.symm)
    | (go_at_call 33; refine hc.mono ?_; rintro e w' ⟨rfl, hw'⟩; obtain rfl := hw'.symm))
  go_ret
  exact ⟨rfl, rfl⟩
set_option maxRecDepth 100000 in
theorem has_pic (h : NPic w F D v1 v2 s) (k : Int) : Calls Tryd.prog 28 #[.pointer (some ⟨D, 0, none⟩), .int .i64 k] w fun e w' => e = .returned (.bool (hasD s k)) ∧ w' = w := by
  obtain ⟨-, -, c2⟩ := h.cells
  have hm := made_pic h
  obtain ⟨ad, cap, rfl, -, -⟩ := h.r2.form
  have hc := hasm_at ⟨D, 2, none⟩ ad _ cap w c2 k
  unfold hasD
  generalize s.late.length = n at *
  clear h
  go_enter Tryd.func28, Tryd.ntmps28
  go_wp2_with (first
    | (go_at_call 8; refine hm.mono ?_; rintro e w' ⟨rfl, hw'⟩; obtain rfl := hw'.symm)
    | (go_at_call 37; refine hc.mono ?_; rintro e w' ⟨rfl, hw'⟩; obtain rfl := hw'.symm))
  go_ret
  exact ⟨rfl, rfl⟩
set_option maxRecDepth 100000 in
set_option maxHeartbeats 1000000 in
theorem addi_pic (h : NPic w F D v1 v2 s) (ad : Option Addr) (m c : Nat) (l : List Int) (hl : l.length = m) (hf : ∀ x ∈ l, fits x) (hs : Src w ad m (l.map intV)) (hb : s.luck.length + m ≤ 17592186044416) :
    Calls Tryd.prog 25 #[.pointer (some ⟨D, 1, none⟩), .slice ad m c] w fun e w' => e = .returned (.tuple #[]) ∧ NMoved F D (luckD s l) w w' := by
  obtain ⟨i0, hi, hz0, hz1, hz2⟩ := info_parts Tryd.infoI
  obtain ⟨-, c1, -⟩ := h.cells
  have H : Hid (NPic w F D v1 v2 s) := h
  have HS : Hid (Src w ad m (l.map intV)) := hs
  have HL : Hid (l.length = m) := hl
  have HF : Hid (∀ x ∈ l, fits x) := hf
  clear h hs hl hf
  go_enter Tryd.func25, Tryd.ntmps25
  go_wp2_with (at_builtin; refine app_off rfl _ _ 26 rfl i0 (.int .i64 0) 8 Tryd.underlying26 hi hz0 hz1 hz2 rfl (by decide) H.out.r1 ad m c (l.map intV) rfl rfl (by rw [List.length_map, HL.out]; omega) HS.out (luckV_one l) (by unfold maxLen; omega) (by omega) ?_; intro u1 w1 hr hg hu; have HR : Hid (OffRow w1 TI 1 u1 (s.luck.length + m) (s.luck.map intV ++ l.map intV)) := hr; have HG : Hid (w.grownBy w1 v1.ownBlock) := hg; have HU : Hid (∀ g, u1.ownBlock = some g → v1.ownBlock = some g ∨ w.heap.size ≤ g) := hu; have hD1 : Blk w1 D #[.bool true, v1, v2] TN := (HG.out.block D (H.out.lt D H.out.mD) (fun e => H.out.ne1 e.symm)).trans H.out.hD; have cc1 : w1.cell? ⟨D, 1, none⟩ = some v1 := hD1.cell 1; have cf1 := hD1.free 1; obtain ⟨ua, uc, hue, hux, huy⟩ := hr.form; subst hue; clear hr hg hu hD1)
  refine bodyPost_end (results_none rfl _ _ _) rfl ⟨rfl, ?_⟩
  have hn : s.luck.length + m = (s.luck ++ l).length := by rw [List.length_append, HL.out]
  have hr2 : OffRow w1 TI 1 (.slice ua (s.luck.length + m) uc) (s.luck ++ l).length ((s.luck ++ l).map intV) := by rw [List.map_append, ← hn]; exact HR.out
  exact H.out.set1 (l := s.luck ++ l) (fun x hx => by
    rcases List.mem_append.1 hx with hx | hx
    · exact H.out.ok.luck x hx
    · exact HF.out x hx) HG.out hr2 HU.out
set_option maxRecDepth 100000 in
set_option maxHeartbeats 1000000 in
theorem addm_pic (h : NPic w F D v1 v2 s) (ad : Option Addr) (m c : Nat) (l : List Msg) (hl : l.length = m) (hf : ∀ m ∈ l, fits m.to ∧ ∀ x ∈ m.b, x < 256) (hs : Src w ad m (lateV l)) (hb : s.late.length + m ≤ 4398046511104) :
    Calls Tryd.prog 27 #[.pointer (some ⟨D, 2, none⟩), .slice ad m c] w fun e w' => e = .returned (.tuple #[]) ∧ NMoved F D ⟨s.luck, s.late ++ l⟩ w w' := by
  obtain ⟨i0, hi, hz0, hz1, hz2⟩ := info_parts Tryd.infoM
  obtain ⟨-, -, c2⟩ := h.cells
  have H : Hid (NPic w F D v1 v2 s) := h
  have HS : Hid (Src w ad m (lateV l)) := hs
  have HL : Hid (l.length = m) := hl
  have HF : Hid (∀ m ∈ l, fits m.to ∧ ∀ x ∈ m.b, x < 256) := hf
  clear h hs hl hf
  go_enter Tryd.func27, Tryd.ntmps27
  go_wp2_with (at_builtin; refine app_off rfl _ _ 45 rfl i0 (.agg #[.int .i64 0, .string ⟨#[]⟩]) 24 Tryd.underlying45 hi hz0 hz1 hz2 rfl (by decide) H.out.r2 ad m c (lateV l) rfl rfl (by rw [lateV_len, HL.out]) HS.out (lateV_one l) (by unfold maxLen; omega) (by omega) ?_; intro u1 w1 hr hg hu; have HR : Hid (OffRow w1 TM 2 u1 (s.late.length + m) (lateV s.late ++ lateV l)) := hr; have HG : Hid (w.grownBy w1 v2.ownBlock) := hg; have HU : Hid (∀ g, u1.ownBlock = some g → v2.ownBlock = some g ∨ w.heap.size ≤ g) := hu; have hD1 : Blk w1 D #[.bool true, v1, v2] TN := (HG.out.block D (H.out.lt D H.out.mD) (fun e => H.out.ne2 e.symm)).trans H.out.hD; have cc1 : w1.cell? ⟨D, 2, none⟩ = some v2 := hD1.cell 2; have cf1 := hD1.free 2; obtain ⟨ua, uc, hue, hux, huy⟩ := hr.form; subst hue; clear hr hg hu hD1)
  refine bodyPost_end (results_none rfl _ _ _) rfl ⟨rfl, ?_⟩
  have hn : s.late.length + m = (s.late ++ l).length := by rw [List.length_append, HL.out]
  have hr2 : OffRow w1 TM 2 (.slice ua (s.late.length + m) uc) (s.late ++ l).length (lateV (s.late ++ l)) := by rw [lateV_app, ← hn]; exact HR.out
  exact H.out.set2 (l := s.late ++ l) (fun x hx => by
    rcases List.mem_append.1 hx with hx | hx
    · exact H.out.ok.late x hx
    · exact HF.out x hx) HG.out hr2 HU.out
set_option maxRecDepth 100000 in
theorem luck_pic (h : NPic w F D v1 v2 s) (ad : Option Addr) (m c : Nat) (l : List Int) (hl : l.length = m) (hf : ∀ x ∈ l, fits x) (hs : Src w ad m (l.map intV)) (hb : s.luck.length + m ≤ 17592186044416) :
    Calls Tryd.prog 11 #[.pointer (some ⟨D, 0, none⟩), .slice ad m c] w fun e w' => e = .returned (.tuple #[]) ∧ NMoved F D (luckD s l) w w' := by
  have hm := made_pic h
  have ha := addi_pic h ad m c l hl hf hs hb
  obtain ⟨-, c1, -⟩ := h.cells
  clear h hl hf hs hb
  go_enter Tryd.func11, Tryd.ntmps11
  go_wp2_with (first
    | (go_at_call 8; refine hm.mono ?_; rintro e w' ⟨rfl, hw'⟩; obtain rfl := hw'.symm)
    | (go_at_call 25; refine ha.mono ?_; rintro e w' ⟨rfl, hw'⟩))
  exact bodyPost_end (results_none rfl _ _ _) rfl ⟨rfl, hw'⟩
end Go.Proofs.YtgbjlkaaniaaaaaDoor
