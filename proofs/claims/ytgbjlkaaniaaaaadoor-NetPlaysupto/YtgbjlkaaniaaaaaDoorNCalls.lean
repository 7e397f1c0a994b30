/- at, told, next, rest, Message, Take, Double of package net. -/
import Derived.Test.YtgbjlkaaniaaaaaDoorNTakeI
import Derived.Test.YtgbjlkaaniaaaaaDoorNTakeM
import Derived.Deep.RegionWith
namespace Go.Proofs.YtgbjlkaaniaaaaaDoor
open Go.RowKit
variable {w : World} {F : List Nat} {D : Nat} {v1 v2 : Value} {s : NSt}

set_option maxRecDepth 100000 in
theorem rest_any (x : Int) (w : World) : Calls Tryd.prog 35 #[.int .i64 x] w fun e w' => e = .returned (.int .i64 (restN x : Nat)) ∧ w' = w := by
  have h1 := Int.tmod_lt_of_pos x (show (0 : Int) < 5 by omega)
  have h2 := Int.lt_tmod_of_pos x (show (0 : Int) < 5 by omega)
  have h3 := hide (restN_go x)
  go_enter Tryd.func35, Tryd.ntmps35
  go_wp2
  go_ret
  refine ⟨ret_int ?_, rfl⟩
  have := h3.out
  rw [Int.tmod_eq_emod_of_nonneg (by omega)] at this
  first | exact this | (rw [← this]; simp) | omega
set_option maxRecDepth 100000 in
theorem at_pic (h : NPic w F D v1 v2 s) (k : Nat) (hk : k < s.late.length) : Calls Tryd.prog 29 #[.pointer (some ⟨D, 2, none⟩), .int .i64 (k : Nat)] w fun e w' => e = .returned (.agg #[.int .i64 (s.late[k]'hk).to, .string (bstr (s.late[k]'hk).b)]) ∧ w' = w.alloc (.cells #[.int .i64 (s.late[k]'hk).to, .string (bstr (s.late[k]'hk).b)] TM) := by
  obtain ⟨g, o, cap, cur, hv, hg, hn, hm, hs, hx, hc⟩ := h.r2.cells (by omega)
  subst hv
  obtain ⟨-, -, c1⟩ := h.cells
  have hm2 : cap ≤ 9223372036854775807 := by unfold maxLen at hm; omega
  have hck : w.cell? ⟨g, o + k * 2, none⟩ = some (.int .i64 (s.late[k]'hk).to) := by
    rw [hc (k * 2) (by omega)]; exact (lateV_get _ k hk).1
  have hck2 : w.cell? ⟨g, o + k * 2 + 1, none⟩ = some (.string (bstr (s.late[k]'hk).b)) := by
    rw [Nat.add_assoc, hc (k * 2 + 1) (by omega)]; exact (lateV_get _ k hk).2
  have hDlt := h.lt D h.mD
  have hglt := h.lt g (h.m2 g rfl)
  have bA : Below w.heap.size w (w.alloc (.cells #[.int .i64 0, .string ⟨#[]⟩] TM)) := (Below.refl _ w).alloc (Nat.le_refl _) _
  generalize (s.late[k]'hk).to = x at *
  generalize bstr (s.late[k]'hk).b = y at *
  have ca : (w.alloc (.cells #[.int .i64 0, .string ⟨#[]⟩] TM)).cell? ⟨D, 2, none⟩ = some (.slice (some ⟨g, o, none⟩) s.late.length cap) := (bA.cell (p := ⟨D, 2, none⟩) hDlt).trans c1
  have cb : (w.alloc (.cells #[.int .i64 0, .string ⟨#[]⟩] TM)).cell? ⟨g, o + k * 2, none⟩ = some (.int .i64 x) := (bA.cell (p := ⟨g, o + k * 2, none⟩) hglt).trans hck
  have cc : (w.alloc (.cells #[.int .i64 0, .string ⟨#[]⟩] TM)).cell? ⟨g, o + k * 2 + 1, none⟩ = some (.string y) := (bA.cell (p := ⟨g, o + k * 2 + 1, none⟩) hglt).trans hck2
  clear hx hc hg hs h bA hck hck2 c1
  go_enter Tryd.func29, Tryd.ntmps29
  go_wp2
  exact bodyPost_ret (v := .agg #[.int .i64 x, .string y]) (results_cell_row Tryd.results29 _ _ w.heap.size TM _ (0, 0) _ rfl (heap_alloc_last _ _) Tryd.underlying64 rfl (by kernel_rfl)) rfl ⟨rfl, rfl⟩
set_option maxRecDepth 100000 in
set_option maxHeartbeats 1000000 in
theorem told_any (x : Int) (y : ByteArray) (w : World) : Calls Tryd.prog 30 #[.agg #[.int .i64 x, .string y]] w fun e w' => ∃ Q : Part, e = .returned (.tuple #[.int .i64 x, .slice Q.ad Q.len Q.cap, .bool true]) ∧ Q.l = sbytes y ∧ Q.ok w' ∧ (∀ b off, Q.ad = some ⟨b, off, none⟩ → w.heap.size ≤ b) ∧ Below w.heap.size w w' := by
  obtain ⟨Q, w1, hr, hq, hb⟩ := conv_string y (w.alloc (.cells #[.int .i64 x, .string y] TM)).drew
  have hb2 : Below w.heap.size w w1 := Below.trans (((Below.refl w.heap.size w).alloc (Nat.le_refl _) _).drew) (hb.mono (by simp [World.drew]))
  have hx1 : Blk w1 w.heap.size #[.int .i64 x, .string y] TM := (hb.block w.heap.size (by simp [World.drew])).trans (heap_alloc_last w _)
  have e0 : w1.cell? ⟨w.heap.size, 0, none⟩ = some (.int .i64 x) := hx1.cell 0
  have HQ := hide hq
  have HB := hide hb2
  have HN : Hid (∀ b off, Q.ad = some ⟨b, off, none⟩ → w.heap.size ≤ b) := hide (by
    have := run_bytes_of_string (P := Tryd.prog) (w.alloc (.cells #[.int .i64 x, .string y] TM)).drew 9 32 5 y Tryd.underlying9 Tryd.underlying32 Tryd.underlying5
    rw [hr] at this
    injection this with e1 e2
    injection e1 with e1 e3 e4
    intro b off e
    rw [e1] at e
    cases e
    simp [World.drew])
  clear hq hb hb2 hx1
  go_enter Tryd.func30, Tryd.ntmps30
  go_wp2_with fail
  go_region_law (fail)
  all_goals go_wp2
  all_goals go_ret3
  all_goals exact ⟨Q, rfl, HQ.out.1, HQ.out.2, HN.out, HB.out⟩
/-- What Message and Take answer. -/
def Tells (w w' : World) (s : NSt) (k : Int) (e : Ending) : Prop := ∃ Q : Part, e = .returned (.tuple #[.int .i64 (msgD s k).to, .slice Q.ad Q.len Q.cap, .bool (hasD s k)]) ∧ Q.l = (msgD s k).b ∧ Q.ok w' ∧ ∀ b off, Q.ad = some ⟨b, off, none⟩ → w.heap.size ≤ b
theorem tells_no {k : Int} (h : hasD s k = false) (w w' : World) : Tells w w' s k (.returned (.tuple #[.int .i64 0, .slice none 0 0, .bool false])) := by
  refine ⟨⟨none, 0, 0, []⟩, by unfold msgD; rw [h]; rfl, by unfold msgD; rw [h]; rfl, ⟨rfl, fun _ => ⟨rfl, rfl⟩, fun _ h => (by cases h), Or.inl rfl⟩, fun _ _ e => by cases e⟩
theorem has_yes {k : Int} (h : hasD s k = true) : ∃ (n : Nat) (hn : n < s.late.length), k = n ∧ msgD s k = s.late[n] := by
  have h0 := h
  simp [hasD] at h
  refine ⟨k.toNat, by omega, by omega, ?_⟩
  unfold msgD
  rw [h0, if_pos rfl, List.getD_eq_getElem?_getD, List.getElem?_eq_getElem (by omega)]
  rfl
set_option maxRecDepth 100000 in
set_option maxHeartbeats 1000000 in
theorem message_pic (h : NPic w F D v1 v2 s) (k : Int) : Calls Tryd.prog 13 #[.pointer (some ⟨D, 0, none⟩), .int .i64 k] w fun e w' => Tells w w' s k e ∧ Below w.heap.size w w' := by
  have hh := has_pic h k
  cases hk : hasD s k with
  | false =>
    rw [hk] at hh
    have HT := hide (tells_no hk w w)
    clear h hk
    go_enter Tryd.func13, Tryd.ntmps13
    go_wp2_with (go_at_call 28; refine hh.mono ?_; rintro e w' ⟨rfl, hw'⟩; obtain rfl := hw'.symm)
    go_ret3
    exact ⟨HT.out, Below.refl _ _⟩
  | true =>
    rw [hk] at hh
    obtain ⟨n, hn, rfl, hm⟩ := has_yes hk
    have ha := at_pic h n hn
    have HOK := hide (msgD_ok h.ok (n : Int)).2
    have HK := hide hk
    rw [← hm] at ha
    obtain ⟨-, -, c2⟩ := h.cells
    clear h hk hm hn
    go_enter Tryd.func13, Tryd.ntmps13
    go_wp2_with (first
      | (go_at_call 28; refine hh.mono ?_; rintro e w' ⟨rfl, hw'⟩; obtain rfl := hw'.symm)
      | (go_at_call 29; refine ha.mono ?_; rintro e w1 ⟨rfl, hw1⟩; have b1 : Below w.heap.size w w1 := (by rw [hw1]; exact (Below.refl _ w).alloc (Nat.le_refl _) _); have B1 := hide b1; clear hw1 b1)
      | (go_at_call 30; refine (told_any _ _ _).mono ?_; rintro e w2 ⟨Q, rfl, hq1, hq2, hq3, hq4⟩; have HQ1 := hide hq1; have HQ2 := hide hq2; have HQ3 := hide hq3; have HQ4 := hide hq4; clear hq1 hq2 hq3 hq4))
    go_ret3
    refine ⟨⟨Q, by rw [HK.out]; rfl, by rw [HQ1.out, sbytes_bstr _ HOK.out], HQ2.out, fun b off e => Nat.le_trans B1.out.size (HQ3.out b off e)⟩, B1.out.trans (HQ4.out.mono B1.out.size)⟩
set_option maxRecDepth 100000 in
set_option maxHeartbeats 1000000 in
theorem take_pic (h : NPic w F D v1 v2 s) (k : Int) : Calls Tryd.prog 14 #[.pointer (some ⟨D, 0, none⟩), .int .i64 k] w fun e w' => Tells w w' s k e ∧ NMoved F D (takeD s k) w w' := by
  have hh := has_pic h k
  cases hk : hasD s k with
  | false =>
    rw [hk] at hh
    have HT := hide (tells_no hk w w)
    have HK := hide hk
    have H := hide h
    clear h hk
    go_enter Tryd.func14, Tryd.ntmps14
    go_wp2_with (go_at_call 28; refine hh.mono ?_; rintro e w' ⟨rfl, hw'⟩; obtain rfl := hw'.symm)
    go_ret3
    refine ⟨HT.out, ?_⟩
    unfold takeD
    rw [HK.out]
    exact NMoved.refl ⟨_, _, H.out⟩
  | true =>
    rw [hk] at hh
    obtain ⟨n, hn, rfl, hm⟩ := has_yes hk
    have ha := takeM_pic h n hn
    have HOK := hide (msgD_ok h.ok (n : Int)).2
    have HK := hide hk
    rw [← hm] at ha
    obtain ⟨-, -, c2⟩ := h.cells
    clear h hk hm hn
    go_enter Tryd.func14, Tryd.ntmps14
    go_wp2_with (first
      | (go_at_call 28; refine hh.mono ?_; rintro e w' ⟨rfl, hw'⟩; obtain rfl := hw'.symm)
      | (go_at_call 31; refine ha.mono ?_; rintro e w1 ⟨rfl, hw1⟩; have M1 := hide hw1; clear hw1)
      | (go_at_call 30; refine (told_any _ _ _).mono ?_; rintro e w2 ⟨Q, rfl, hq1, hq2, hq3, hq4⟩; have HQ1 := hide hq1; have HQ2 := hide hq2; have HQ3 := hide hq3; have HQ4 := hide hq4; clear hq1 hq2 hq3 hq4))
    go_ret3
    refine ⟨⟨Q, by rw [HK.out]; rfl, by rw [HQ1.out, sbytes_bstr _ HOK.out], HQ2.out, fun b off e => Nat.le_trans M1.out.chg.size (HQ3.out b off e)⟩, ?_⟩
    have e : takeD s (n : Int) = ⟨s.luck, s.late.eraseIdx n⟩ := by unfold takeD; rw [HK.out]; rfl
    rw [e]
    exact M1.out.later HQ4.out
set_option maxRecDepth 100000 in
set_option maxHeartbeats 1000000 in
theorem double_pic (h : NPic w F D v1 v2 s) (k : Int) (hb : s.late.length + 1 ≤ 4398046511104) : Calls Tryd.prog 15 #[.pointer (some ⟨D, 0, none⟩), .int .i64 k] w fun e w' => e = .returned (.bool (hasD s k)) ∧ NMoved F D (doubleD s k) w w' := by
  have hh := has_pic h k
  cases hk : hasD s k with
  | false =>
    rw [hk] at hh
    have HK := hide hk
    have H := hide h
    clear h hk
    go_enter Tryd.func15, Tryd.ntmps15
    go_wp2_with (go_at_call 28; refine hh.mono ?_; rintro e w' ⟨rfl, hw'⟩; obtain rfl := hw'.symm)
    go_ret
    refine ⟨rfl, ?_⟩
    unfold doubleD
    rw [HK.out]
    exact NMoved.refl ⟨_, _, H.out⟩
  | true =>
    rw [hk] at hh
    obtain ⟨n, hn, rfl, hm⟩ := has_yes hk
    have HOK := hide (msgD_ok h.ok (n : Int))
    have HK := hide hk
    have bd : Below w.heap.size w w.drew := (Below.refl _ w).drew
    have ha := at_pic (h.below bd) n hn
    rw [← hm] at ha
    obtain ⟨x, hx⟩ : ∃ x, x = msgD s (n : Int) := ⟨_, rfl⟩
    rw [← hx] at ha
    have b2 : Below w.heap.size w ((w.drew.alloc (.cells #[.int .i64 x.to, .string (bstr x.b)] TM)).alloc (.cells #[.int .i64 x.to, .string (bstr x.b)] TM)) := (bd.alloc (Nat.le_refl _) _).alloc (by simp) _
    have hadd := addm_pic (h.below b2) (some ⟨w.heap.size + 1, 0, none⟩) 1 1 [x] rfl (fun m hm => by simp at hm; subst hm; rw [hx]; exact HOK.out) (Or.inr ⟨_, rfl, fun j u hu => by
      have hb1 := heap_alloc2_new w.drew (.cells #[.int .i64 x.to, .string (bstr x.b)] TM) (.cells #[.int .i64 x.to, .string (bstr x.b)] TM)
      rw [addr_add]
      have : w.drew.heap.size = w.heap.size := rfl
      rw [this] at hb1
      rw [cell_of_row _ _ _ _ _ _ hb1, Nat.zero_add]
      simpa [lateV, msgV] using hu⟩) hb
    have HX := hide hx
    have B2 := hide b2
    have hDlt := h.lt D h.mD
    clear h hk hm hn hx b2 bd
    go_enter Tryd.func15, Tryd.ntmps15
    go_wp2_with (go_at_call 28; refine hh.mono ?_; rintro e w' ⟨rfl, hw'⟩; obtain rfl := hw'.symm)
    go_region_with (first
      | (go_at_call 29; refine ha.mono ?_; rintro e w1 ⟨rfl, hw1⟩; obtain rfl := hw1.symm)
      | (go_at_call 27; refine hadd.mono ?_; rintro e w2 ⟨rfl, hw2⟩; have M2 := hide hw2; clear hw2))
    all_goals go_wp2
    all_goals go_ret
    all_goals refine ⟨rfl, ?_⟩
    all_goals have e : doubleD s (n : Int) = ⟨s.luck, s.late ++ [x]⟩ := by unfold doubleD; rw [HK.out, HX.out]; rfl
    all_goals rw [e]
    all_goals exact M2.out.after B2.out
end Go.Proofs.YtgbjlkaaniaaaaaDoor
