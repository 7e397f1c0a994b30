/- Send of the document's net. -/
import Derived.Test.YtgbjlkaaniaaaaaDoorQTake
namespace Go.Proofs.YtgbjlkaaniaaaaaDoor
open Go.RowKit
variable {w w' : World} {G : List Nat} {R : Nat} {v1 v2 : Value} {luck : List Int} {ms : List QM} {s : NSt}

/-- The blocks of an address. -/
def adB (p : Option Addr) : List Nat := match p with
  | some ⟨b, _, none⟩ => [b]
  | _ => []
/-- The luck behind its first number. -/
theorem OffRow.tail {e : TypeId} {cap n : Nat} {g o : Nat} {x : Value} {xs : List Value} (h : OffRow w e 1 (.slice (some ⟨g, o, none⟩) (n + 1) cap) (n + 1) (x :: xs)) (A : Option Addr) (hA : (if cap = 1 then some (⟨g, o, none⟩ : Addr) else some ⟨g, o + 1, none⟩) = A) : OffRow w e 1 (.slice A n (cap - 1)) n xs := by
  rcases h.2 with ⟨h1, _⟩ | ⟨g', o', cap', cur, hv, hb, r1, r2, r3, r4⟩
  · cases h1
  · cases hv
    refine ⟨by have := h.1; simp at this; omega, Or.inr ?_⟩
    by_cases hc : cap = 1
    · rw [if_pos hc] at hA
      subst hA
      refine ⟨g, o, cap - 1, cur, rfl, hb, by omega, by omega, by omega, fun j hj => by omega⟩
    · rw [if_neg hc] at hA
      subst hA
      refine ⟨g, o + 1, cap - 1, cur, rfl, hb, by omega, by omega, by omega, fun j hj => ?_⟩
      have := r4 (j + 1) (by omega)
      rw [show o + 1 + j = o + (j + 1) by omega, this]
      rfl
set_option maxRecDepth 100000 in
set_option maxHeartbeats 1000000 in
theorem qsend_none (h : QPic w G R v1 v2 [] ms) (to : Int) (ad : Option Addr) (len cap : Nat) (hs : s.luck = []) (hms : ms.map QM.msg = s.late) :
    Calls Tryd.prog 20 #[.pointer (some ⟨R, 0, none⟩), .int .i64 to, .slice ad len cap] w fun e w' => e = .returned (.tuple #[.int .i64 1, .bool true]) ∧ QMoved G R s w w' := by
  obtain ⟨c0, -⟩ := h.cells
  obtain ⟨p, cp, hv, hq1, hq2⟩ := h.r1.form
  subst hv
  have HSS : Hid (QMoved G R s w w) := QMoved.refl ⟨_, v2, ms, by rw [hs]; exact h, hms⟩
  clear h hs hms
  go_enter Tryd.func20, Tryd.ntmps20
  go_wp2
  go_ret2
  exact ⟨rfl, HSS.out⟩
/-- The first number, and what is left behind it. -/
theorem qwait (h : QPic w G R v1 v2 luck ms) {x : Int} {r : List Int} (hlu : luck = x :: r) {late : List Msg} (hms : ms.map QM.msg = late) : ∃ g o cp A, v1 = .slice (some ⟨g, o, none⟩) (r.length + 1) cp ∧ (if cp = 1 then some (⟨g, o, none⟩ : Addr) else some ⟨g, o + 1, none⟩) = some A ∧ w.cell? ⟨R, 0, none⟩ = some (.slice (some ⟨g, o, none⟩) luck.length cp) ∧ w.frozen? ⟨R, 0, none⟩ = false ∧ w.cell? ⟨g, o, none⟩ = some (.int .i64 x) ∧ 1 ≤ cp ∧ Hid (QMoved G R ⟨r, late⟩ w (w.setCell ⟨R, 0, none⟩ (.slice (some A) r.length (cp - 1)))) := by
  subst hlu
  obtain ⟨g, o, cp, cur, hv, hg, hn1, hm1, hs, hx, hc⟩ := h.r1.cells (by simp)
  subst hv
  have hA : ∃ A, (if cp = 1 then some (⟨g, o, none⟩ : Addr) else some ⟨g, o + 1, none⟩) = some A := by
    by_cases e : cp = 1
    · exact ⟨_, if_pos e⟩
    · exact ⟨_, if_neg e⟩
  obtain ⟨A, hA⟩ := hA
  refine ⟨g, o, cp, A, rfl, hA, h.cells.1, h.free 0, ?_, by simp at hn1; omega, ?_⟩
  · have := hc 0 (by simp)
    simpa [intV] using this
  · have hr : OffRow w TI 1 (.slice (some A) r.length (cp - 1)) r.length (r.map intV) := OffRow.tail (by simpa using h.r1) (some A) hA
    refine h.set1 (grownBy_none w _) hr (fun y hy => Or.inl ?_) hms
    have e : A.block = g := by
      by_cases e : cp = 1
      · rw [if_pos e] at hA; cases hA; rfl
      · rw [if_neg e] at hA; cases hA; rfl
    have hy2 : some A.block = some y := hy
    rw [e] at hy2
    exact hy2
theorem qm_src (W : World) (q : QM) : Src (W.alloc (.cells #[.int .i64 q.to, .slice q.p.ad q.p.len q.p.cap] TQ)) (some ⟨W.heap.size, 0, none⟩) 1 (qmsV [q]) :=
  Or.inr ⟨_, rfl, fun j u hu => by rw [addr_add, cell_of_row _ _ _ _ _ _ (heap_alloc_last W _), Nat.zero_add]; simpa [qmsV, qmV] using hu⟩
/-- A message more. -/
theorem qsend_end {W w4 w5 : World} {a1 a2 : Value} {to : Int} {p4 : Option Addr} {len c4 : Nat} {l : List Nat} {late : List Msg} (hq : QPic W G R a1 a2 luck ms) (hb : Below W.heap.size W w4) (hp : Part.ok w4 ⟨p4, len, c4, l⟩) (hlen : len ≤ 1048576) (ht : ∀ b off, p4 = some ⟨b, off, none⟩ → W.heap.size ≤ b ∧ b < w4.heap.size ∧ ∃ cs fr, w4.heap[b]? = some (.cells cs 5 fr))
    {u5 : Value} (hr : OffRow w5 TQ 2 u5 (ms.length + 1) (qmsV ms ++ qmsV [⟨to, p4, len, c4, l⟩])) (hg : (w4.alloc (.cells #[.int .i64 to, .slice p4 len c4] TQ)).grownBy w5 a2.ownBlock) (hu : ∀ g, u5.ownBlock = some g → a2.ownBlock = some g ∨ (w4.alloc (.cells #[.int .i64 to, .slice p4 len c4] TQ)).heap.size ≤ g) (hms : ms.map QM.msg = late) :
    Blk w5 R #[a1, a2] TR ∧ QMoved G R ⟨luck, late ++ [⟨to, l⟩]⟩ W (w5.setCell ⟨R, 1, none⟩ u5) := by
  have hb2 : Below W.heap.size W (w4.alloc (.cells #[.int .i64 to, .slice p4 len c4] TQ)) := hb.alloc hb.size _
  have hgr : W.grownBy w5 a2.ownBlock := ⟨hg.os.trans hb2.os, hg.tape.trans hb2.tape, hg.output.trans hb2.output, Nat.le_trans hb2.size hg.size, fun k hk hne => (hg.block k (Nat.lt_of_lt_of_le hk hb2.size) hne).trans (hb2.block k hk)⟩
  refine ⟨(hgr.block R (hq.lt R hq.mD) (fun e => hq.ne2 e.symm)).trans hq.hD, ?_⟩
  have hkeep : ∀ k, W.heap.size ≤ k → k < w4.heap.size → w5.heap[k]? = w4.heap[k]? := fun k h1 h2 => by
    rw [hg.block k (by simp; omega) (fun e => by have := hq.lt k (hq.m2 k e.symm); omega)]
    exact Below.heap_alloc w4 _ k h2
  refine hq.set2 (l := ms ++ [⟨to, p4, len, c4, l⟩]) (adB p4) hgr (by rw [qmsV_app, List.length_append]; exact hr) (fun g hg' => (hu g hg').imp id (fun h => Nat.le_trans hb2.size h)) ?_ ?_ (by rw [List.map_append, hms]; rfl)
  · intro k hk
    cases p4 with
    | none => cases hk
    | some a =>
      obtain ⟨b, off, spot⟩ := a
      cases spot with
      | none =>
        simp [adB] at hk
        subst hk
        obtain ⟨h1, h2, -⟩ := ht k off rfl
        exact ⟨h1, Nat.lt_of_lt_of_le h2 (Nat.le_trans (by simp) hg.size)⟩
      | some _ => simp [adB] at hk
  · intro q hq2
    rcases List.mem_append.1 hq2 with hq2 | hq2
    · exact Or.inl hq2
    · simp at hq2
      subst hq2
      refine Or.inr ⟨⟨hp.1, hp.2.1, hp.2.2.1, ?_⟩, hlen, fun b off e h0 => ?_⟩
      · rcases hp.2.2.2 with h0 | ⟨b, off, e, hbl, hc⟩
        · exact Or.inl h0
        · obtain ⟨h1, h2, -⟩ := ht b off e
          refine Or.inr ⟨b, off, e, Nat.lt_of_lt_of_le h2 (Nat.le_trans (by simp) hg.size), fun i hi => ?_⟩
          have hm := hkeep b h1 h2
          rw [← hc i hi]
          simp only [World.cell?, hm]
      · have e2 : p4 = some ⟨b, off, none⟩ := e
        obtain ⟨h1, h2, h3⟩ := ht b off e2
        refine ⟨by rw [e2]; simp [adB], ?_⟩
        rw [hkeep b h1 h2]
        exact h3
set_option maxRecDepth 100000 in
set_option maxHeartbeats 2000000 in
theorem qsend_0 (h : QPic w G R v1 v2 luck ms) {x : Int} {r : List Int} (hlu : luck = x :: r) (hr : restN x = 0) (hb : luck.length ≤ 1099511627776) (to : Int) (ad : Option Addr) (len cap : Nat) {late : List Msg} (hms : ms.map QM.msg = late) :
    Calls Tryd.prog 20 #[.pointer (some ⟨R, 0, none⟩), .int .i64 to, .slice ad len cap] w fun e w' => e = .returned (.tuple #[.int .i64 1, .bool true]) ∧ QMoved G R ⟨r, late⟩ w w' := by
  obtain ⟨g, o, cp, A, hv, hA, c0, f0, cx, hp1, HM⟩ := qwait h hlu hms
  subst hv
  have hq0 := Int.tmod_lt_of_pos x (show (0 : Int) < 5 by omega)
  have hq1 := Int.lt_tmod_of_pos x (show (0 : Int) < 5 by omega)
  have hgo : (x.tmod 5 + 5) % 5 = 0 := by
    have h := restN_go x
    rw [hr, Int.tmod_eq_emod_of_nonneg (by omega)] at h
    exact h
  have hln : luck.length = r.length + 1 := by rw [hlu]; rfl
  rw [hln] at hb c0
  clear h hlu hr hms hln
  go_enter Tryd.func20, Tryd.ntmps20
  go_wp2
  all_goals go_ret2
  all_goals exact ⟨rfl, HM.out⟩
set_option maxRecDepth 100000 in
set_option maxHeartbeats 2000000 in
theorem qsend_1 (h : QPic w G R v1 v2 luck ms) {x : Int} {r : List Int} (hlu : luck = x :: r) (hr : restN x = 1) (hb : luck.length ≤ 1099511627776) (to : Int) (ad : Option Addr) (len cap : Nat) {late : List Msg} (hms : ms.map QM.msg = late) :
    Calls Tryd.prog 20 #[.pointer (some ⟨R, 0, none⟩), .int .i64 to, .slice ad len cap] w fun e w' => e = .returned (.tuple #[.int .i64 0, .bool false]) ∧ QMoved G R ⟨r, late⟩ w w' := by
  obtain ⟨g, o, cp, A, hv, hA, c0, f0, cx, hp1, HM⟩ := qwait h hlu hms
  subst hv
  have hq0 := Int.tmod_lt_of_pos x (show (0 : Int) < 5 by omega)
  have hq1 := Int.lt_tmod_of_pos x (show (0 : Int) < 5 by omega)
  have hgo : (x.tmod 5 + 5) % 5 = 1 := by
    have h := restN_go x
    rw [hr, Int.tmod_eq_emod_of_nonneg (by omega)] at h
    exact h
  have hln : luck.length = r.length + 1 := by rw [hlu]; rfl
  rw [hln] at hb c0
  clear h hlu hr hms hln
  go_enter Tryd.func20, Tryd.ntmps20
  go_wp2
  all_goals go_ret2
  all_goals exact ⟨rfl, HM.out⟩
set_option maxRecDepth 100000 in
set_option maxHeartbeats 2000000 in
theorem qsend_2 (h : QPic w G R v1 v2 luck ms) {x : Int} {r : List Int} (hlu : luck = x :: r) (hr : restN x = 2) (hb : luck.length ≤ 1099511627776) (to : Int) (ad : Option Addr) (len cap : Nat) {late : List Msg} (hms : ms.map QM.msg = late) :
    Calls Tryd.prog 20 #[.pointer (some ⟨R, 0, none⟩), .int .i64 to, .slice ad len cap] w fun e w' => e = .returned (.tuple #[.int .i64 1, .bool false]) ∧ QMoved G R ⟨r, late⟩ w w' := by
  obtain ⟨g, o, cp, A, hv, hA, c0, f0, cx, hp1, HM⟩ := qwait h hlu hms
  subst hv
  have hq0 := Int.tmod_lt_of_pos x (show (0 : Int) < 5 by omega)
  have hq1 := Int.lt_tmod_of_pos x (show (0 : Int) < 5 by omega)
  have hgo : (x.tmod 5 + 5) % 5 = 2 := by
    have h := restN_go x
    rw [hr, Int.tmod_eq_emod_of_nonneg (by omega)] at h
    exact h
  have hln : luck.length = r.length + 1 := by rw [hlu]; rfl
  rw [hln] at hb c0
  clear h hlu hr hms hln
  go_enter Tryd.func20, Tryd.ntmps20
  go_wp2
  all_goals go_ret2
  all_goals exact ⟨rfl, HM.out⟩
set_option maxRecDepth 100000 in
set_option maxHeartbeats 2000000 in
theorem qsend_4 (h : QPic w G R v1 v2 luck ms) {x : Int} {r : List Int} (hlu : luck = x :: r) (hr : restN x = 4) (hb : luck.length ≤ 1099511627776) (to : Int) (ad : Option Addr) (len cap : Nat) {late : List Msg} (hms : ms.map QM.msg = late) :
    Calls Tryd.prog 20 #[.pointer (some ⟨R, 0, none⟩), .int .i64 to, .slice ad len cap] w fun e w' => e = .returned (.tuple #[.int .i64 2, .bool true]) ∧ QMoved G R ⟨r, late⟩ w w' := by
  obtain ⟨g, o, cp, A, hv, hA, c0, f0, cx, hp1, HM⟩ := qwait h hlu hms
  subst hv
  have hq0 := Int.tmod_lt_of_pos x (show (0 : Int) < 5 by omega)
  have hq1 := Int.lt_tmod_of_pos x (show (0 : Int) < 5 by omega)
  have hgo : (x.tmod 5 + 5) % 5 = 4 := by
    have h := restN_go x
    rw [hr, Int.tmod_eq_emod_of_nonneg (by omega)] at h
    exact h
  have hln : luck.length = r.length + 1 := by rw [hlu]; rfl
  rw [hln] at hb c0
  clear h hlu hr hms hln
  go_enter Tryd.func20, Tryd.ntmps20
  go_wp2
  all_goals go_ret2
  all_goals exact ⟨rfl, HM.out⟩
set_option maxRecDepth 100000 in
set_option maxHeartbeats 4000000 in
theorem qsend_3 (h : QPic w G R v1 v2 luck ms) {x : Int} {r : List Int} (hlu : luck = x :: r) (hr : restN x = 3) (hb : luck.length ≤ 1099511627776) (hmb : ms.length ≤ 4194304) (to : Int) (ad : Option Addr) (len cap : Nat) (l : List Nat) (hp : Part.ok w ⟨ad, len, cap, l⟩) (hlen : len ≤ 1048576) (hnR : ∀ b off, ad = some ⟨b, off, none⟩ → l ≠ [] → b ∉ G) {late : List Msg} (hms : ms.map QM.msg = late) :
    Calls Tryd.prog 20 #[.pointer (some ⟨R, 0, none⟩), .int .i64 to, .slice ad len cap] w fun e w' => e = .returned (.tuple #[.int .i64 0, .bool false]) ∧ QMoved G R ⟨r, late ++ [⟨to, l⟩]⟩ w w' := by
  obtain ⟨g, o, cp, A, hv, hA, c0, f0, cx, hp1, HM⟩ := qwait h hlu hms
  subst hv
  obtain ⟨i0, hi, hz0, hz1, hz2⟩ := info_parts Tryd.infoQ
  have hq0 := Int.tmod_lt_of_pos x (show (0 : Int) < 5 by omega)
  have hq1 := Int.lt_tmod_of_pos x (show (0 : Int) < 5 by omega)
  have hgo : (x.tmod 5 + 5) % 5 = 3 := by
    have h := restN_go x
    rw [hr, Int.tmod_eq_emod_of_nonneg (by omega)] at h
    exact h
  have hln : luck.length = r.length + 1 := by rw [hlu]; rfl
  rw [hln] at hb c0
  obtain ⟨W1, hW1⟩ : ∃ W1, w.setCell ⟨R, 0, none⟩ (.slice (some A) r.length (cp - 1)) = W1 := ⟨_, rfl⟩
  rw [hW1] at HM
  obtain ⟨G1, ⟨a1, a2, ms1, hq, hms1⟩, hG1⟩ := HM.out.net
  have hsz : ms1.length = ms.length := by
    have e1 := congrArg List.length hms1
    have e2 := congrArg List.length hms
    simp at e1 e2
    omega
  rw [← hsz] at hmb
  obtain ⟨pa, ca, hva, -, -⟩ := hq.r2.form
  subst hva
  have HP1 : Hid (Part.ok W1 ⟨ad, len, cap, l⟩) := hp.chg HM.out.chg hnR
  have HQ := hide hq
  have HG1 := hide hG1
  have HMS1 : Hid (ms1.map QM.msg = late) := hms1
  have hRl := hq.lt R hq.mD
  have HE : Hid ((W1.alloc (.cells #[] 5)).drew.ownsRow W1.heap.size 5 1 (.slice (some ⟨W1.heap.size, 0, none⟩) 0 0) 0 (([] : List Nat).map bv)) := empty_own W1.drew W1.heap.size (Nat.le_refl _)
  have HR : Hid (Row (W1.alloc (.cells #[] 5)).drew ad l) := (HP1.out.later (((Below.refl _ W1).alloc (Nat.le_refl _) _).drew)).2.2
  have HCR : Hid (∀ W, Below W1.heap.size W1 W → W.cell? ⟨R, 1, none⟩ = some (.slice pa ms1.length ca)) := fun W hb => (hb.cell (p := ⟨R, 1, none⟩) hRl).trans hq.cells.2
  have d1 := HCR.out _ ((Below.refl _ W1).drew)
  have d2 := HCR.out _ (((Below.refl _ W1).alloc (Nat.le_refl _) (.cells #[] 5)).drew)
  have d0 : W1.cell? ⟨R, 1, none⟩ = some (.slice pa ms1.length ca) := hq.cells.2
  clear h hlu hr hms hln hp hnR hq hG1 hms1 hsz
  go_enter Tryd.func20, Tryd.ntmps20
  go_wp2_with fail
  go_region_law
    (first
      | (refine step_app_any (by rfl) (.tmp 45) (.tmp 46) (by rfl) W1.heap.size (.slice (some ⟨W1.heap.size, 0, none⟩) 0 0) 0 [] (by rfl) HE.out ad len cap l (by rfl) HP1.out.1 HP1.out.2.1 HR.out (by omega) (by simp) ?_; intro v4 w4 o4 g4; have hw4 : Below W1.heap.size W1 w4 := (((Below.refl _ W1).alloc (Nat.le_refl _) _).drew).grown g4 (by simp) (fun k hk => (by simp [Value.ownBlock] at hk; omega)); have HW4 := hide hw4; obtain ⟨p4, c4, hv4, hq4, hq5⟩ := part_new HP1.out.1 HP1.out.2.2.1 o4; subst hv4; have HQ4 := hide hq4; have HQ5 := hide hq5; have d3 := HCR.out w4 hw4; have d4 := HCR.out _ (hw4.alloc hw4.size (.cells #[.int .i64 to, .slice p4 len c4] 68)); clear o4 g4 hq4 hq5 hw4)
      | (refine step_app_off (by rfl) (.tmp 43) (.tmp 49) 27 (by rfl) i0 (.agg #[.int .i64 0, .slice none 0 0]) 32 Tryd.underlying27 hi hz0 hz1 hz2 rfl (by decide) (HQ.out.r2.below (HW4.out.alloc HW4.out.size (.cells #[.int .i64 to, .slice p4 len c4] TQ))) (some ⟨w4.heap.size, 0, none⟩) 1 1 (qmsV [⟨to, p4, len, c4, l⟩]) (by rfl) (by rfl) rfl (qm_src w4 ⟨to, p4, len, c4, l⟩) (qmsV_one _) (by unfold maxLen; omega) (by omega) ?_; intro u5 w5 hr5 hg5 hu5; have X5 := hide (qsend_end HQ.out HW4.out HQ4.out hlen HQ5.out hr5 hg5 hu5 HMS1.out); obtain ⟨p5, c5, hv5, -, -⟩ := hr5.form; subst hv5; have hD5 : Blk w5 R #[a1, .slice pa ms1.length ca] TR := X5.out.1; have cw : w5.cell? ⟨R, 1, none⟩ = some (.slice pa ms1.length ca) := hD5.cell 1; have fw := hD5.free 1; clear hr5 hg5 hu5 hD5))
  all_goals go_wp2
  all_goals go_ret2
  all_goals exact ⟨rfl, X5.out.2.comp HM.out HG1.out⟩
/-- What Send answers and leaves. -/
theorem qsend_pic (h : QPic w G R v1 v2 luck ms) (hs : s.luck = luck) (hms : ms.map QM.msg = s.late) (hb : luck.length ≤ 1099511627776) (hmb : ms.length ≤ 4194304) (to : Int) (ad : Option Addr) (len cap : Nat) (l : List Nat) (hp : Part.ok w ⟨ad, len, cap, l⟩) (hlen : len ≤ 1048576) (hnR : ∀ b off, ad = some ⟨b, off, none⟩ → l ≠ [] → b ∉ G) :
    Calls Tryd.prog 20 #[.pointer (some ⟨R, 0, none⟩), .int .i64 to, .slice ad len cap] w fun e w' => e = .returned (.tuple #[.int .i64 (timesN (fateD s)), .bool (replyN (fateD s))]) ∧ QMoved G R (sendD s to l) w w' := by
  cases hc : luck with
  | nil =>
    have hf : fateD s = 0 := by unfold fateD; rw [hs, hc]
    have hd : sendD s to l = s := by
      unfold sendD
      rw [hf]
      obtain ⟨a, b⟩ := s
      simp only at hs
      subst hs
      rw [hc]
      rfl
    rw [hf, hd]
    rw [hc] at h hs
    exact qsend_none h to ad len cap hs hms
  | cons x r =>
    have hf : fateD s = restN x := by unfold fateD; rw [hs, hc]
    have ht : s.luck.tail = r := by rw [hs, hc]; rfl
    have hlt := restN_lt x
    unfold sendD
    rw [hf, ht]
    rcases (show restN x = 0 ∨ restN x = 1 ∨ restN x = 2 ∨ restN x = 3 ∨ restN x = 4 by omega) with hr | hr | hr | hr | hr
    · rw [hr]; exact qsend_0 h hc hr hb to ad len cap hms
    · rw [hr]; exact qsend_1 h hc hr hb to ad len cap hms
    · rw [hr]; exact qsend_2 h hc hr hb to ad len cap hms
    · rw [hr]; exact qsend_3 h hc hr hb hmb to ad len cap l hp hlen hnR hms
    · rw [hr]; exact qsend_4 h hc hr hb to ad len cap hms
end Go.Proofs.YtgbjlkaaniaaaaaDoor
