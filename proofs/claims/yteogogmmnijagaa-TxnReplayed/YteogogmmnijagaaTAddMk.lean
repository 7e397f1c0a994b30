/- producer.add and producer.mark of package txn. -/
import Derived.Test.YteogogmmnijagaaTProd
namespace Go.Proofs.Yteogogmmnijagaa
open Go.RowKit
variable {w w' w1 wA : World} {F : List Nat} {g M pb m c i : Nat} {v : Value} {Z : List (Pr × Sl)} {B : Bk} {s s' : Sl}

/-- The places of one producer anew, and the cell that tells where they lie. -/
theorem BP.placed (h : BP w F g M (.slice (some ⟨pb, 0, none⟩) m c) Z B) (hi : i < B.ps.length) (hs : Z[i]? = some (B.at i, s)) (hc : Chg s.v.ownBlock.toList w w1) {pl' : List Int} (hpl : OwnK kZ w1 0 s'.v pl') (hob : ∀ b, s'.v.ownBlock = some b → s.v.ownBlock = some b ∨ (w.heap.size ≤ b ∧ b < w1.heap.size)) :
    PMv w (w1.setCell ⟨pb, i * 5 + 4, none⟩ s'.v) F g M (.slice (some ⟨pb, 0, none⟩) m c) (B.upd i { B.at i with pl := pl' }) := by
  have hc2 : Chg [pb] w1 (w1.setCell ⟨pb, i * 5 + 4, none⟩ s'.v) := (Chg.refl _ _).set (Or.inl (by simp)) _ _
  have hVb : (Value.slice (some ⟨pb, 0, none⟩) m c).ownBlock = some pb := rfl
  have hown := h.pl i _ hs
  have nmem : ∀ b, s.v.ownBlock ≠ some b → b ∉ s.v.ownBlock.toList := fun b hb hm => hb (by simpa using hm)
  have hlm : Z.length = m := by obtain ⟨cur, -, h2, -⟩ := h.row.opened; exact h2
  have n1 : s.v.ownBlock ≠ some pb := fun e => own_own_ne hown e h.row (by decide) hVb
  have n2 : s.v.ownBlock ≠ some g := fun e => own_blk_ne hown e h.box (by decide) rfl
  have n3 : s.v.ownBlock ≠ some M := fun e => own_map_ne hown e h.map rfl
  have rowK := h.row.chg hc (fun b hb => by rw [hVb] at hb; cases hb; exact nmem _ n1)
  have boxK := h.box.chg hc (nmem _ n2)
  have mapK : MapF w1 9 M B.ps.length (numF B.num) := h.map.keep (hc.block M h.map.lt (nmem _ n3))
  have n4 : pb ≠ g := own_blk_ne h.row hVb h.box (by decide)
  have n5 : pb ≠ M := own_map_ne h.row hVb h.map
  have n6 : s'.v.ownBlock ≠ some pb := fun e => own_own_ne hpl e rowK (by decide) hVb
  have hgd : Z.getD i kPr.z = (B.at i, s) := by rw [List.getD_eq_getElem?_getD, hs]; rfl
  have hset : ∀ (j : Nat) (y : Pr × Sl), (Z.set i ({ B.at i with pl := pl' }, s'))[j]? = some y → (j = i ∧ y = ({ B.at i with pl := pl' }, s')) ∨ (j ≠ i ∧ Z[j]? = some y) := fun j y hy => by
    by_cases e : j = i
    · subst e
      rw [List.getElem?_set_self (by rw [h.len]; exact hi)] at hy
      exact Or.inl ⟨rfl, (Option.some.inj hy).symm⟩
    · rw [List.getElem?_set_ne (fun h => e h.symm)] at hy
      exact Or.inr ⟨e, hy⟩
  have hoth : ∀ (j : Nat) (y : Pr × Sl) (b : Nat), j ≠ i → Z[j]? = some y → y.2.v.ownBlock = some b → s.v.ownBlock ≠ some b := fun j y b hj hy hb hb' => hj (h.apart j i y _ b hy hs hb hb')
  have hnew : ∀ (j : Nat) (y : Pr × Sl) (b : Nat), j ≠ i → Z[j]? = some y → y.2.v.ownBlock = some b → s'.v.ownBlock ≠ some b := fun j y b hj hy hb hb' => by
    rcases hob b hb' with e | ⟨e, -⟩
    · exact hoth j y b hj hy hb e
    · have := ((h.pl j y hy).block b hb).2.1; omega
  refine ⟨F ++ s'.v.ownBlock.toList, Z.set i ({ B.at i with pl := pl' }, s'), ⟨boxK.chg hc2 (by simp; omega), ?_, ?_, by rw [map_set_fst, h.ps]; rfl, fun j y hy => ?_, fun j k y x b hy hx hb hb' => ?_, by simp [h.inG], by simp [h.inM], fun b hb => by simp [h.inV b hb], fun j y b hy hb => ?_⟩, ?_, fun b hb => ?_⟩
  · rw [Bk.upd_len]
    exact mapK.keep (hc2.block M mapK.lt (by simp; omega))
  · exact rowK.setC kPr_ok.tofit i (by rw [← hlm, h.len]; exact hi) 4 (by decide) _ _ (by rw [hgd]; rfl)
  · rcases hset j y hy with ⟨rfl, rfl⟩ | ⟨nj, hz⟩
    · exact hpl.chg hc2 (fun b hb hm => by simp at hm; subst hm; exact n6 hb)
    · exact ((h.pl j y hz).chg hc (fun b hb => nmem b (hoth j y b nj hz hb))).chg hc2 (fun b hb hm => by simp at hm; subst hm; exact own_own_ne (h.pl j y hz) hb h.row (by decide) hVb)
  · rcases hset j y hy with ⟨rfl, rfl⟩ | ⟨nj, hz⟩
    · rcases hset k x hx with ⟨rfl, rfl⟩ | ⟨nk, hz'⟩
      · rfl
      · exact absurd hb (hnew k x b nk hz' hb')
    · rcases hset k x hx with ⟨rfl, rfl⟩ | ⟨nk, hz'⟩
      · exact absurd hb' (hnew j y b nj hz hb)
      · exact h.apart j k y x b hz hz' hb hb'
  · rcases hset j y hy with ⟨rfl, rfl⟩ | ⟨-, hz⟩
    · simp [hb]
    · simp [h.inP j y b hz hb]
  · exact (hc.mono (fun k hk => h.inP i _ k hs (by simpa using hk))).set (Or.inl (h.inV pb rfl)) _ _
  · rcases List.mem_append.1 hb with e | e
    · exact Or.inl e
    · rcases hob b (by simpa using e) with e' | ⟨e1, e2⟩
      · exact Or.inl (h.inP i _ b hs e')
      · exact Or.inr ⟨e1, by simpa using e2⟩
theorem own_sl {w : World} {v : Value} {xs : List Int} (h : OwnK kZ w 0 v xs) : ∃ t : Sl, v = .slice t.ad t.m t.c := by
  obtain ⟨ad, cap, e, -⟩ := h.form kZ_ok.tofit
  exact ⟨⟨ad, xs.length, cap⟩, e⟩
theorem cnt_le (x : Int) (xs : List Int) : cntP x xs ≤ xs.length := List.countP_le_length
/-- What add's second half needs. -/
theorem add_facts (h : BP wA F g M (.slice (some ⟨pb, 0, none⟩) m c) Z B) (hi : i < B.ps.length) (hs : Z[i]? = some (B.at i, s)) (hF : ∀ b ∈ F, b < wA.heap.size) (hr : (B.at i).pl.Pairwise (· < ·)) (hl : (B.at i).pl.length ≤ 100) (x : Int) :
    (Calls Try.prog 63 #[.slice s.ad s.m s.c, .int .i64 x] wA fun e w' => e = .returned (.tuple #[.int .i64 (cntP x (B.at i).pl : Int), .bool ((B.at i).pl.contains x)]) ∧ Below wA.heap.size wA w') ∧
    (∀ wB, Below wA.heap.size wA wB → wB.cell? ⟨pb, i * 5 + 4, none⟩ = some (.slice s.ad s.m s.c)) ∧
    (∀ wB, Below wA.heap.size wA wB → Calls Try.prog 67 #[.slice s.ad s.m s.c, .int .i64 (cntP x (B.at i).pl : Int), .slice (some ⟨wB.heap.size, 0, none⟩) 1 1] (wB.alloc (.cells #[.int .i64 x] 3)) fun e w' => ∃ t : Sl, e = .returned (.slice t.ad t.m t.c) ∧ w'.cell? ⟨pb, i * 5 + 4, none⟩ = some (.slice s.ad s.m s.c) ∧ w'.frozen? ⟨pb, i * 5 + 4, none⟩ = false ∧ PMv wA (w'.setCell ⟨pb, i * 5 + 4, none⟩ (.slice t.ad t.m t.c)) F g M (.slice (some ⟨pb, 0, none⟩) m c) (B.upd i { B.at i with pl := insZ (B.at i).pl (cntP x (B.at i).pl) x })) := by
  have hown := h.pl i _ hs
  refine ⟨search_own hown hr hl x, fun wB hb => ((h.later hb).cells hi hs).2.2.2.2.1, fun wB hb => ?_⟩
  have hb2 : Below wA.heap.size wA (wB.alloc (.cells #[.int .i64 x] 3)) := hb.alloc hb.size _
  have h2 := h.later hb2
  have hown2 := h2.pl i _ hs
  have hF2 : ∀ b ∈ F, b < (wB.alloc (.cells #[.int .i64 x] 3)).heap.size := fun b hm => Nat.lt_of_lt_of_le (hF b hm) hb2.size
  have hI := insert_own hown2 hl (cntP x (B.at i).pl) (cnt_le _ _) x (vb := wB.heap.size) (heap_alloc_new wB _) (fun e => by
    have h1 := hF _ (h.inP i _ _ hs e)
    have h3 := hb.size
    omega)
  refine hI.mono ?_
  rintro e w' ⟨v', rfl, ho, hch, hob⟩
  obtain ⟨t, rfl⟩ := own_sl ho
  have hP := BP.placed (s' := t) h2 hi hs hch ho hob
  have n1 : s.v.ownBlock ≠ some pb := fun e => own_own_ne hown2 e h2.row (by decide) rfl
  have hk : w'.heap[pb]? = (wB.alloc (.cells #[.int .i64 x] 3)).heap[pb]? := hch.block pb (hF2 pb (h.inV pb rfl)) (fun hm => n1 (by simpa using hm))
  obtain ⟨-, -, -, -, c4, fz⟩ := h2.cells hi hs
  refine ⟨t, rfl, ?_, ?_, PMv.trans (Chg.of hb2) hP⟩
  · simp only [World.cell?, hk] at c4 ⊢; exact c4
  · have := fz (i * 5 + 4); simp only [World.frozen?, hk] at this ⊢; exact this
set_option maxRecDepth 20000 in
set_option maxHeartbeats 1000000 in
theorem add_any (h : BP w F g M (.slice (some ⟨pb, 0, none⟩) m c) Z B) (hF : ∀ b ∈ F, b < w.heap.size) (hB : BkOk B) (hi : i < B.ps.length) (x now : Int) : Calls Try.prog 51 #[Ptr pb i, .int .i64 x, .int .i64 now] w fun e w' => e = .returned (.tuple #[]) ∧ PMv w w' F g M (.slice (some ⟨pb, 0, none⟩) m c) (B.upd i ((B.at i).add x now)) := by
  obtain ⟨s, hs, -, -⟩ := h.get hi
  obtain ⟨-, -, c2, c3, c4w, fz⟩ := h.cells hi hs
  have f2 := fz (i * 5 + 2)
  have f3 := fz (i * 5 + 3)
  have hz : i < Z.length := by rw [h.len]; exact hi
  unfold Ptr
  by_cases h0 : (B.at i).st = 0
  · have h1 := h.num hi hs 2 (by decide) { B.at i with st := 1 } (.int .i64 1) rfl rfl
    have h2 := h1.num (i := i) (by rw [Bk.upd_len]; exact hi) (s := s) (by rw [Bk.upd_at hi]; exact set_get hz _) 3 (by decide) { B.at i with st := 1, since := now } (.int .i64 now) (by rw [Bk.upd_at hi]) (by rw [Bk.upd_at hi]; rfl)
    rw [Bk.upd_upd] at h2
    have hch : Chg F w ((w.setCell ⟨pb, i * 5 + 2, none⟩ (.int .i64 1)).setCell ⟨pb, i * 5 + 3, none⟩ (.int .i64 now)) := ((Chg.refl _ _).set (Or.inl (h.inV pb rfl)) _ _).set (Or.inl (h.inV pb rfl)) _ _
    have hF2 : ∀ b ∈ F, b < ((w.setCell ⟨pb, i * 5 + 2, none⟩ (.int .i64 1)).setCell ⟨pb, i * 5 + 3, none⟩ (.int .i64 now)).heap.size := fun b hb => Nat.lt_of_lt_of_le (hF b hb) hch.size
    obtain ⟨q1, q2, q3⟩ := add_facts h2 (i := i) (by rw [Bk.upd_len]; exact hi) (s := s) (by rw [Bk.upd_at hi]; exact set_get (by simpa using hz) _) hF2 (by rw [Bk.upd_at hi]; exact (hB.at i).rise) (by rw [Bk.upd_at hi]; exact (hB.at i).cnt) x
    rw [Bk.upd_at hi] at q1 q3
    rw [Bk.upd_upd] at q3
    have ea : (B.at i).add x now = { B.at i with st := 1, since := now, pl := insZ (B.at i).pl (cntP x (B.at i).pl) x } := by simp [Pr.add, Pr.open, h0]
    have HP : Hid (∀ w'', PMv ((w.setCell ⟨pb, i * 5 + 2, none⟩ (.int .i64 1)).setCell ⟨pb, i * 5 + 3, none⟩ (.int .i64 now)) w'' F g M (.slice (some ⟨pb, 0, none⟩) m c) (B.upd i { B.at i with st := 1, since := now, pl := insZ (B.at i).pl (cntP x (B.at i).pl) x }) → PMv w w'' F g M (.slice (some ⟨pb, 0, none⟩) m c) (B.upd i ((B.at i).add x now))) := fun w'' hh => by rw [ea]; exact PMv.trans hch hh
    have Q1 := hid q1
    have Q2 := hid q2
    have Q3 := hid q3
    rw [h0] at c2
    clear q1 q2 q3 h1 h2 ea hch hF2 h0
    dsimp only at Q1 Q3
    generalize B.upd i { B.at i with st := 1, since := now, pl := insZ (B.at i).pl (cntP x (B.at i).pl) x } = B2 at *
    generalize (B.at i).pl.contains x = ct at *
    generalize cntP x (B.at i).pl = kk at *
    generalize i * 5 = o at *
    go_enter Try.func51, Try.ntmps51
    go_wp2_with (first | (go_at_call 63; refine Q1.out.mono ?_; rintro e w1 ⟨rfl, hb1⟩; have HB1 := hid hb1; have c4 := Q2.out w1 hb1; clear hb1) | (go_at_call 67; refine (Q3.out w1 HB1.out).mono ?_; rintro e w4 ⟨t, rfl, d4, f4, hp⟩; have HM := hid hp; clear hp))
    go_end0
    exact ⟨rfl, HP.out _ HM.out⟩
  · obtain ⟨q1, q2, q3⟩ := add_facts h hi hs hF (hB.at i).rise (hB.at i).cnt x
    have ea : (B.at i).add x now = { B.at i with pl := insZ (B.at i).pl (cntP x (B.at i).pl) x } := by simp [Pr.add, Pr.open, h0]
    rw [← ea] at q3
    have Q1 := hid q1
    have Q2 := hid q2
    have Q3 := hid q3
    have d0 : ((B.at i).st == 0) = false := by simpa using h0
    clear q1 q2 q3 ea h0
    generalize B.upd i ((B.at i).add x now) = B2 at *
    generalize (B.at i).pl.contains x = ct at *
    generalize cntP x (B.at i).pl = kk at *
    generalize (B.at i).st = st at *
    generalize i * 5 = o at *
    go_enter Try.func51, Try.ntmps51
    go_wp2_with (first | (go_at_call 63; refine Q1.out.mono ?_; rintro e w1 ⟨rfl, hb1⟩; have HB1 := hid hb1; have c4 := Q2.out w1 hb1; clear hb1) | (go_at_call 67; refine (Q3.out w1 HB1.out).mono ?_; rintro e w4 ⟨t, rfl, d4, f4, hp⟩; have HM := hid hp; clear hp))
    go_end0
    exact ⟨rfl, HM.out⟩
theorem erase_cnt {x : Int} : ∀ {xs : List Int}, xs.Pairwise (· < ·) → x ∈ xs → cntP x xs < xs.length ∧ xs.eraseIdx (cntP x xs) = xs.erase x
  | [], _, h => by cases h
  | a :: l, hs, h => by
    have hs2 := List.pairwise_cons.1 hs
    by_cases hax : a = x
    · subst hax
      have h0 : cntP a (a :: l) = 0 := by
        unfold cntP
        rw [List.countP_eq_zero]
        intro y hy
        rcases List.mem_cons.1 hy with rfl | hy
        · simp
        · have := hs2.1 y hy; simp; omega
      rw [h0]
      simp
    · have hx : x ∈ l := by
        rcases List.mem_cons.1 h with h | h
        · exact absurd h.symm hax
        · exact h
      have hlt := hs2.1 x hx
      have h1 : cntP x (a :: l) = cntP x l + 1 := by unfold cntP; rw [List.countP_cons_of_pos (by simpa using hlt)]
      obtain ⟨e1, e2⟩ := erase_cnt hs2.2 hx
      rw [h1]
      refine ⟨by simp; exact e1, ?_⟩
      rw [List.eraseIdx_cons_succ, e2, List.erase_cons_tail (by simpa using hax)]
theorem own_some {w : World} {v : Value} {xs : List Int} (h : OwnK kZ w 0 v xs) (hx : 0 < xs.length) : ∃ b cap, v = .slice (some ⟨b, 0, none⟩) xs.length cap := by
  rcases own_cells h with ⟨-, rfl⟩ | ⟨b, cap, cur, e, -⟩
  · simp at hx
  · exact ⟨b, cap, e⟩
set_option maxRecDepth 20000 in
set_option maxHeartbeats 1000000 in
theorem mark_any (h : BP w F g M (.slice (some ⟨pb, 0, none⟩) m c) Z B) (hF : ∀ b ∈ F, b < w.heap.size) (hB : BkOk B) (hi : i < B.ps.length) (x : Int) (hx : x ∈ (B.at i).pl) : Calls Try.prog 52 #[Ptr pb i, .int .i64 x] w fun e w' => e = .returned (.tuple #[]) ∧ PMv w w' F g M (.slice (some ⟨pb, 0, none⟩) m c) (B.upd i ((B.at i).mark x)) := by
  obtain ⟨s, hs, -, -⟩ := h.get hi
  obtain ⟨-, -, -, -, c4w, -⟩ := h.cells hi hs
  have hown := h.pl i _ hs
  have hr := (hB.at i).rise
  obtain ⟨k1, -⟩ := erase_cnt hr hx
  have Q1 := hid (search_own hown hr (hB.at i).cnt x)
  obtain ⟨b, cap, hsv⟩ := own_some hown (Nat.lt_of_le_of_lt (Nat.zero_le _) k1)
  have hsv2 : (Value.slice s.ad s.m s.c) = .slice (some ⟨b, 0, none⟩) (B.at i).pl.length cap := hsv
  have Q2 : Hid (∀ wB, Below w.heap.size w wB → wB.cell? ⟨pb, i * 5 + 4, none⟩ = some (.slice (some ⟨b, 0, none⟩) (B.at i).pl.length cap)) := fun wB hb => by rw [← hsv2]; exact ((h.later hb).cells hi hs).2.2.2.2.1
  have Q3 : Hid (∀ wB, Below w.heap.size w wB → Calls Try.prog 68 #[.slice (some ⟨b, 0, none⟩) (B.at i).pl.length cap, .int .i64 (cntP x (B.at i).pl : Int), .int .i64 ((cntP x (B.at i).pl : Int) + 1)] wB fun e w' => e = .returned (.slice (some ⟨b, 0, none⟩) ((B.at i).pl.length - 1) cap) ∧ w'.cell? ⟨pb, i * 5 + 4, none⟩ = some (.slice (some ⟨b, 0, none⟩) (B.at i).pl.length cap) ∧ w'.frozen? ⟨pb, i * 5 + 4, none⟩ = false ∧ Calls Try.prog 66 #[Ptr pb i] (w'.setCell ⟨pb, i * 5 + 4, none⟩ (.slice (some ⟨b, 0, none⟩) ((B.at i).pl.length - 1) cap)) fun e w'' => e = .returned (.tuple #[]) ∧ PMv w w'' F g M (.slice (some ⟨pb, 0, none⟩) m c) (B.upd i ((B.at i).mark x))) := fun wB hb => by
    have h2 := h.later hb
    have hown2 := h2.pl i _ hs
    rw [show (B.at i, s).2.v = _ from hsv] at hown2
    have hD := delete_own hown2 k1
    rw [show (((cntP x (B.at i).pl + 1 : Nat)) : Int) = (cntP x (B.at i).pl : Int) + 1 by omega] at hD
    refine hD.mono ?_
    rintro e w' ⟨rfl, ho, hch⟩
    have hF2 : ∀ b ∈ F, b < wB.heap.size := fun b hm => Nat.lt_of_lt_of_le (hF b hm) hb.size
    have hsb : s.v.ownBlock = some b := by rw [show s.v = _ from hsv]; rfl
    have hP := BP.placed (s' := ⟨some ⟨b, 0, none⟩, (B.at i).pl.length - 1, cap⟩) h2 hi hs (by rw [hsb]; exact hch) ho (fun b' hb' => Or.inl (by rw [hsb]; exact hb'))
    have n1 : b ≠ pb := fun e => own_own_ne hown2 rfl h2.row (by decide) (by rw [e]; rfl)
    have hk : w'.heap[pb]? = wB.heap[pb]? := hch.block pb (hF2 pb (h.inV pb rfl)) (by simp; omega)
    obtain ⟨-, -, -, -, c4, fz⟩ := h2.cells hi hs
    refine ⟨rfl, ?_, ?_, ?_⟩
    · rw [hsv2] at c4; simp only [World.cell?, hk] at c4 ⊢; exact c4
    · have := fz (i * 5 + 4); simp only [World.frozen?, hk] at this ⊢; exact this
    · obtain ⟨F', Z', hb', hch', hin'⟩ := PMv.trans (Chg.of hb) hP
      refine (settle_any hb' (i := i) (by rw [Bk.upd_len]; exact hi)).mono ?_
      rintro e w'' ⟨rfl, ⟨F2, Z2, p1, p2, p3⟩, -⟩
      rw [Bk.upd_at hi, Bk.upd_upd] at p1
      refine ⟨rfl, F2, Z2, p1, hch'.trans p2 (fun k hk => ?_), fun k hk => ?_⟩
      · rcases hin' k hk with e | ⟨e, -⟩
        · exact Or.inl e
        · exact Or.inr e
      · rcases p3 k hk with e | ⟨e1, e2⟩
        · rcases hin' k e with e | ⟨e1, e2⟩
          · exact Or.inl e
          · exact Or.inr ⟨e1, Nat.lt_of_lt_of_le e2 p2.size⟩
        · exact Or.inr ⟨Nat.le_trans hch'.size e1, e2⟩
  rw [show (B.at i, s).2.v = _ from hsv] at Q1
  rw [hsv2] at c4w
  have hw : IntKind.i64.wrap ((cntP x (B.at i).pl : Int) + 1) = (cntP x (B.at i).pl : Int) + 1 := by rw [IntKind.wrap_i64]; have := (hB.at i).cnt; omega
  unfold Ptr at *
  generalize B.upd i ((B.at i).mark x) = B2 at *
  dsimp only at Q1
  generalize (B.at i).pl.contains x = ct at *
  generalize cntP x (B.at i).pl = kk at *
  generalize (B.at i).pl.length - 1 = l1 at *
  generalize (B.at i).pl.length = l0 at *
  generalize i * 5 = o at *
  clear hsv hsv2 k1
  go_enter Try.func52, Try.ntmps52
  go_wp2_with (first | (go_at_call 63; refine Q1.out.mono ?_; rintro e w1 ⟨rfl, hb1⟩; have HB1 := hid hb1; have c4 := Q2.out w1 hb1; clear hb1) | (go_at_call 68; refine (Q3.out w1 HB1.out).mono ?_; rintro e w4 ⟨rfl, d4, f4, hp⟩; have HM := hid hp; clear hp) | (go_at_call 66; refine HM.out.mono ?_; rintro e w5 ⟨rfl, hp⟩; have HE := hid hp; clear hp))
  go_end0
  exact ⟨rfl, HE.out⟩
end Go.Proofs.Yteogogmmnijagaa
