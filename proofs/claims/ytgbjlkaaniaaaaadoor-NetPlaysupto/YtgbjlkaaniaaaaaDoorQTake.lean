/- Take and Double of the document's net. -/
import Derived.Test.YtgbjlkaaniaaaaaDoorQMsg
namespace Go.Proofs.YtgbjlkaaniaaaaaDoor
open Go.RowKit
variable {w w' : World} {G : List Nat} {R : Nat} {v1 v2 : Value} {luck : List Int} {ms : List QM} {s : NSt}

/-- 'append(v, x...)' as one step of a region that draws its order. -/
theorem step_app_off {P : Program} {w : World} {ops : Array Oper} {o : Oper} {a : Act} {K : Act → World → Prop} {Q : Exit → Act → World → Prop} {E : Prop} (hgd : o.guard = none) (x y : Operand) (t : TypeId) (ho : o.op = .call { callee := .builtin .append, args := #[x, y], argTypes := #[t, t] })
    {e : TypeId} {size n : Nat} {v : Value} {xs : List Value} (i : TypeInfo) (z : Value) (bytes : Nat) (ht : P.underlying t = some (.slice e)) (hi : P.info? e = some i) (hz : i.zero = some z) (hsize : i.size = size) (hby : i.bytes = bytes) (hzs : z.cells.size = size) (hsz : 0 < size)
    (h : OffRow w e size v n xs) (ad : Option Addr) (m c : Nat) (news : List Value) (hx : a.eval x = v) (hy : a.eval y = .slice ad m c) (hl : news.length = m * size) (hsrc : Src w ad m news) (h1 : ∀ u ∈ news, u.oneCell' = true) (h63 : n + m ≤ maxLen) (hbytes : (n + m) * bytes ≤ 140737488355328)
    (hK : ∀ v' w', OffRow w' e size v' (n + m) (xs ++ news) → w.grownBy w' v.ownBlock → (∀ g, v'.ownBlock = some g → v.ownBlock = some g ∨ w.heap.size ≤ g) → K (a.put o.dst v') w') :
    if Region.wanted o (yielded ops a.tmps) = true then Oper.wp P o a w K Q else E := by
  have hw : Region.wanted o (yielded ops a.tmps) = true := by simp [Region.wanted, hgd]
  rw [if_pos hw]
  obtain ⟨v', w', hr, h2, h3, h4⟩ := run_app_off (P := P) t o.type i z bytes ht hi hz hsize hby hzs hsz h ad m c news hl hsrc h1 h63 hbytes
  unfold Oper.wp
  simp [execOp, ho, resolve, invoke, builtin, hx, hy, hr, Result.andThen]
  exact hK v' w' h2 h3 h4
theorem off_emptyD (w : World) (T : TypeId) (size : Nat) : OffRow (w.alloc (.cells #[] T)).drew T size (.slice (some ⟨w.heap.size, 0, none⟩) 0 0) 0 [] := off_empty w.drew T size
theorem map_erase (ms : List QM) (k : Nat) : (ms.eraseIdx k).map QM.msg = (ms.map QM.msg).eraseIdx k := by
  rw [List.eraseIdx_eq_take_drop_succ, List.eraseIdx_eq_take_drop_succ, List.map_append, List.map_take, List.map_drop]
theorem qms_erase (ms : List QM) (k : Nat) : qmsV (ms.eraseIdx k) = qmsV (ms.take k) ++ qmsV (ms.drop (k + 1)) := by
  rw [List.eraseIdx_eq_take_drop_succ, qmsV_app]
set_option maxRecDepth 100000 in
set_option maxHeartbeats 4000000 in
theorem qtake_pic (h : QPic w G R v1 v2 luck ms) (hl : s.luck = luck) (hms : ms.map QM.msg = s.late) (hb : ms.length ≤ 4194304) (k : Int) :
    Calls Tryd.prog 23 #[.pointer (some ⟨R, 0, none⟩), .int .i64 k] w fun e w' => Tells w w' s k e ∧ QMoved G R (takeD s k) w w' := by
  have hme := qmessage_pic h hms k
  have H := hide h
  have HMS := hide hms
  cases hk : hasD s k with
  | false =>
    have htk : takeD s k = s := by unfold takeD; rw [hk]; rfl
    have HTK := hide htk
    have HSS : Hid (QMoved G R s w w) := QMoved.refl ⟨v1, v2, ms, by rw [hl]; exact h, hms⟩
    have hme2 : Calls Tryd.prog 22 #[.pointer (some ⟨R, 0, none⟩), .int .i64 k] w fun e w' => ∃ Q : Part, e = .returned (.tuple #[.int .i64 (msgD s k).to, .slice Q.ad Q.len Q.cap, .bool false]) ∧ Hid (Tells w w' s k (.returned (.tuple #[.int .i64 (msgD s k).to, .slice Q.ad Q.len Q.cap, .bool false])) ∧ Below w.heap.size w w') := by
      refine hme.mono ?_
      rintro e w' ⟨⟨Q, rfl, q1, q2, q3⟩, hb⟩
      rw [hk]
      exact ⟨Q, rfl, ⟨Q, by rw [hk], q1, q2, q3⟩, hb⟩
    clear h hk htk hms hme hl
    go_enter Tryd.func23, Tryd.ntmps23
    go_wp2_with (go_at_call 22; refine hme2.mono ?_; rintro e w1 ⟨Q, rfl, H1⟩)
    go_ret3
    refine ⟨H1.out.1, ?_⟩
    rw [HTK.out]
    exact HSS.out.later H1.out.2
  | true =>
    obtain ⟨n, hn, rfl, hm⟩ := has_yes hk
    have hlen : s.late.length = ms.length := by rw [← hms, List.length_map]
    have hn2 : n < ms.length := by omega
    have htk : takeD s (n : Int) = ⟨luck, s.late.eraseIdx n⟩ := by unfold takeD; rw [hk, hl]; rfl
    have HTK := hide htk
    have hme2 : Calls Tryd.prog 22 #[.pointer (some ⟨R, 0, none⟩), .int .i64 (n : Int)] w fun e w' => ∃ Q : Part, e = .returned (.tuple #[.int .i64 (msgD s (n : Int)).to, .slice Q.ad Q.len Q.cap, .bool true]) ∧ Hid (Q.l = (msgD s (n : Int)).b ∧ Q.ok w' ∧ (∀ b off, Q.ad = some ⟨b, off, none⟩ → w.heap.size ≤ b) ∧ Below w.heap.size w w') := by
      refine hme.mono ?_
      rintro e w' ⟨⟨Q, rfl, q1, q2, q3⟩, hb⟩
      rw [hk]
      exact ⟨Q, rfl, q1, q2, q3, hb⟩
    obtain ⟨i0, hi, hz0, hz1, hz2⟩ := info_parts Tryd.infoQ
    obtain ⟨g, o, cap, cur, hv, hg, hn1, hm1, hs, hx, hc⟩ := h.r2.cells (by omega)
    subst hv
    have hRl := h.lt R h.mD
    have hgl := h.lt g (h.m2 g rfl)
    have HK := hide hk
    obtain ⟨m, hmm⟩ : ∃ m, ms.length = n + 1 + m := ⟨ms.length - (n + 1), by omega⟩
    have HS1 : Hid (∀ W, Below w.heap.size w W → Src W (some ⟨g, o, none⟩) n (qmsV (ms.take n))) := fun W hb => Or.inr ⟨_, rfl, fun j u hu => by
      have hj := (List.getElem?_eq_some_iff.1 hu).1
      rw [qmsV_len, List.length_take] at hj
      rw [qmsV_take, List.getElem?_take, if_pos (by omega)] at hu
      rw [addr_add, hb.cell (p := ⟨g, o + j, none⟩) hgl, hc j (by omega)]
      exact hu⟩
    obtain ⟨A, hA, HS2⟩ : ∃ A : Addr, (if cap = n + 1 then some (⟨g, o, none⟩ : Addr) else some ⟨g, o + (n + 1) * 2, none⟩) = some A ∧ Hid (∀ W, Below w.heap.size w W → Src W (some A) m (qmsV (ms.drop (n + 1)))) := by
      by_cases hcn : cap = n + 1
      · refine ⟨⟨g, o, none⟩, by simp [hcn], fun W hb => Or.inr ⟨_, rfl, fun j u hu => ?_⟩⟩
        have hj := (List.getElem?_eq_some_iff.1 hu).1
        rw [qmsV_len, List.length_drop] at hj
        omega
      · refine ⟨⟨g, o + (n + 1) * 2, none⟩, by simp [hcn], fun W hb => Or.inr ⟨_, rfl, fun j u hu => ?_⟩⟩
        have hj := (List.getElem?_eq_some_iff.1 hu).1
        rw [qmsV_len, List.length_drop] at hj
        rw [qmsV_drop, List.getElem?_drop] at hu
        rw [addr_add, hb.cell (p := ⟨g, o + (n + 1) * 2 + j, none⟩) hgl, Nat.add_assoc, hc _ (by omega)]
        exact hu
    have HL1 : Hid ((qmsV (ms.take n)).length = n * 2) := by show (qmsV (ms.take n)).length = n * 2; rw [qmsV_len, List.length_take, Nat.min_eq_left (by omega)]
    have HL2 : Hid ((qmsV (ms.drop (n + 1))).length = m * 2) := by show (qmsV (ms.drop (n + 1))).length = m * 2; rw [qmsV_len, List.length_drop]; omega
    have hm2 : cap ≤ 9223372036854775807 := by unfold maxLen at hm1; omega
    have HCR : Hid (∀ W, Below w.heap.size w W → W.cell? ⟨R, 1, none⟩ = some (.slice (some ⟨g, o, none⟩) ms.length cap)) := fun W hb => (hb.cell (p := ⟨R, 1, none⟩) hRl).trans h.cells.2
    rw [hmm] at HCR
    have hi1 : (0 : Int) ≤ (n : Int) + 1 := by omega
    have hi2 : (n : Int) + 1 ≤ (n : Int) + 1 + (m : Int) := by omega
    have hi3 : n ≤ cap := by omega
    have hi4 : n + 1 ≤ cap := by omega
    have hmb : n + 1 + m ≤ 4194304 := by omega
    have hi5 : IntKind.i64.wrap ((n : Int) + 1) = (n : Int) + 1 := by rw [IntKind.wrap_i64]; omega
    have hi6 : (n : Int) ≤ (n : Int) + 1 + (m : Int) := by omega
    have hi7 : (n : Int) ≤ (cap : Int) := by omega
    have hi8 : ((n : Int) + 1).toNat = n + 1 := by omega
    have HMM := hide hmm
    clear h hk htk hms hme hl hn hm hlen hc hx hg hs hmm hn1 hn2
    go_enter Tryd.func23, Tryd.ntmps23
    go_wp2_with (go_at_call 22; refine hme2.mono ?_; rintro e w1 ⟨Q, rfl, H1⟩; clear hme2)
    have ca1 : w1.drew.cell? ⟨R, 1, none⟩ = some (.slice (some ⟨g, o, none⟩) (n + 1 + m) cap) := HCR.out _ (H1.out.2.2.2.drew)
    have ca2 : (w1.alloc (.cells #[] 68)).drew.cell? ⟨R, 1, none⟩ = some (.slice (some ⟨g, o, none⟩) (n + 1 + m) cap) := HCR.out _ ((H1.out.2.2.2.alloc H1.out.2.2.2.size _).drew)
    go_region_law
      (first
        | (refine step_app_off (by rfl) (.tmp 19) (.tmp 25) 27 (by rfl) i0 (.agg #[.int .i64 0, .slice none 0 0]) 32 Tryd.underlying27 hi hz0 hz1 hz2 rfl (by decide) (off_emptyD w1 TQ 2) (some ⟨g, o, none⟩) n cap (qmsV (ms.take n)) (by rfl) (by rfl) HL1.out (HS1.out _ ((H1.out.2.2.2.alloc H1.out.2.2.2.size _).drew)) (qmsV_one _) (by unfold maxLen; omega) (by omega) ?_; intro u2 w2 hr2 hg2 hu2; have B2 : Hid (Below w.heap.size w w2) := ((H1.out.2.2.2.alloc H1.out.2.2.2.size _).drew).grown hg2 (by have := H1.out.2.2.2.size; simp; omega) (fun k hk => (by simp [Value.ownBlock] at hk; have := H1.out.2.2.2.size; omega)); have BB2 : Hid (Below w1.heap.size w1 w2) := (((Below.refl _ w1).alloc (Nat.le_refl _) _).drew).grown hg2 (by simp) (fun k hk => (by simp [Value.ownBlock] at hk; omega)); have ca3 := HCR.out w2 B2.out; have R2 := hide hr2; have U2 : Hid (∀ g, u2.ownBlock = some g → w1.heap.size ≤ g) := (fun g hg => by rcases hu2 g hg with h | h; (simp [Value.ownBlock] at h; omega); (simp at h; omega)); clear hr2 hg2 hu2)
        | (refine step_app_off (by rfl) (.tmp 26) (.tmp 33) 27 (by rfl) i0 (.agg #[.int .i64 0, .slice none 0 0]) 32 Tryd.underlying27 hi hz0 hz1 hz2 rfl (by decide) R2.out (some A) m (cap - (n + 1)) (qmsV (ms.drop (n + 1))) (by rfl) (by rfl) HL2.out (HS2.out _ B2.out) (qmsV_one _) (by unfold maxLen; omega) (by omega) ?_; intro u3 w3 hr3 hg3 hu3; have B3 : Hid (Below w.heap.size w w3) := B2.out.grown hg3 B2.out.size (fun k hk => Nat.le_trans H1.out.2.2.2.size (U2.out k hk)); have BB3 : Hid (Below w1.heap.size w1 w3) := BB2.out.grown hg3 BB2.out.size (fun k hk => U2.out k hk); have R3 := hide hr3; have U3 : Hid (∀ g, u3.ownBlock = some g → w1.heap.size ≤ g) := (fun g hg => by rcases hu3 g hg with h | h; exact U2.out g h; exact Nat.le_trans BB2.out.size h); obtain ⟨p3, c3, hv3, -, -⟩ := hr3.form; subst hv3; have cw := HCR.out w3 B3.out; have fw : w3.frozen? ⟨R, 1, none⟩ = false := (by rw [B3.out.frozen hRl]; exact H.out.free 1); clear hr3 hg3 hu3))
    all_goals go_wp2
    all_goals go_ret3
    all_goals
      have hch : Chg [R] w1 (w3.setCell ⟨R, 1, none⟩ (.slice p3 (n + m) c3)) := (Chg.of BB3.out).set (Or.inl (by simp)) 1 _
      refine ⟨⟨Q, by rw [HK.out]; rfl, H1.out.1, H1.out.2.1.chg hch (fun b off e _ hm => ?_), H1.out.2.2.1⟩, ?_⟩
      · have := H1.out.2.2.1 b off e
        simp at hm
        omega
      · rw [HTK.out]
        have R3b := R3.out
        have U3b := U3.out
        rw [Nat.zero_add] at R3b U3b
        refine H.out.set2 (l := ms.eraseIdx n) [] (Below.grownBy' B3.out _) ?_ (fun g hg => Or.inr (Nat.le_trans H1.out.2.2.2.size (U3b g hg))) (fun g hg => by cases hg) (fun q hq => Or.inl (List.mem_of_mem_eraseIdx hq)) (by rw [map_erase, HMS.out])
        rw [qms_erase, List.length_eraseIdx_of_lt (by have := HMM.out; omega), show ms.length - 1 = n + m by have := HMM.out; omega]
        rw [List.nil_append] at R3b
        exact R3b
set_option maxRecDepth 100000 in
set_option maxHeartbeats 4000000 in
theorem qdouble_pic (h : QPic w G R v1 v2 luck ms) (hl : s.luck = luck) (hms : ms.map QM.msg = s.late) (hb : ms.length ≤ 4194304) (k : Int) :
    Calls Tryd.prog 24 #[.pointer (some ⟨R, 0, none⟩), .int .i64 k] w fun e w' => e = .returned (.bool (hasD s k)) ∧ QMoved G R (doubleD s k) w w' := by
  have hlen : s.late.length = ms.length := by rw [← hms, List.length_map]
  obtain ⟨-, c1⟩ := h.cells
  have H := hide h
  have HMS := hide hms
  cases hk : hasD s k with
  | false =>
    obtain ⟨p, cp, hv, hq1, hq2⟩ := h.r2.form
    subst hv
    have hcase : k < 0 ∨ ((ms.length : Int) ≤ k ∧ 0 ≤ k) := by
      simp [hasD] at hk
      omega
    have htk : doubleD s k = s := by unfold doubleD; rw [hk]; rfl
    have HTK := hide htk
    have HSS : Hid (QMoved G R s w w) := QMoved.refl ⟨v1, .slice p ms.length cp, ms, by rw [hl]; exact h, hms⟩
    clear h hk hlen hms htk hl
    rcases hcase with hc0 | ⟨hc0, hc1⟩
    all_goals
      go_enter Tryd.func24, Tryd.ntmps24
      go_wp2
      go_ret
      rw [HTK.out]
      exact ⟨rfl, HSS.out⟩
  | true =>
    obtain ⟨n, hn, rfl, hm⟩ := has_yes hk
    have hn2 : n < ms.length := by omega
    obtain ⟨i0, hi, hz0, hz1, hz2⟩ := info_parts Tryd.infoQ
    obtain ⟨g, o, cap, cur, hv, hg, hn1, hm1, hs, hx, hc⟩ := h.r2.cells (by omega)
    subst hv
    have hmq : msgD s (n : Int) = ms[n].msg := by
      rw [hm]
      have : s.late[n]? = some (ms[n].msg) := by rw [← hms, List.getElem?_map, List.getElem?_eq_getElem hn2]; rfl
      rw [List.getElem?_eq_getElem hn] at this
      exact Option.some.inj this
    have htk : doubleD s (n : Int) = ⟨luck, s.late ++ [ms[n].msg]⟩ := by unfold doubleD; rw [hk, hl, hmq]; rfl
    have HTK := hide htk
    have HQM : Hid (ms[n] ∈ ms) := List.getElem_mem hn2
    have k0 : w.cell? ⟨g, o + n * 2, none⟩ = some (.int .i64 ms[n].to) := by rw [hc _ (by omega)]; exact (qmsV_get ms n hn2).1
    have k1 : w.cell? ⟨g, o + n * 2 + 1, none⟩ = some (.slice ms[n].p.ad ms[n].p.len ms[n].p.cap) := by rw [Nat.add_assoc, hc _ (by omega)]; exact (qmsV_get ms n hn2).2
    have hRl := h.lt R h.mD
    have hgl := h.lt g (h.m2 g rfl)
    clear hmq htk
    generalize ms[n] = q at *
    obtain ⟨qt, qa, ql, qc, qb⟩ := q
    simp only at k0 k1
    have HZ : Hid (∀ W, Below w.heap.size w W → W.cell? ⟨R, 1, none⟩ = some (.slice (some ⟨g, o, none⟩) ms.length cap) ∧ W.cell? ⟨g, o + n * 2, none⟩ = some (.int .i64 qt) ∧ W.cell? ⟨g, o + n * 2 + 1, none⟩ = some (.slice qa ql qc)) := fun W hb => ⟨(hb.cell (p := ⟨R, 1, none⟩) hRl).trans c1, (hb.cell (p := ⟨g, o + n * 2, none⟩) hgl).trans k0, (hb.cell (p := ⟨g, o + n * 2 + 1, none⟩) hgl).trans k1⟩
    have BA : Hid (Below w.heap.size w (w.alloc (.cells #[.int .i64 qt, .slice qa ql qc] TQ)).drew) := ((Below.refl _ w).alloc (Nat.le_refl _) _).drew
    have RA : Hid (OffRow (w.alloc (.cells #[.int .i64 qt, .slice qa ql qc] TQ)).drew TQ 2 (.slice (some ⟨g, o, none⟩) ms.length cap) ms.length (qmsV ms)) := h.r2.below BA.out
    have SA : Hid (Src (w.alloc (.cells #[.int .i64 qt, .slice qa ql qc] TQ)).drew (some ⟨w.heap.size, 0, none⟩) 1 (qmsV [⟨qt, qa, ql, qc, qb⟩])) := Or.inr ⟨_, rfl, fun j u hu => by
      rw [addr_add]
      have hb1 := heap_alloc_last w (.cells #[.int .i64 qt, .slice qa ql qc] TQ)
      show (w.alloc _).cell? _ = _
      rw [cell_of_row _ _ _ _ _ _ hb1, Nat.zero_add]
      simpa [qmsV, qmV] using hu⟩
    have hnn : (n : Int) < (ms.length : Int) := by omega
    have hm2 : cap ≤ 9223372036854775807 := by unfold maxLen at hm1; omega
    clear h hk hlen hms hm hn hx hc hg hs hl
    go_enter Tryd.func24, Tryd.ntmps24
    go_wp2_with fail
    obtain ⟨cb1, cb2, cb3⟩ := HZ.out _ ((Below.refl _ w).drew)
    obtain ⟨cc1, cc2, cc3⟩ := HZ.out _ BA.out
    go_region_law
      ((refine step_app_off (by rfl) (.tmp 20) (.tmp 28) 27 (by rfl) i0 (.agg #[.int .i64 0, .slice none 0 0]) 32 Tryd.underlying27 hi hz0 hz1 hz2 rfl (by decide) RA.out (some ⟨w.heap.size, 0, none⟩) 1 1 (qmsV [⟨qt, qa, ql, qc, qb⟩]) (by rfl) (by rfl) rfl SA.out (qmsV_one _) (by unfold maxLen; omega) (by omega) ?_; intro u3 w3 hr3 hg3 hu3; have G3 : Hid (w.grownBy w3 (some g)) := ⟨hg3.os, hg3.tape, hg3.output, Nat.le_trans BA.out.size hg3.size, fun k hk hne => (hg3.block k (Nat.lt_of_lt_of_le hk BA.out.size) hne).trans (BA.out.block k hk)⟩; have R3 := hide hr3; have U3 : Hid (∀ x, u3.ownBlock = some x → some g = some x ∨ w.heap.size ≤ x) := (fun x hx => (hu3 x hx).imp id (fun h => Nat.le_trans BA.out.size h)); obtain ⟨p3, c3, hv3, -, -⟩ := hr3.form; subst hv3; have hD3 : Blk w3 R #[v1, .slice (some ⟨g, o, none⟩) ms.length cap] TR := (G3.out.block R hRl (fun e => H.out.ne2 e.symm)).trans H.out.hD; have cw : w3.cell? ⟨R, 1, none⟩ = some (.slice (some ⟨g, o, none⟩) ms.length cap) := hD3.cell 1; have fw := hD3.free 1; clear hr3 hg3 hu3 hD3))
    all_goals go_wp2
    all_goals go_ret
    all_goals
      rw [HTK.out]
      refine ⟨rfl, H.out.set2 (l := ms ++ [⟨qt, qa, ql, qc, qb⟩]) [] G3.out ?_ (fun x hx => U3.out x hx) (fun g hg => by cases hg) (fun q hq => ?_) (by rw [List.map_append, HMS.out]; rfl)⟩
      · rw [qmsV_app, List.length_append]
        exact R3.out
      · rcases List.mem_append.1 hq with hq | hq
        · exact Or.inl hq
        · simp at hq; subst hq; exact Or.inl HQM.out
end Go.Proofs.YtgbjlkaaniaaaaaDoor
