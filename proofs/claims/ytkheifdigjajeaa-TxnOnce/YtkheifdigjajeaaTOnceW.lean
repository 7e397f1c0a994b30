/- TxnOnce, whatever the events: each transaction is decided once, epochs never fall (P1606, P1607; by genonce16.py). -/
import Derived.Test.YtkheifdigjajeaaTKnows
import Derived.Test.YtkheifdigjajeaaOpenEvs
namespace Go.Proofs.Ytkheifdigjajeaa
open Go.RowKit
variable {w w' W : World} {g : Nat} {B : Bk}

theorem setRow_chg (w : World) (b : Nat) (cs : Array Value) : Chg [b] w (w.setRow b cs) :=
  ⟨rfl, rfl, rfl, by simp, fun k _ hn => setRow_other _ _ _ _ (fun e => hn (by simp [e]))⟩
/-- The cells of the k-th of six states that lie in a block. -/
theorem st_cells {b k : Nat} (h : Blk W b (stL B).toArray TSs) (hk : k < 6) : W.cell? ⟨b, k * 3, none⟩ = some (.int .i64 (B.at k).st) ∧ W.cell? ⟨b, k * 3 + 1, none⟩ = some (.int .i64 (B.at k).ep) ∧ W.cell? ⟨b, k * 3 + 2, none⟩ = some (.bool (decide (k < B.ps.length))) := by
  obtain ⟨g0, g1, g2⟩ := stL_get B hk
  exact ⟨(h.cell _).trans (by rw [List.getElem?_toArray]; exact g0), (h.cell _).trans (by rw [List.getElem?_toArray]; exact g1), (h.cell _).trans (by rw [List.getElem?_toArray]; exact g2)⟩
/-- states, its answer as some list. -/
structure StsAt (B : Bk) (L : List Value) : Prop where
  eq : stL B = L
theorem StsAt.len {L : List Value} (h : StsAt B L) : L.length = 18 := by rw [← h.eq]; exact stL_len B
theorem StsAt.one {L : List Value} (h : StsAt B L) : ∀ v ∈ L, v.oneCell' = true := by rw [← h.eq]; exact stL_one B
theorem StsAt.call {L : List Value} {N : Nat} (h : StsAt B L) (hb : BOf N W g B) : Calls Try.prog 18 #[.pointer (some ⟨g, 0, none⟩)] W fun e w' => e = .returned (.agg L.toArray) ∧ Below W.heap.size W w' := by
  rw [← h.eq]
  exact states_any hb
set_option maxRecDepth 100000 in
set_option maxHeartbeats 8000000 in
theorem once_walk {l : List Ev} {a : Option Addr} {m c : Nat} (h : ArgK kER w l a m c) (hm : m * 72 ≤ 140737488351232) : Calls Try.prog 4 #[.slice a m c] w fun r w' => r = .returned (.bool true) ∧ Below w.heap.size w w' := by
  have HN := hid (New_any w)
  have HL := hid h
  obtain ⟨L0, hL0⟩ : ∃ L, StsAt bk0 L := ⟨_, ⟨rfl⟩⟩
  have HS0 := hid hL0
  clear h hL0
  go_enter Try.func4, Try.ntmps4
  go_wp2_with (first
    | (go_at_call 17; (with_reducible_and_instances (refine HN.out.mono ?_)); rintro r w1 ⟨g, rfl, h1, hb1⟩; have HB1 := hid hb1; have HX1 := hid h1.beside; clear h1 hb1)
    | (go_at_call 16; (with_reducible_and_instances (refine (knows16 _).mono ?_)); rintro r w2 ⟨rfl, hb2⟩; have HX2 := hid (HX1.out.later hb2); have HB2 := hid (HB1.out.trans (hb2.mono HB1.out.size)); clear hb2)
    | (go_at_call 18; (with_reducible_and_instances (refine (HS0.out.call HX2.out.of).mono ?_)); rintro r w3 ⟨rfl, hb3⟩; have HX3 := hid (HX2.out.later hb3); have HB3 := hid (HB2.out.trans (hb3.mono HB2.out.size)); clear hb3)
    | (refine store_new (w0 := w3) rfl TSs (.tmp 4) (.tmp 18) rfl L0 (by rw [HS0.out.len]; exact stL_size) rfl rfl TSs _ rfl (by rw [HS0.out.len]; rfl) HS0.out.one ?_))
  have HI0 : Hid (BOx w.heap.size [w3.heap.size] (w3.alloc (.cells L0.toArray TSs)) g bk0 ∧ Blk (w3.alloc (.cells L0.toArray TSs)) w3.heap.size (stL bk0).toArray TSs ∧ Below w.heap.size w (w3.alloc (.cells L0.toArray TSs))) := by
    refine ⟨HX3.out.more ((Below.refl _ _).alloc (Nat.le_refl _) _) (fun b hb => Or.inr (by simp at hb; subst hb; simp)), ?_, HB3.out.alloc HB3.out.size _⟩
    rw [HS0.out.eq]
    exact Blk.new w3 _ _
  have hNb := HB3.out.size
  go_loopw [5] (fun iv wr => ∃ (i : Nat) (B : Bk), i ≤ m ∧ iv = .int .i64 (i : Int) ∧ Hid (BOx w.heap.size [w3.heap.size] wr g B ∧ Blk wr w3.heap.size (stL B).toArray TSs ∧ Below w.heap.size w wr)) (fun iv _ => m - (intOf iv).toNat)
  case atStart => exact ⟨0, bk0, by omega, rfl, HI0⟩
  case round =>
    obtain ⟨i, B, hi, rfl, HI⟩ := hrel
    obtain ⟨wo, rfl⟩ : ∃ q, q = wr := ⟨wr, rfl⟩
    clear HN HX1 HB1 HX2 HB2 HX3 HB3 HS0 HI0
    by_cases hlt : i < m
    · obtain ⟨b1, o1, rfl, hs0, hc0⟩ := HL.out.cells (by omega)
      obtain ⟨x, hx⟩ : ∃ x, l.getD i ev0 = x := ⟨_, rfl⟩
      obtain ⟨xk, xs, xa, xb, xc, xd, xe, xq⟩ := x
      obtain ⟨t, ht⟩ : ∃ t, nmS xs = t := ⟨_, rfl⟩
      have hcap := HL.out.cap
      have HXc : Hid (∀ W, Below w.heap.size w W → W.cell? ⟨b1, o1 + i * 8, none⟩ = some (Value.int .i64 xk) ∧ W.cell? ⟨b1, o1 + i * 8 + 1, none⟩ = some (Value.string t) ∧ W.cell? ⟨b1, o1 + i * 8 + 2, none⟩ = some (Value.int .i64 xa) ∧ W.cell? ⟨b1, o1 + i * 8 + 3, none⟩ = some (Value.int .i64 xb) ∧ W.cell? ⟨b1, o1 + i * 8 + 4, none⟩ = some (Value.int .i64 xc) ∧ W.cell? ⟨b1, o1 + i * 8 + 5, none⟩ = some (Value.int .i64 xd) ∧ W.cell? ⟨b1, o1 + i * 8 + 6, none⟩ = some (Value.int .i64 xe) ∧ W.cell? ⟨b1, o1 + i * 8 + 7, none⟩ = some (Value.bool xq)) := fun W hW => by
        have h9 : ∀ k, k < 8 → W.cell? ⟨b1, o1 + i * 8 + k, none⟩ = (evA ⟨xk, xs, xa, xb, xc, xd, xe, xq⟩).toList[k]? := fun k hk => by
          have h := hc0 i hlt k hk
          rw [show l.getD i kER.z = l.getD i ev0 from rfl, hx] at h
          exact (hW.cell (p := ⟨b1, o1 + i * 8 + k, none⟩) hs0).trans h
        rw [← ht]
        exact ⟨h9 0 (by decide), h9 1 (by decide), h9 2 (by decide), h9 3 (by decide), h9 4 (by decide), h9 5 (by decide), h9 6 (by decide), h9 7 (by decide)⟩
      obtain ⟨B', hB'⟩ : ∃ B', B.app ⟨xk, xs, xa, xb, xc, xd, xe, xq⟩ = B' := ⟨_, rfl⟩
      have HNx : Hid ((∀ k, PNx (B.at k) (B'.at k)) ∧ B.ps.length ≤ B'.ps.length) := by rw [← hB']; exact app_nx HI.out.1.of.ok _
      have HOw : Hid (∀ W, Calls Try.prog 9 #[.agg #[.int .i64 xk, .string t, .int .i64 xa, .int .i64 xb, .int .i64 xc, .int .i64 xd, .int .i64 xe, .bool xq]] W fun r w' => r = .returned (.agg #[.int .i64 xk, .string t, .int .i64 xa, .int .i64 xb, .int .i64 xc, .int .i64 xd, .int .i64 xe, .bool xq]) ∧ Below W.heap.size W w') := fun W => by
        have h := own16_any ⟨xk, xs, xa, xb, xc, xd, xe, xq⟩ W
        rw [← ht]
        exact h
      have HAp : Hid (∀ W, BOx w.heap.size [w3.heap.size] W g B → w.heap.size ≤ W.heap.size → Calls Try.prog 13 #[.pointer (some ⟨g, 0, none⟩), .agg #[.int .i64 xk, .string t, .int .i64 xa, .int .i64 xb, .int .i64 xc, .int .i64 xd, .int .i64 xe, .bool xq]] W fun r w' => (∃ y, r = .returned (.int .i64 y)) ∧ BOx w.heap.size [w3.heap.size] w' g B' ∧ Below w.heap.size W w' ∧ w'.heap[w3.heap.size]? = W.heap[w3.heap.size]?) := fun W hX hN => by
        have h := hX.apply hN ⟨xk, xs, xa, xb, xc, xd, xe, xq⟩
        rw [hB'] at h
        rw [← ht]
        exact h.mono (fun r w' hh => ⟨⟨_, hh.1⟩, hh.2.1, hh.2.2.1, hh.2.2.2 _ (List.mem_singleton.2 rfl)⟩)
      obtain ⟨r0, r1, r2, r3, r4, r5, r6, r7⟩ := HXc.out wo HI.out.2.2
      obtain ⟨L1, hL1⟩ : ∃ L, StsAt B' L := ⟨_, ⟨rfl⟩⟩
      have HS1 := hid hL1
      clear hc0 hx ht hB' hL1 HXc
      go_wp2_with (first
        | (go_at_call 9; (with_reducible_and_instances (refine (HOw.out _).mono ?_)); rintro r w5 ⟨rfl, hb5⟩; have HA5 := hid (HAp.out w5 (HI.out.1.later hb5) (Nat.le_trans HI.out.2.2.size hb5.size)); have HBw5 := hid (HI.out.2.2.trans (hb5.mono HI.out.2.2.size)); have HK5 := hid (HI.out.2.1.later hb5); clear hb5)
        | (go_at_call 13; (with_reducible_and_instances (refine HA5.out.mono ?_)); rintro r w6 ⟨⟨y, rfl⟩, h6, hb6, hk6⟩; have HX6 := hid h6; have HB6 := hid (HBw5.out.trans hb6); have HK6 : Hid (Blk w6 w3.heap.size (stL B).toArray TSs) := hk6.trans HK5.out; clear h6 hb6 hk6)
        | (go_at_call 18; (with_reducible_and_instances (refine (HS1.out.call HX6.out.of).mono ?_)); rintro r w7 ⟨rfl, hb7⟩; have HX7 := hid (HX6.out.later hb7); have HB7 := hid (HB6.out.trans (hb7.mono HB6.out.size)); have HK7 := hid (HK6.out.later hb7); clear hb7)
        | (refine store_new (w0 := w7) rfl TSs (.tmp 6) (.tmp 33) rfl L1 (by rw [HS1.out.len]; exact stL_size) rfl rfl TSs _ rfl (by rw [HS1.out.len]; rfl) HS1.out.one ?_))
      obtain ⟨W8, hW8⟩ : ∃ W8, w7.alloc (.cells L1.toArray TSs) = W8 := ⟨_, rfl⟩
      have HX8 : Hid (BOx w.heap.size [w3.heap.size] W8 g B' ∧ Blk W8 w3.heap.size (stL B).toArray TSs ∧ Blk W8 w7.heap.size (stL B').toArray TSs ∧ Below w.heap.size w W8) := by
        rw [← hW8]
        have hb := (Below.refl w7.heap.size w7).alloc (Nat.le_refl _) (.cells L1.toArray TSs)
        refine ⟨HX7.out.later hb, HK7.out.later hb, ?_, HB7.out.alloc HB7.out.size _⟩
        rw [HS1.out.eq]
        exact Blk.new w7 _ _
      have HR8 : Hid (Below W8.heap.size W8 W8) := Below.refl _ _
      rw [hW8]
      clear hW8 HOw HAp r0 r1 r2 r3 r4 r5 r6 r7 HA5 HBw5 HK5 HX6 HB6 HK6 HX7 HK7
      go_loopw [7] (fun kv wr => ∃ k : Nat, k ≤ 6 ∧ kv = .int .i64 (k : Int) ∧ Hid (Below W8.heap.size W8 wr)) (fun kv _ => 6 - (intOf kv).toNat)
      case atStart => exact ⟨0, by omega, rfl, HR8⟩
      case round =>
        obtain ⟨k, hk, rfl, HR⟩ := hrel
        obtain ⟨wk, rfl⟩ : ∃ q, q = wr := ⟨wr, rfl⟩
        by_cases hk6 : k < 6
        · obtain ⟨p0, p1, p2⟩ := st_cells (HX8.out.2.1.later HR.out) hk6
          obtain ⟨q0, q1, q2⟩ := st_cells (HX8.out.2.2.1.later HR.out) hk6
          have hst := (HI.out.1.of.ok.at k).st
          have hlt7 : w7.heap.size < wk.heap.size := (HX8.out.2.2.1.later HR.out).lt
          have qa0 := fun o => (World.cell?_alloc_lt wk o ⟨w7.heap.size, k * 3, none⟩ hlt7).trans q0
          have qa1 := fun o => (World.cell?_alloc_lt wk o ⟨w7.heap.size, k * 3 + 1, none⟩ hlt7).trans q1
          have qa2 := fun o => (World.cell?_alloc_lt wk o ⟨w7.heap.size, k * 3 + 2, none⟩ hlt7).trans q2
          clear q0 q1 q2
          have hpx := HNx.out.1 k
          have hle : decide (k < B.ps.length) = true → decide (k < B'.ps.length) = true := fun e => decide_eq_true (Nat.lt_of_lt_of_le (of_decide_eq_true e) HNx.out.2)
          obtain ⟨n1, n2, n3, n4, n5⟩ := hpx
          have hNx : Hid (∀ (cs1 cs2 : Array Value) (T : TypeId), Below W8.heap.size W8 ((wk.alloc (.cells cs1 T)).alloc (.cells cs2 T))) := fun cs1 cs2 T => (HR.out.alloc HR.out.size _).alloc (by have := HR.out.size; simp; omega) _
          generalize (B.at k).st = s at *
          generalize (B.at k).ep = ep at *
          generalize decide (k < B.ps.length) = is at *
          generalize (B'.at k).st = s' at *
          generalize (B'.at k).ep = ep' at *
          generalize decide (k < B'.ps.length) = is' at *
          have d1 : decide (ep' < ep) = false := by simp; omega
          have d2 : decide (s' < 0) = false := by simp; omega
          have d3 : decide (3 < s') = false := by simp; omega
          have HNx2 := hid hNx
          clear hNx n1 HNx HL hcap hs0 HI HX8 HR8 HB7 HS1 hm
          have hcs : (s = 0 ∧ decide (1 < s') = false) ∨ s = 1 ∨ (s = 2 ∧ (s' = 2 ∨ s' = 0)) ∨ (s = 3 ∧ (s' = 3 ∨ s' = 0)) := by
            rcases hst with e | e | e | e
            · exact Or.inl ⟨e, by have := n5 e; simp; omega⟩
            · exact Or.inr (Or.inl e)
            · exact Or.inr (Or.inr (Or.inl ⟨e, n3 e⟩))
            · exact Or.inr (Or.inr (Or.inr ⟨e, n4 e⟩))
          have his : is = false ∨ (is = true ∧ is' = true) := by cases is; exact Or.inl rfl; exact Or.inr ⟨rfl, hle rfl⟩
          clear n2 n3 n4 n5 hst hle
          rcases his with rfl | ⟨rfl, rfl⟩ <;> rcases hcs with ⟨rfl, d4⟩ | rfl | ⟨rfl, rfl | rfl⟩ | ⟨rfl, rfl | rfl⟩
          all_goals (as_aux_lemma => (go_wp2_with fail; exact ⟨⟨k + 1, by omega, by go_num, HNx2.out _ _ _⟩, by simp [intOf]; omega⟩))
        · obtain rfl : k = 6 := by omega
          have HA : Hid (Blk wk w7.heap.size L1.toArray TSs) := by rw [← HS1.out.eq]; exact HX8.out.2.2.1.later HR.out
          have HW : Hid (Blk wk w3.heap.size (stL B).toArray TSs) := HX8.out.2.1.later HR.out
          have HCl : Hid (∀ j, j < L1.length → wk.cell? ⟨w7.heap.size, 0 + j, none⟩ = L1[j]?) := fun j _ => by rw [Nat.zero_add, HA.out.cell j, List.getElem?_toArray]
          have HRw : Hid (((stL B).toArray.toList.take 0 ++ L1 ++ (stL B).toArray.toList.drop (0 + L1.length)).toArray = L1.toArray) := hid (by rw [HS1.out.len, List.drop_of_length_le (by simp [stL_len]), List.take_zero, List.append_nil, List.nil_append])
          have HE : Hid (BOx w.heap.size [w3.heap.size] (wk.setRow w3.heap.size L1.toArray) g B' ∧ Blk (wk.setRow w3.heap.size L1.toArray) w3.heap.size (stL B').toArray TSs ∧ Below w.heap.size w (wk.setRow w3.heap.size L1.toArray)) := by
            refine ⟨(HX8.out.1.later HR.out).chg (setRow_chg _ _ _), ?_, below_setRow (HX8.out.2.2.2.trans (HR.out.mono HX8.out.2.2.2.size)) hNb _⟩
            rw [HS1.out.eq]
            exact setRow_heap wk _ _ _ _ _ HW.out
          clear HX8 HR8 HR HL HNx HI hs0 hcap
          as_aux_lemma =>
          go_wp2_with (first
            | (refine load_wide rfl TSs (.tmp 6) rfl _ Try.underlying49 rfl L1 (by rw [HS1.out.len]; exact stL_size) w7.heap.size 0 rfl HCl.out ?_)
            | (refine store_wide rfl TSs (.tmp 4) (.tmp 104) rfl L1 (by rw [HS1.out.len]; exact stL_size) w3.heap.size 0 rfl rfl TSs _ HW.out (by rw [HS1.out.len]; simp [stL_len]) HS1.out.one ?_; rw [HRw.out]))
          exact ⟨⟨i + 1, B', by omega, by go_num, HE⟩, by simp [intOf]; omega⟩
    · obtain rfl : m = i := by omega
      go_wp2_with fail
      go_ret
      exact ⟨rfl, HI.out.2.2⟩
end Go.Proofs.Ytkheifdigjajeaa
