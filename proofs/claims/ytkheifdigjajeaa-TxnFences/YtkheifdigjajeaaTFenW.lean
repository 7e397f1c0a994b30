/- TxnFences, whatever the events and the one behind them: what has another epoch is not taken, and changes nothing (P1607; by genfen16.py). -/
import Derived.Test.YtkheifdigjajeaaTSame
namespace Go.Proofs.Ytkheifdigjajeaa
open Go.RowKit
variable {w w' W : World} {g : Nat} {B : Bk}

set_option maxRecDepth 100000 in
set_option maxHeartbeats 8000000 in
theorem fences_walk {l : List Ev} {a : Option Addr} {m c : Nat} (h : ArgK kER w l a m c) (hm : m * 72 ≤ 140737488351232) (y : Ev) : Calls Try.prog 5 #[.slice a m c, .agg (evA y)] w fun r w' => r = .returned (.bool true) ∧ Below w.heap.size w w' := by
  have HOy := hid (own16_any y)
  have HAy : Hid (∀ B X N W g, BOx N X W g B → N ≤ W.heap.size → Calls Try.prog 13 #[.pointer (some ⟨g, 0, none⟩), .agg (evA y)] W fun r w' => r = .returned (.int .i64 (B.dec y).2) ∧ BOx N X w' g (B.app y) ∧ Below N W w' ∧ ∀ b ∈ X, w'.heap[b]? = W.heap[b]?) := fun B X N W g hX hN => hX.apply hN y
  have HF : Hid (∀ B : Bk, (y.kind = 1 ∨ y.kind = 5) ∨ ((y.kind ≠ 1 ∧ y.kind ≠ 5) ∧ ((B.isA y.prod = false ∧ (B.dec y).2 ≠ 0) ∨ (B.isA y.prod = true ∧ ((B.epA y.prod = y.ep ∧ (B.dec y).2 ≠ 50) ∨ (B.epA y.prod ≠ y.ep ∧ (B.dec y).2 ≠ 0 ∧ B.app y = B)))))) := fun B => by
    by_cases h1 : y.kind = 1
    · exact Or.inl (Or.inl h1)
    · by_cases h5 : y.kind = 5
      · exact Or.inl (Or.inr h5)
      · refine Or.inr ⟨⟨h1, h5⟩, ?_⟩
        cases hi : B.isA y.prod with
        | false => exact Or.inl ⟨rfl, fence_none ⟨h1, h5⟩ hi⟩
        | true =>
          by_cases he : B.epA y.prod = y.ep
          · exact Or.inr ⟨rfl, Or.inl ⟨he, fence_same ⟨h1, h5⟩ hi he⟩⟩
          · exact Or.inr ⟨rfl, Or.inr ⟨he, fence_other ⟨h1, h5⟩ hi he⟩⟩
  obtain ⟨k, nm, pa, pb, pc, pd, pe, pq⟩ := y
  obtain ⟨t, ht⟩ : ∃ t, nmS nm = t := ⟨_, rfl⟩
  dsimp only [evA, Ev.kind, Ev.prod, Ev.ep] at HOy HAy HF ⊢
  rw [ht] at HOy HAy ⊢
  obtain ⟨W1, hW1⟩ : ∃ W1, w.alloc (.cells #[.int .i64 k, .string t, .int .i64 pa, .int .i64 pb, .int .i64 pc, .int .i64 pd, .int .i64 pe, .bool pq] 23) = W1 := ⟨_, rfl⟩
  have b1 : Below w.heap.size w W1 := by rw [← hW1]; exact (Below.refl _ _).alloc (Nat.le_refl _) _
  have x1 : Blk W1 w.heap.size #[.int .i64 k, .string t, .int .i64 pa, .int .i64 pb, .int .i64 pc, .int .i64 pd, .int .i64 pe, .bool pq] 23 := by rw [← hW1]; exact heap_alloc_new w _
  have HB1 := hid b1
  have HY : Hid (∀ W, Below W1.heap.size W1 W → W.cell? ⟨w.heap.size, 0, none⟩ = some (.int .i64 k) ∧ W.cell? ⟨w.heap.size, 1, none⟩ = some (.string t) ∧ W.cell? ⟨w.heap.size, 2, none⟩ = some (.int .i64 pa) ∧ W.cell? ⟨w.heap.size, 3, none⟩ = some (.int .i64 pb) ∧ W.cell? ⟨w.heap.size, 4, none⟩ = some (.int .i64 pc) ∧ W.cell? ⟨w.heap.size, 5, none⟩ = some (.int .i64 pd) ∧ W.cell? ⟨w.heap.size, 6, none⟩ = some (.int .i64 pe) ∧ W.cell? ⟨w.heap.size, 7, none⟩ = some (.bool pq)) := fun W hW => ⟨(x1.later hW).cell 0, (x1.later hW).cell 1, (x1.later hW).cell 2, (x1.later hW).cell 3, (x1.later hW).cell 4, (x1.later hW).cell 5, (x1.later hW).cell 6, (x1.later hW).cell 7⟩
  have HL := hid (h.later b1)
  have HN := hid (New_any W1)
  clear h b1 x1 ht
  go_enter Try.func5, Try.ntmps5
  go_wp2_with (first
    | (go_at_call 17; (with_reducible_and_instances (refine HN.out.mono ?_)); rintro r w1 ⟨g, rfl, h1, hb1⟩; have HB1b := hid hb1; have HX1 := hid h1.beside; clear h1 hb1)
    | (go_at_call 16; (with_reducible_and_instances (refine (knows16 _).mono ?_)); rintro r w2 ⟨rfl, hb2⟩; have HI0 : Hid (BOx W1.heap.size [] w2 g bk0 ∧ Below W1.heap.size W1 w2) := ⟨HX1.out.later hb2, HB1b.out.trans (hb2.mono HB1b.out.size)⟩; clear hb2))
  go_loopw [6] (fun iv wr => ∃ (i : Nat) (B : Bk), i ≤ m ∧ iv = .int .i64 (i : Int) ∧ Hid (BOx W1.heap.size [] wr g B ∧ Below W1.heap.size W1 wr)) (fun iv _ => m - (intOf iv).toNat)
  case atStart => exact ⟨0, bk0, by omega, rfl, HI0⟩
  case round =>
    obtain ⟨i, B, hi, rfl, HI⟩ := hrel
    obtain ⟨wo, rfl⟩ : ∃ q, q = wr := ⟨wr, rfl⟩
    clear HN HX1 HB1b HI0
    by_cases hlt : i < m
    · obtain ⟨b1, o1, rfl, hs0, hc0⟩ := HL.out.cells (by omega)
      obtain ⟨x, hx⟩ : ∃ x, l.getD i ev0 = x := ⟨_, rfl⟩
      obtain ⟨xk, xs, xa, xb, xc, xd, xe, xq⟩ := x
      obtain ⟨t2, ht⟩ : ∃ t, nmS xs = t := ⟨_, rfl⟩
      have hcap := HL.out.cap
      have HXc : Hid (∀ W, Below W1.heap.size W1 W → W.cell? ⟨b1, o1 + i * 8, none⟩ = some (Value.int .i64 xk) ∧ W.cell? ⟨b1, o1 + i * 8 + 1, none⟩ = some (Value.string t2) ∧ W.cell? ⟨b1, o1 + i * 8 + 2, none⟩ = some (Value.int .i64 xa) ∧ W.cell? ⟨b1, o1 + i * 8 + 3, none⟩ = some (Value.int .i64 xb) ∧ W.cell? ⟨b1, o1 + i * 8 + 4, none⟩ = some (Value.int .i64 xc) ∧ W.cell? ⟨b1, o1 + i * 8 + 5, none⟩ = some (Value.int .i64 xd) ∧ W.cell? ⟨b1, o1 + i * 8 + 6, none⟩ = some (Value.int .i64 xe) ∧ W.cell? ⟨b1, o1 + i * 8 + 7, none⟩ = some (Value.bool xq)) := fun W hW => by
        have h9 : ∀ k, k < 8 → W.cell? ⟨b1, o1 + i * 8 + k, none⟩ = (evA ⟨xk, xs, xa, xb, xc, xd, xe, xq⟩).toList[k]? := fun k hk => by
          have h := hc0 i hlt k hk
          rw [show l.getD i kER.z = l.getD i ev0 from rfl, hx] at h
          exact (hW.cell (p := ⟨b1, o1 + i * 8 + k, none⟩) hs0).trans h
        rw [← ht]
        exact ⟨h9 0 (by decide), h9 1 (by decide), h9 2 (by decide), h9 3 (by decide), h9 4 (by decide), h9 5 (by decide), h9 6 (by decide), h9 7 (by decide)⟩
      obtain ⟨B', hB'⟩ : ∃ B', B.app ⟨xk, xs, xa, xb, xc, xd, xe, xq⟩ = B' := ⟨_, rfl⟩
      have HOw : Hid (∀ W, Calls Try.prog 9 #[.agg #[.int .i64 xk, .string t2, .int .i64 xa, .int .i64 xb, .int .i64 xc, .int .i64 xd, .int .i64 xe, .bool xq]] W fun r w' => r = .returned (.agg #[.int .i64 xk, .string t2, .int .i64 xa, .int .i64 xb, .int .i64 xc, .int .i64 xd, .int .i64 xe, .bool xq]) ∧ Below W.heap.size W w') := fun W => by
        have h := own16_any ⟨xk, xs, xa, xb, xc, xd, xe, xq⟩ W
        rw [← ht]
        exact h
      have HAp : Hid (∀ W, BOx W1.heap.size [] W g B → W1.heap.size ≤ W.heap.size → Calls Try.prog 13 #[.pointer (some ⟨g, 0, none⟩), .agg #[.int .i64 xk, .string t2, .int .i64 xa, .int .i64 xb, .int .i64 xc, .int .i64 xd, .int .i64 xe, .bool xq]] W fun r w' => (∃ y, r = .returned (.int .i64 y)) ∧ BOx W1.heap.size [] w' g B' ∧ Below W1.heap.size W w') := fun W hX hN => by
        have h := hX.apply hN ⟨xk, xs, xa, xb, xc, xd, xe, xq⟩
        rw [hB'] at h
        rw [← ht]
        exact h.mono (fun r w' hh => ⟨⟨_, hh.1⟩, hh.2.1, hh.2.2.1⟩)
      obtain ⟨r0, r1, r2, r3, r4, r5, r6, r7⟩ := HXc.out wo HI.out.2
      clear hc0 hx ht hB' HXc HOy HAy HF HY
      go_wp2_with (first
        | (go_at_call 9; (with_reducible_and_instances (refine (HOw.out _).mono ?_)); rintro r w5 ⟨rfl, hb5⟩; have HA5 := hid (HAp.out w5 (HI.out.1.later hb5) (Nat.le_trans HI.out.2.size hb5.size)); have HBw5 := hid (HI.out.2.trans (hb5.mono HI.out.2.size)); clear hb5)
        | (go_at_call 13; (with_reducible_and_instances (refine HA5.out.mono ?_)); rintro r w6 ⟨⟨y, rfl⟩, h6, hb6⟩; have HI6 : Hid (BOx W1.heap.size [] w6 g B' ∧ Below W1.heap.size W1 w6) := ⟨h6, HBw5.out.trans hb6⟩; clear h6 hb6))
      exact ⟨⟨i + 1, B', by omega, by go_num, HI6⟩, by simp [intOf]; omega⟩
    · obtain rfl : m = i := by omega
      obtain ⟨L, hL⟩ : ∃ L, StsAt B L := ⟨_, ⟨rfl⟩⟩
      have HS := hid hL
      have HFB := hid (HF.out B)
      have HAB := hid (HAy.out B)
      have htl := HI.out.1.of.ok.todo
      obtain ⟨tn, htn⟩ : ∃ tn, B.todo.length = tn := ⟨_, rfl⟩
      rw [htn] at htl
      have HTd : Hid (∀ N X W, BOx N X W g B → Calls Try.prog 15 #[.pointer (some ⟨g, 0, none⟩)] W fun e w' => (∃ ad c, e = .returned (.slice ad tn c)) ∧ Below W.heap.size W w') := fun N X W hX => by
        refine hX.of.todo.mono ?_
        rintro e w' ⟨u, rfl, h1, h2⟩
        obtain ⟨ad, c, rfl, -⟩ := h1.form kTd_ok.tofit
        rw [htn]
        exact ⟨⟨ad, c, rfl⟩, h2⟩
      have HSta : Hid (∀ N X W, BOx N X W g B → Calls Try.prog 11 #[.pointer (some ⟨g, 0, none⟩), .int .i64 pa] W fun e w' => e = .returned (.tuple #[.int .i64 (B.stA pa), .int .i64 (B.epA pa), .bool (B.isA pa)]) ∧ Below W.heap.size W w') := fun N X W hX => hX.of.status pa
      obtain ⟨dn, hdn⟩ : ∃ d, (B.dec ⟨k, nm, pa, pb, pc, pd, pe, pq⟩).2 = d := ⟨_, rfl⟩
      obtain ⟨B', hB'⟩ : ∃ B', B.app ⟨k, nm, pa, pb, pc, pd, pe, pq⟩ = B' := ⟨_, rfl⟩
      rw [hdn, hB'] at HAB HFB
      obtain ⟨se, hse⟩ : ∃ d, B.epA pa = d := ⟨_, rfl⟩
      obtain ⟨si, hsi⟩ : ∃ d, B.isA pa = d := ⟨_, rfl⟩
      rw [hse, hsi] at HSta HFB
      generalize B.stA pa = ss at *
      have HFC : Hid ((k = 1 ∧ si = false ∧ dn = 0) ∨ (k = 1 ∧ si = true ∧ dn = 0) ∨ (k = 1 ∧ dn ≠ 0 ∧ (dn == 0) = false) ∨ (k = 5 ∧ si = false ∧ dn = 0) ∨ (k = 5 ∧ si = true ∧ dn = 0) ∨ (k = 5 ∧ dn ≠ 0 ∧ (dn == 0) = false) ∨
          ((k == 1) = false ∧ (k == 5) = false ∧ si = false ∧ dn ≠ 0 ∧ (dn == 0) = false) ∨ ((k == 1) = false ∧ (k == 5) = false ∧ si = true ∧ se = pb ∧ dn ≠ 50 ∧ (dn == 50) = false) ∨ ((k == 1) = false ∧ (k == 5) = false ∧ si = true ∧ se ≠ pb ∧ (se == pb) = false ∧ dn ≠ 0 ∧ (dn == 0) = false ∧ B' = B)) := by
        have q0 : ∀ h : dn ≠ 0, (dn == 0) = false := fun h => by simpa using h
        rcases HFB.out with (h1 | h5) | ⟨⟨h1, h5⟩, ⟨e, n0⟩ | ⟨e, ⟨e2, n5⟩ | ⟨ne, n0, eb⟩⟩⟩
        · by_cases h0 : dn = 0
          · cases si
            · exact Or.inl ⟨h1, rfl, h0⟩
            · exact Or.inr (Or.inl ⟨h1, rfl, h0⟩)
          · exact Or.inr (Or.inr (Or.inl ⟨h1, h0, q0 h0⟩))
        · by_cases h0 : dn = 0
          · cases si
            · exact Or.inr (Or.inr (Or.inr (Or.inl ⟨h5, rfl, h0⟩)))
            · exact Or.inr (Or.inr (Or.inr (Or.inr (Or.inl ⟨h5, rfl, h0⟩))))
          · exact Or.inr (Or.inr (Or.inr (Or.inr (Or.inr (Or.inl ⟨h5, h0, q0 h0⟩)))))
        · exact Or.inr (Or.inr (Or.inr (Or.inr (Or.inr (Or.inr (Or.inl ⟨by simpa using h1, by simpa using h5, e, n0, q0 n0⟩))))))
        · exact Or.inr (Or.inr (Or.inr (Or.inr (Or.inr (Or.inr (Or.inr (Or.inl ⟨by simpa using h1, by simpa using h5, e, e2, n5, by simpa using n5⟩)))))))
        · exact Or.inr (Or.inr (Or.inr (Or.inr (Or.inr (Or.inr (Or.inr (Or.inr ⟨by simpa using h1, by simpa using h5, e, ne, by simpa using ne, n0, q0 n0, eb⟩)))))))
      clear hL HF HAy htn HL hdn hB' hse hsi hm HFB
      go_wp2_with (first
        | (go_at_call 18; (with_reducible_and_instances (refine (HS.out.call HI.out.1.of).mono ?_)); rintro r w3 ⟨rfl, hb3⟩; have HX3 := hid (HI.out.1.later hb3); have HB3 := hid (HI.out.2.trans (hb3.mono HI.out.2.size)); clear hb3)
        | (refine store_new (w0 := w3) rfl TSs (.tmp 7) (.tmp 34) rfl L (by rw [HS.out.len]; exact stL_size) rfl rfl TSs _ rfl (by rw [HS.out.len]; rfl) HS.out.one ?_; obtain ⟨W4, hW4⟩ : ∃ W4, w3.alloc (.cells L.toArray TSs) = W4 := ⟨_, rfl⟩; have HX4 : Hid (BOx W1.heap.size [w3.heap.size] W4 g B ∧ Below W1.heap.size W1 W4 ∧ Blk W4 w3.heap.size L.toArray TSs) := (by rw [← hW4]; exact ⟨HX3.out.more ((Below.refl _ _).alloc (Nat.le_refl _) _) (fun b hb => Or.inr (by simp at hb; subst hb; simp)), HB3.out.alloc HB3.out.size _, Blk.new w3 _ _⟩); have HT4 := hid (HTd.out _ _ _ HX4.out.1); rw [hW4]; clear hW4)
        | (go_at_call 15; (with_reducible_and_instances (refine HT4.out.mono ?_)); rintro r w5 ⟨⟨ta, tc, rfl⟩, hb5⟩; have HX5 : Hid (BOx W1.heap.size [w3.heap.size] w5 g B ∧ Below W1.heap.size W1 w5 ∧ Blk w5 w3.heap.size L.toArray TSs) := ⟨HX4.out.1.later hb5, HX4.out.2.1.trans (hb5.mono HX4.out.2.1.size), HX4.out.2.2.later hb5⟩; have HS5 := hid (HSta.out _ _ _ HX5.out.1); obtain ⟨c0, c1, c2, c3, c4, c5, c6, c7⟩ := HY.out w5 HX5.out.2.1; clear hb5)
        | (go_at_call 11; (with_reducible_and_instances (refine HS5.out.mono ?_)); rintro r w6 ⟨rfl, hb6⟩; have HX6 : Hid (BOx W1.heap.size [w3.heap.size] w6 g B ∧ Below W1.heap.size W1 w6 ∧ Blk w6 w3.heap.size L.toArray TSs) := ⟨HX5.out.1.later hb6, HX5.out.2.1.trans (hb6.mono HX5.out.2.1.size), HX5.out.2.2.later hb6⟩; obtain ⟨d0, d1, d2, d3, d4, d5, d6, d7⟩ := HY.out w6 HX6.out.2.1; clear hb6 c0 c1 c2 c3 c4 c5 c6 c7)
        | (go_at_call 9; (with_reducible_and_instances (refine (HOy.out w6).mono ?_)); rintro r w7 ⟨rfl, hb7⟩; have HX7 : Hid (BOx W1.heap.size [w3.heap.size] w7 g B ∧ Below W1.heap.size W1 w7 ∧ Blk w7 w3.heap.size L.toArray TSs) := ⟨HX6.out.1.later hb7, HX6.out.2.1.trans (hb7.mono HX6.out.2.1.size), HX6.out.2.2.later hb7⟩; have HA7 := hid (HAB.out _ _ _ _ HX7.out.1 HX7.out.2.1.size); clear hb7 d0 d1 d2 d3 d4 d5 d6 d7)
        | (go_at_call 12; (with_reducible_and_instances (refine (num16_any _ _).mono ?_)); rintro r w99 ⟨rfl, hw99⟩; obtain rfl := hw99.symm)
        | (go_at_call 13; (with_reducible_and_instances (refine HA7.out.mono ?_)); rintro r w8 ⟨rfl, h8, hb8, hk8⟩; have HX8 : Hid (BOx W1.heap.size [w3.heap.size] w8 g B' ∧ Below W1.heap.size W1 w8 ∧ Blk w8 w3.heap.size L.toArray TSs) := ⟨h8, HX7.out.2.1.trans hb8, (hk8 _ (List.mem_singleton.2 rfl)).trans HX7.out.2.2⟩; obtain ⟨e0, e1, e2, e3, e4, e5, e6, e7⟩ := HY.out w8 HX8.out.2.1; clear h8 hb8 hk8; have HK7 : Hid (∀ W, Below w8.heap.size w8 W → ∀ j, j < L.length → W.cell? ⟨w3.heap.size, 0 + j, none⟩ = L[j]?) := (fun W hW j _ => by rw [Nat.zero_add, (HX8.out.2.2.later hW).cell j, List.getElem?_toArray]); have HF8 := hid (HB1.out.trans (HX8.out.2.1.mono HB1.out.size)); rcases HFC.out with ⟨rfl, rfl, rfl⟩ | ⟨rfl, rfl, rfl⟩ | ⟨rfl, n0, m0⟩ | ⟨rfl, rfl, rfl⟩ | ⟨rfl, rfl, rfl⟩ | ⟨rfl, n0, m0⟩ | ⟨k1, k5, rfl, n0, m0⟩ | ⟨k1, k5, rfl, rfl, n5, m5⟩ | ⟨k1, k5, rfl, ne, me, n0, m0, rfl⟩))
      all_goals (first
        | (go_ret; exact ⟨rfl, HF8.out⟩)
        | (go_ret; exact ⟨by simpa using n5, HF8.out⟩)
        | skip)
      have HSt7 : Hid (∀ W, Below w8.heap.size w8 W → Calls Try.prog 18 #[.pointer (some ⟨g, 0, none⟩)] W fun e w' => e = .returned (.agg L.toArray) ∧ Below W.heap.size W w') := fun W hW => HS.out.call (HX8.out.1.later hW).of
      have HTo7 : Hid (∀ W, Below w8.heap.size w8 W → Calls Try.prog 15 #[.pointer (some ⟨g, 0, none⟩)] W fun e w' => (∃ ad c, e = .returned (.slice ad tn c)) ∧ Below W.heap.size W w') := fun W hW => HTd.out _ _ _ (HX8.out.1.later hW)
      refine wp_region_held_drew (S := fun W => ∀ j, j < L.length → W.cell? ⟨w3.heap.size, 0 + j, none⟩ = L[j]?) (by kernel_rfl) (HK7.out _ (Below.refl _ _).drew) (fun hHeld => ?_)
      refine wpAnyH_take (i := 0) (oi := { dst := some 85, op := Op.move (Operand.tmp 12), type := 25, pos := "law.go:197", after := #[], guard := none }) (v := ?_) rfl (by kernel_rfl) (by kernel_rfl) (by kernel_rfl) (fun _ _ _ h => h) (Or.inl ⟨by rfl, ?_⟩) hHeld ?_
      rotate_left
      · intro w hSw; (try dsimp only at hSw); go_simp; try with_reducible rfl
      try simp only [Act.put, List.setIfInBounds_toArray, List.set_cons_zero, List.set_cons_succ]
      refine wpAnyH_ready (rs := [1]) (by kernel_rfl) (by simp) ?_
      refine AllReadyH.cons rfl (fun K hK => ?_) (AllReadyH.nil)
      go_simp
      go_wp2_with (go_at_call 12; (with_reducible_and_instances (refine (num16_any _ _).mono ?_)); rintro r w9 ⟨rfl, hw9⟩; obtain rfl := hw9.symm)
      refine hK.out _ _ (HK7.out _ (Below.refl _ _).drew) (fun hHeld => ?_)
      clear hK K
      try simp only [Act.put, List.setIfInBounds_toArray, List.set_cons_zero, List.set_cons_succ]
      refine wpAnyH_take (i := 2) (oi := { dst := some 87, op := Op.binOp BinOp.neq 3 (Operand.tmp 86) (Operand.const (Value.int IntKind.i64 0)) 3, type := 4, pos := "law.go:197", after := #[{ on := 1, ground := Ground.data }], guard := none }) (v := .bool true) rfl (by kernel_rfl) (by kernel_rfl) (by kernel_rfl) (fun _ _ _ h => h) (Or.inl ⟨by rfl, ?_⟩) hHeld ?_
      · intro w hSw; (go_simp <;> first | (simpa using n0) | simp [n0])
      try simp only [Act.put, List.setIfInBounds_toArray, List.set_cons_zero, List.set_cons_succ]
      refine wpAnyH_take (i := 3) (oi := { dst := some 88, op := Op.move (Operand.tmp 87), type := 4, pos := "law.go:197", after := #[{ on := 2, ground := Ground.data }, { on := 1, ground := Ground.chain }], guard := none }) (v := ?_) rfl (by kernel_rfl) (by kernel_rfl) (by kernel_rfl) (fun _ _ _ h => h) (Or.inl ⟨by rfl, ?_⟩) hHeld ?_
      rotate_left
      · intro w hSw; (try dsimp only at hSw); go_simp; try with_reducible rfl
      try simp only [Act.put, List.setIfInBounds_toArray, List.set_cons_zero, List.set_cons_succ]
      refine wpAnyH_take (i := 4) (oi := { dst := some 89, op := Op.move (Operand.tmp 5), type := 24, pos := "law.go:197", after := #[{ on := 3, ground := Ground.guard }], guard := some (3, true) }) (v := ?_) rfl (by kernel_rfl) (by kernel_rfl) (by kernel_rfl) (fun _ _ _ h => h) (Or.inl ⟨by rfl, ?_⟩) hHeld ?_
      rotate_left
      · intro w hSw; (try dsimp only at hSw); go_simp; try with_reducible rfl
      try simp only [Act.put, List.setIfInBounds_toArray, List.set_cons_zero, List.set_cons_succ]
      refine wpAnyH_take (i := 6) (oi := { dst := some 91, op := Op.load 49 (Operand.tmp 7), type := 49, pos := "law.go:197", after := #[{ on := 3, ground := Ground.guard }], guard := some (3, true) }) (v := .agg L.toArray) rfl (by kernel_rfl) (by kernel_rfl) (by kernel_rfl) (fun _ _ _ h => h) (Or.inl ⟨by rfl, ?_⟩) hHeld ?_
      · intro w hSw; exact exec_load_wide TSs (.tmp 7) rfl _ Try.underlying49 rfl L (by rw [HS.out.len]; exact stL_size) w3.heap.size 0 rfl hSw
      try simp only [Act.put, List.setIfInBounds_toArray, List.set_cons_zero, List.set_cons_succ]
      refine wpAnyH_ready (rs := [5]) (by kernel_rfl) (by simp) ?_
      refine AllReadyH.cons rfl (fun K hK => ?_) (AllReadyH.nil)
      go_simp
      go_wp2_with (go_at_call 18; (with_reducible_and_instances (refine (HSt7.out _ (Below.refl _ _).drew).mono ?_)); rintro r w18 ⟨rfl, hb8⟩; have HB8 : Hid (Below w8.heap.size w8 w18) := hid ((Below.refl _ _).drew.trans (hb8.mono (Nat.le_refl _))); clear hb8)
      refine hK.out _ _ (HK7.out _ HB8.out) (fun hHeld => ?_)
      clear hK K
      try simp only [Act.put, List.setIfInBounds_toArray, List.set_cons_zero, List.set_cons_succ]
      refine wpAnyH_take (i := 7) (oi := { dst := some 92, op := Op.binOp BinOp.eql 49 (Operand.tmp 90) (Operand.tmp 91) 49, type := 4, pos := "law.go:197", after := #[{ on := 5, ground := Ground.data }, { on := 6, ground := Ground.data }, { on := 3, ground := Ground.guard }], guard := some (3, true) }) (v := .bool true) rfl (by kernel_rfl) (by kernel_rfl) (by kernel_rfl) (fun _ _ _ h => h) (Or.inl ⟨by rfl, ?_⟩) hHeld ?_
      · intro w hSw; exact exec_eql_wide _ L HS.out.eq (.tmp 90) (.tmp 91) rfl rfl rfl
      try simp only [Act.put, List.setIfInBounds_toArray, List.set_cons_zero, List.set_cons_succ]
      refine wpAnyH_take (i := 8) (oi := { dst := some 93, op := Op.pick (Operand.tmp 88) (Operand.tmp 92) (Operand.const (Value.bool false)), type := 4, pos := "law.go:197", after := #[{ on := 3, ground := Ground.data }, { on := 7, ground := Ground.data }], guard := none }) (v := ?_) rfl (by kernel_rfl) (by kernel_rfl) (by kernel_rfl) (fun _ _ _ h => h) (Or.inl ⟨by rfl, ?_⟩) hHeld ?_
      rotate_left
      · intro w hSw; (try dsimp only at hSw); go_simp; try with_reducible rfl
      try simp only [Act.put, List.setIfInBounds_toArray, List.set_cons_zero, List.set_cons_succ]
      refine wpAnyH_take (i := 9) (oi := { dst := some 94, op := Op.move (Operand.tmp 93), type := 4, pos := "law.go:197", after := #[{ on := 8, ground := Ground.data }, { on := 5, ground := Ground.chain }], guard := none }) (v := ?_) rfl (by kernel_rfl) (by kernel_rfl) (by kernel_rfl) (fun _ _ _ h => h) (Or.inl ⟨by rfl, ?_⟩) hHeld ?_
      rotate_left
      · intro w hSw; (try dsimp only at hSw); go_simp; try with_reducible rfl
      try simp only [Act.put, List.setIfInBounds_toArray, List.set_cons_zero, List.set_cons_succ]
      refine wpAnyH_take (i := 10) (oi := { dst := some 95, op := Op.move (Operand.tmp 5), type := 24, pos := "law.go:197", after := #[{ on := 9, ground := Ground.guard }], guard := some (9, true) }) (v := ?_) rfl (by kernel_rfl) (by kernel_rfl) (by kernel_rfl) (fun _ _ _ h => h) (Or.inl ⟨by rfl, ?_⟩) hHeld ?_
      rotate_left
      · intro w hSw; (try dsimp only at hSw); go_simp; try with_reducible rfl
      try simp only [Act.put, List.setIfInBounds_toArray, List.set_cons_zero, List.set_cons_succ]
      refine wpAnyH_take (i := 13) (oi := { dst := some 98, op := Op.move (Operand.tmp 8), type := 3, pos := "law.go:197", after := #[{ on := 9, ground := Ground.guard }], guard := some (9, true) }) (v := ?_) rfl (by kernel_rfl) (by kernel_rfl) (by kernel_rfl) (fun _ _ _ h => h) (Or.inl ⟨by rfl, ?_⟩) hHeld ?_
      rotate_left
      · intro w hSw; (try dsimp only at hSw); go_simp; try with_reducible rfl
      try simp only [Act.put, List.setIfInBounds_toArray, List.set_cons_zero, List.set_cons_succ]
      refine wpAnyH_ready (rs := [11]) (by kernel_rfl) (by simp) ?_
      refine AllReadyH.cons rfl (fun K hK => ?_) (AllReadyH.nil)
      go_simp
      go_wp2_with (go_at_call 15; (with_reducible_and_instances (refine (HTo7.out _ HB8.out).mono ?_)); rintro r w10 ⟨⟨ta2, tc2, rfl⟩, hb10⟩; have HB10 := hid (HB8.out.trans (hb10.mono HB8.out.size)); clear hb10)
      refine hK.out _ _ (HK7.out _ HB10.out) (fun hHeld => ?_)
      clear hK K
      try simp only [Act.put, List.setIfInBounds_toArray, List.set_cons_zero, List.set_cons_succ]
      refine wpAnyH_take (i := 12) (oi := { dst := some 97, op := Op.call { callee := Callee.builtin Builtin.len, args := #[Operand.tmp 96], argTypes := #[37] }, type := 3, pos := "law.go:197", after := #[{ on := 11, ground := Ground.data }, { on := 9, ground := Ground.guard }], guard := some (9, true) }) (v := ?_) rfl (by kernel_rfl) (by kernel_rfl) (by kernel_rfl) (fun _ _ _ h => h) (Or.inl ⟨by rfl, ?_⟩) hHeld ?_
      rotate_left
      · intro w hSw; (try dsimp only at hSw); go_simp; try with_reducible rfl
      try simp only [Act.put, List.setIfInBounds_toArray, List.set_cons_zero, List.set_cons_succ]
      refine wpAnyH_take (i := 14) (oi := { dst := some 99, op := Op.binOp BinOp.eql 3 (Operand.tmp 97) (Operand.tmp 98) 3, type := 4, pos := "law.go:197", after := #[{ on := 12, ground := Ground.data }, { on := 13, ground := Ground.data }, { on := 9, ground := Ground.guard }], guard := some (9, true) }) (v := ?_) rfl (by kernel_rfl) (by kernel_rfl) (by kernel_rfl) (fun _ _ _ h => h) (Or.inl ⟨by rfl, ?_⟩) hHeld ?_
      rotate_left
      · intro w hSw; (try dsimp only at hSw); go_simp; try with_reducible rfl
      try simp only [Act.put, List.setIfInBounds_toArray, List.set_cons_zero, List.set_cons_succ]
      refine wpAnyH_take (i := 15) (oi := { dst := some 100, op := Op.pick (Operand.tmp 94) (Operand.tmp 99) (Operand.const (Value.bool false)), type := 4, pos := "law.go:197", after := #[{ on := 9, ground := Ground.data }, { on := 14, ground := Ground.data }], guard := none }) (v := ?_) rfl (by kernel_rfl) (by kernel_rfl) (by kernel_rfl) (fun _ _ _ h => h) (Or.inl ⟨by rfl, ?_⟩) hHeld ?_
      rotate_left
      · intro w hSw; (try dsimp only at hSw); go_simp; try with_reducible rfl
      try simp only [Act.put, List.setIfInBounds_toArray, List.set_cons_zero, List.set_cons_succ]
      refine wpAnyH_take (i := 16) (oi := { dst := some 4, op := Op.assign (Operand.tmp 100), type := 4, pos := "law.go:197", after := #[{ on := 15, ground := Ground.data }, { on := 11, ground := Ground.chain }, { on := 0, ground := Ground.phase }, { on := 1, ground := Ground.phase }, { on := 2, ground := Ground.phase }, { on := 3, ground := Ground.phase }, { on := 4, ground := Ground.phase }, { on := 5, ground := Ground.phase }, { on := 6, ground := Ground.phase }, { on := 7, ground := Ground.phase }, { on := 8, ground := Ground.phase }, { on := 9, ground := Ground.phase }, { on := 10, ground := Ground.phase }, { on := 11, ground := Ground.phase }, { on := 12, ground := Ground.phase }, { on := 13, ground := Ground.phase }, { on := 14, ground := Ground.phase }, { on := 15, ground := Ground.phase }], guard := none }) (v := ?_) rfl (by kernel_rfl) (by kernel_rfl) (by kernel_rfl) (fun _ _ _ h => h) (Or.inl ⟨by rfl, ?_⟩) hHeld ?_
      rotate_left
      · intro w hSw; (try dsimp only at hSw); go_simp; try with_reducible rfl
      try simp only [Act.put, List.setIfInBounds_toArray, List.set_cons_zero, List.set_cons_succ]
      refine wpAnyH_done (by kernel_rfl) ?_ _
      clear hHeld
      go_wp2_with fail
      go_ret
      exact ⟨rfl, HF8.out.trans (HB10.out.mono HF8.out.size)⟩
end Go.Proofs.Ytkheifdigjajeaa
