/- GroupOffsets, the walk (by genoffw15.py). -/
import Derived.Test.YtnloeegaompfdaaGreatPGOff
namespace Go.Proofs.YtnloeegaompfdaaGreat
open Go.RowKit Go.Shelf
variable {w w' W : World}

theorem nm_ne {q s : Nm} (h : q ≠ s) : (nmS q == nmS s) = false := by
  have h1 : nmS q ≠ nmS s := fun e => h (by have := congrArg ByteArray.toList e; rwa [nm_list, nm_list] at this)
  cases h : (nmS q == nmS s) with
  | false => rfl
  | true => exact absurd ((bytes_beq _ _).1 h) h1
theorem nm_neL {q s : Nm} (h : q ≠ s) : ((nmS q).toList == (nmS s).toList) = false := by
  have h1 : (nmS q).toList ≠ (nmS s).toList := fun e => h (by rwa [nm_list, nm_list] at e)
  simpa using h1
theorem any_snoc (l : List Nm) (q s : Nm) : (l ++ [q]).any (· == s) = (l.any (· == s) || q == s) := by simp
theorem hasAny15 {n : Nat} {G : Gp} (h : GOk n G) (s : Nm) : G.ks.any (· == s) = G.has s := by
  have h1 := h.mem s
  unfold Gp.has
  cases hb : (G.mem s).isSome with
  | true => rw [List.any_eq_true]; exact ⟨s, h1.2 hb, by simp⟩
  | false =>
    rw [List.any_eq_false]
    intro x hx
    have : s ∉ G.ks := fun hm => by rw [h1.1 hm] at hb; cases hb
    intro he
    exact this (eq_of_beq he ▸ hx)
set_option maxRecDepth 100000 in
set_option maxHeartbeats 16000000 in
theorem offsets_walk {l : List Ev} {a : Option Addr} {m c : Nat} (h : ArgK kER w l a m c) (hm : m * 80 ≤ 140737488351232) : Calls Tryz.prog 3 #[.slice a m c] w fun r w' => r = .returned (.bool true) ∧ Below w.heap.size w w' := by
  have HN := hid (New_ok 4 10 (by omega) (by omega) w)
  have HL := hid h
  clear h
  go_enter Tryz.func3, Tryz.ntmps3
  go_wp2_with (first
    | (go_at_call 5; (with_reducible_and_instances (refine HN.out.mono ?_)); rintro r w1 ⟨F, g, rfl, h1, hb1, hF1⟩; have HG1 : Hid (GOf w.heap.size w1 g 0 (gp0 4 10)) := hid ⟨F, h1, hF1⟩; have HB1 := hid hb1; clear h1 hb1 hF1)
    | (go_at_call 6; (with_reducible_and_instances (refine (num15_any _ _).mono ?_)); rintro r w99 ⟨rfl, hw99⟩; obtain rfl := hw99.symm)
    | (go_at_call 7; (with_reducible_and_instances (refine (knows15 _).mono ?_)); rintro r w2 ⟨rfl, hb2⟩; have HI0 : Hid (GOf w.heap.size w2 g 0 (gp0 4 10) ∧ Below w.heap.size w w2) := ⟨HG1.out.later hb2, HB1.out.trans (hb2.mono HB1.out.size)⟩; clear hb2))
  have hNb := HI0.out.2.size
  have HS : Hid (OIn w (w2.alloc (.cells #[.int .i64 (-1), .int .i64 (-1), .int .i64 (-1), .int .i64 (-1)] 3)) w2.heap.size g 0 (gp0 4 10) [] none 0 0) := by
    have b0 : Below w2.heap.size w2 (w2.alloc (.cells #[.int .i64 (-1), .int .i64 (-1), .int .i64 (-1), .int .i64 (-1)] 3)) := (Below.refl _ _).alloc (Nat.le_refl _) _
    refine ⟨HI0.out.1.beside.pick (Chg.of b0) (fun b hb => ?_), heap_alloc_new w2 _, OwnK.nil _ _, ORel.new, rfl, Nat.le_refl _, HI0.out.2.trans (b0.mono hNb)⟩
    have hb : b = w2.heap.size := by simpa [Value.ownBlock] using hb
    subst hb
    exact ⟨Or.inr (Nat.le_refl _), by simp⟩
  go_loopw [6, 7] (fun pv iv wr => ∃ (i : Nat) (G : Gp) (P : List Ev) (pa : Option Addr) (pn pc : Nat), i ≤ m ∧ iv = .int .i64 (i : Int) ∧ pv = .slice pa pn pc ∧ Hid (OIn w wr w2.heap.size g i G P pa pn pc)) (fun _ iv _ => m - (intOf iv).toNat)
  case atStart => exact ⟨0, gp0 4 10, [], none, 0, 0, by omega, rfl, rfl, HS⟩
  case round =>
    obtain ⟨i, G, P, pa, pn, pc, hi, rfl, rfl, HI⟩ := hrel
    obtain ⟨wo, rfl⟩ : ∃ q, q = wr := ⟨wr, rfl⟩
    clear HN HG1 HB1 HI0 HS
    by_cases hlt : i < m
    · obtain ⟨b1, o1, rfl, hs0, hcc⟩ := HL.out.cells (by omega)
      obtain ⟨x, hx⟩ : ∃ x, l.getD i ev0 = x := ⟨_, rfl⟩
      obtain ⟨xk, xs, xa, xb, xc, xd, xe, xf, xq⟩ := x
      obtain ⟨t, ht⟩ : ∃ t, nmS xs = t := ⟨_, rfl⟩
      have HT := hid ht
      have hcap := HL.out.cap
      have HXc : Hid (∀ W, Below w.heap.size w W → W.cell? ⟨b1, o1 + i * 9, none⟩ = some (Value.int .i64 xk) ∧ W.cell? ⟨b1, o1 + i * 9 + 1, none⟩ = some (Value.string t) ∧ W.cell? ⟨b1, o1 + i * 9 + 2, none⟩ = some (Value.int .i64 xa) ∧ W.cell? ⟨b1, o1 + i * 9 + 3, none⟩ = some (Value.int .i64 xb) ∧ W.cell? ⟨b1, o1 + i * 9 + 4, none⟩ = some (Value.int .i64 xc) ∧ W.cell? ⟨b1, o1 + i * 9 + 5, none⟩ = some (Value.int .i64 xd) ∧ W.cell? ⟨b1, o1 + i * 9 + 6, none⟩ = some (Value.int .i64 xe) ∧ W.cell? ⟨b1, o1 + i * 9 + 7, none⟩ = some (Value.int .i64 xf) ∧ W.cell? ⟨b1, o1 + i * 9 + 8, none⟩ = some (Value.bool xq)) := fun W hW => by
        have h9 : ∀ k, k < 9 → W.cell? ⟨b1, o1 + i * 9 + k, none⟩ = (evA ⟨xk, xs, xa, xb, xc, xd, xe, xf, xq⟩).toList[k]? := fun k hk => by
          have h := hcc i hlt k hk
          rw [show l.getD i kER.z = l.getD i ev0 from rfl, hx] at h
          exact (hW.cell (p := ⟨b1, o1 + i * 9 + k, none⟩) hs0).trans h
        rw [← ht]
        exact ⟨h9 0 (by decide), h9 1 (by decide), h9 2 (by decide), h9 3 (by decide), h9 4 (by decide), h9 5 (by decide), h9 6 (by decide), h9 7 (by decide), h9 8 (by decide)⟩
      have HOw : Hid (∀ W, Calls Tryz.prog 11 #[.agg #[.int .i64 xk, .string t, .int .i64 xa, .int .i64 xb, .int .i64 xc, .int .i64 xd, .int .i64 xe, .int .i64 xf, .bool xq]] W fun r w' => r = .returned (.agg #[.int .i64 xk, .string t, .int .i64 xa, .int .i64 xb, .int .i64 xc, .int .i64 xd, .int .i64 xe, .int .i64 xf, .bool xq]) ∧ Below W.heap.size W w') := fun W => by
        have h := own15_any ⟨xk, xs, xa, xb, xc, xd, xe, xf, xq⟩ W
        rw [← ht]
        exact h
      obtain ⟨r0, r1, r2, r3, r4, r5, r6, r7, r8⟩ := HXc.out wo HI.out.all
      obtain ⟨W1, hW1⟩ : ∃ W1, wo.alloc (.cells #[.int .i64 xk, .string t, .int .i64 xa, .int .i64 xb, .int .i64 xc, .int .i64 xd, .int .i64 xe, .int .i64 xf, .bool xq] 31) = W1 := ⟨_, rfl⟩
      have b1w : Below wo.heap.size wo W1 := by rw [← hW1]; exact (Below.refl _ _).alloc (Nat.le_refl _) _
      have z1 : W1.heap.size = wo.heap.size + 1 := by rw [← hW1]; simp
      have hbx : Blk W1 wo.heap.size #[.int .i64 xk, .string t, .int .i64 xa, .int .i64 xb, .int .i64 xc, .int .i64 xd, .int .i64 xe, .int .i64 xf, .bool xq] 31 := by rw [← hW1]; exact heap_alloc_new wo _
      have HZ : Hid (∀ W : World, W.heap[wo.heap.size]? = W1.heap[wo.heap.size]? → W.cell? ⟨wo.heap.size, 0, none⟩ = some (Value.int .i64 xk) ∧ W.cell? ⟨wo.heap.size, 1, none⟩ = some (Value.string t) ∧ W.cell? ⟨wo.heap.size, 2, none⟩ = some (Value.int .i64 xa) ∧ W.cell? ⟨wo.heap.size, 3, none⟩ = some (Value.int .i64 xb) ∧ W.cell? ⟨wo.heap.size, 4, none⟩ = some (Value.int .i64 xc) ∧ W.cell? ⟨wo.heap.size, 5, none⟩ = some (Value.int .i64 xd) ∧ W.cell? ⟨wo.heap.size, 6, none⟩ = some (Value.int .i64 xe) ∧ W.cell? ⟨wo.heap.size, 7, none⟩ = some (Value.int .i64 xf) ∧ W.cell? ⟨wo.heap.size, 8, none⟩ = some (Value.bool xq)) := fun W hW => by
        have hb : Blk W wo.heap.size #[.int .i64 xk, .string t, .int .i64 xa, .int .i64 xb, .int .i64 xc, .int .i64 xd, .int .i64 xe, .int .i64 xf, .bool xq] 31 := hW.trans hbx
        exact ⟨hb.cell 0, hb.cell 1, hb.cell 2, hb.cell 3, hb.cell 4, hb.cell 5, hb.cell 6, hb.cell 7, hb.cell 8⟩
      have HB1 := hid b1w
      have HZ1 := hid z1
      have HGo : Hid (GOf w.heap.size W1 g (102 * i) G) := HI.out.grp.of.later b1w
      have HMe := hid HGo.out.members
      obtain ⟨mk, hmk⟩ : ∃ mk, G.ks.length = mk := ⟨_, rfl⟩
      rw [hmk] at HMe
      have HMk := hid hmk
      have hmkb : mk ≤ 100 := by rw [← hmk]; exact HGo.out.ok.cnt
      have HHas : Hid (G.ks.any (· == xs) = G.has xs) := hasAny15 HGo.out.ok xs
      obtain ⟨gn, hgn⟩ : ∃ gn, G.gen = gn := ⟨_, rfl⟩
      have HGe : Hid (∀ W, Below W1.heap.size W1 W → Calls Tryz.prog 9 #[.pointer (some ⟨g, 0, none⟩)] W fun e w' => e = .returned (.int .i64 gn) ∧ w' = W) := fun W hW => by
        have h := (HGo.out.later hW).gen
        rw [hgn] at h
        exact h
      obtain ⟨cur, hcur⟩ : ∃ cur, (G.has xs && xa == gn) = cur := ⟨_, rfl⟩
      have HCur : Hid ((G.has xs && xa == G.gen) = cur) := by rw [hgn]; exact hcur
      have HCu2 : Hid ((G.has xs && xa == gn) = cur) := hcur
      obtain ⟨d, hd⟩ : ∃ d, (G.dec ⟨xk, xs, xa, xb, xc, xd, xe, xf, xq⟩).2 = d := ⟨_, rfl⟩
      obtain ⟨G', hG'⟩ : ∃ G', G.app ⟨xk, xs, xa, xb, xc, xd, xe, xf, xq⟩ = G' := ⟨_, rfl⟩
      have HD : Hid ((G.dec ⟨xk, xs, xa, xb, xc, xd, xe, xf, xq⟩).2 = d ∧ G.app ⟨xk, xs, xa, xb, xc, xd, xe, xf, xq⟩ = G') := ⟨hd, hG'⟩
      have HAp : Hid (∀ W2, Below W1.heap.size W1 W2 → Calls Tryz.prog 10 #[.pointer (some ⟨g, 0, none⟩), .agg #[.int .i64 xk, .string t, .int .i64 xa, .int .i64 xb, .int .i64 xc, .int .i64 xd, .int .i64 xe, .int .i64 xf, .bool xq]] W2 fun r w6 => r = .returned (.int .i64 d) ∧ OMid w w6 w2.heap.size wo.heap.size g i G G' P pa pn pc ∧ w6.heap[wo.heap.size]? = W2.heap[wo.heap.size]?) := fun W2 hb => by
        have h := HI.out.apply ⟨xk, xs, xa, xb, xc, xd, xe, xf, xq⟩ (by omega) (HB1.out.trans (hb.mono HB1.out.size)) (by have := hb.size; have := HZ1.out; omega)
        rw [hd, hG'] at h
        rw [← ht]
        exact h
      clear hcc hx ht hs0 HXc b1w hbx hmk hgn hcur hd hG'
      go_wp2_with (go_at_call 8; (with_reducible_and_instances (refine HMe.out.mono ?_)); rintro r w4 ⟨ma, mc, rfl, hO4, hb4⟩; have HO4 := hid hO4; have HB4 := hid hb4; clear hO4 hb4)
      go_loopw [9, 11] (fun mv kv wr => ∃ (k n0 : Nat), k ≤ mk ∧ kv = .int .i64 (k : Int) ∧ mv = .bool ((G.ks.take k).any (· == xs)) ∧ wr = w4.drewN n0) (fun _ kv _ => mk - (intOf kv).toNat)
      case atStart => exact ⟨0, 0, by omega, rfl, by rw [List.take_zero]; rfl, rfl⟩
      case round =>
        obtain ⟨k, n0, hk, rfl, rfl, hwr⟩ := hrel
        have HWr := hid hwr
        have b4r : Below w4.heap.size w4 wr := by rw [hwr]; exact below_drewN' (Below.refl _ _) n0
        have HB4r := hid b4r
        clear hwr b4r
        by_cases hkk : k < mk
        · have HTk := hid (take_snoc_any G.ks [] k (by rw [HMk.out]; exact hkk))
          obtain ⟨mb, hmb⟩ : ∃ mb, (G.ks.take k).any (· == xs) = mb := ⟨_, rfl⟩
          obtain ⟨q, hq⟩ : ∃ q, G.ks.getD k [] = q := ⟨_, rfl⟩
          have HNx : Hid ((G.ks.take (k + 1)).any (· == xs) = (mb || q == xs)) := by rw [HTk.out, any_snoc, hmb, hq]; exact rfl
          obtain ⟨b5, o5, rfl, hs5, hc5⟩ := (own_arg kS_ok.tofit HO4.out).cells (by omega)
          have s0 : wr.cell? ⟨b5, o5 + k, none⟩ = some (.string (nmS q)) := by
            have h := hc5 k hkk 0 (by decide)
            rw [Nat.mul_one, Nat.add_zero, hq] at h
            exact (HB4r.out.cell (p := ⟨b5, o5 + k, none⟩) hs5).trans h
          have s1 : wr.cell? ⟨wo.heap.size, 1, none⟩ = some (.string t) := (HZ.out wr ((HB4r.out.block _ (by have := HB4.out.size; have := HZ1.out; omega)).trans (HB4.out.block _ (by have := HZ1.out; omega)))).2.1
          have hcp5 := (own_arg kS_ok.tofit HO4.out).cap
          have hcr5 := (own_arg kS_ok.tofit HO4.out).room
          rw [hmb]
          clear hc5 hs5 hmb hq HTk
          have HEnd : Hid (∀ nq2, wr.drewN nq2 = w4.drewN (n0 + nq2)) := fun nq2 => by rw [HWr.out, World.drewN_drewN]
          cases mb with
          | true =>
            go_wp2_with fail
            go_quiet (fail)
            go_wp2_with fail
            exact ⟨⟨k + 1, n0 + nq, by omega, by go_num, by rw [HNx.out]; rfl, HEnd.out _⟩, by simp [intOf]; omega⟩
          | false =>
            by_cases he : q = xs
            · subst he
              rw [HT.out] at s0
              go_wp2_with fail
              go_quiet (fail)
              go_wp2_with fail
              exact ⟨⟨k + 1, n0 + nq, by omega, by go_num, by rw [HNx.out]; simp, HEnd.out _⟩, by simp [intOf]; omega⟩
            · have hqx : (q == xs) = false := by simpa using he
              have HQX := hid hqx
              have e1 : (nmS q == t) = false := by
                rw [← HT.out]
                exact nm_ne he
              have e2 : ((nmS q).toList == t.toList) = false := by
                rw [← HT.out]
                exact nm_neL he
              generalize nmS q = tq at *
              clear hqx he
              go_wp2_with fail
              go_quiet (fail)
              go_wp2_with fail
              exact ⟨⟨k + 1, n0 + nq, by omega, by go_num, by rw [HNx.out, HQX.out]; rfl, HEnd.out _⟩, by simp [intOf]; omega⟩
        · obtain rfl : mk = k := by omega
          have HK : Hid ((G.ks.take mk).any (· == xs) = G.has xs) := by
            rw [List.take_of_length_le (by rw [HMk.out]; exact Nat.le_refl _)]
            exact HHas
          rw [HK.out]
          obtain ⟨hb, hhb⟩ : ∃ hb, G.has xs = hb := ⟨_, rfl⟩
          rw [hhb]
          have HCu3 : Hid ((hb && xa == gn) = cur) := by rw [← hhb]; exact HCu2.out
          clear hhb
          obtain ⟨w5, rfl⟩ : ∃ q, q = wr := ⟨wr, rfl⟩
          have HB5 : Hid (Below W1.heap.size W1 w5) := HB4.out.trans (HB4r.out.mono HB4.out.size)
          have HZ5 : Hid (∀ W, Below W1.heap.size W1 W → W.cell? ⟨wo.heap.size, 0, none⟩ = some (Value.int .i64 xk) ∧ W.cell? ⟨wo.heap.size, 1, none⟩ = some (Value.string t) ∧ W.cell? ⟨wo.heap.size, 2, none⟩ = some (Value.int .i64 xa) ∧ W.cell? ⟨wo.heap.size, 3, none⟩ = some (Value.int .i64 xb) ∧ W.cell? ⟨wo.heap.size, 4, none⟩ = some (Value.int .i64 xc) ∧ W.cell? ⟨wo.heap.size, 5, none⟩ = some (Value.int .i64 xd) ∧ W.cell? ⟨wo.heap.size, 6, none⟩ = some (Value.int .i64 xe) ∧ W.cell? ⟨wo.heap.size, 7, none⟩ = some (Value.int .i64 xf) ∧ W.cell? ⟨wo.heap.size, 8, none⟩ = some (Value.bool xq)) := fun W hW => HZ.out W (hW.block _ (by have := HZ1.out; omega))
          clear HWr HK HHas HMe HMk HB4r HO4 HB4
          go_upto_region 16 with fail
          go_cut [12] (fun cv wx => cv = .bool cur ∧ ∃ n1, wx = w5.drewN n1)
          case first =>
            have HG5 : Hid (∀ q, Calls Tryz.prog 9 #[.pointer (some ⟨g, 0, none⟩)] (w5.drewN q) fun e w' => e = .returned (.int .i64 gn) ∧ w' = w5.drewN q) := fun q => HGe.out _ (below_drewN' HB5.out q)
            have s2 := (HZ5.out w5 HB5.out).2.2.1
            cases hb with
            | false =>
              have hcu : cur = false := by rw [← HCu3.out]; rfl
              subst hcu
              clear s2
              go_quiet ((go_at_call 9; exact Calls.quiet_of_same (HG5.out _)))
              go_wp2_with fail
              go_meet
              case rel => exact ⟨rfl, _, rfl⟩
            | true =>
              by_cases he : xa = gn
              · have hcu : cur = true := by rw [← HCu3.out, he]; simp
                subst hcu
                rw [he] at s2
                clear he
                go_quiet ((go_at_call 9; exact Calls.quiet_of_same (HG5.out _)))
                go_wp2_with fail
                go_meet
                case rel => exact ⟨rfl, _, rfl⟩
              · have hcu : cur = false := by rw [← HCu3.out]; simp [he]
                have hxg : (xa == gn) = false := by simpa using he
                subst hcu
                clear he
                go_quiet ((go_at_call 9; exact Calls.quiet_of_same (HG5.out _)))
                go_wp2_with fail
                go_meet
                case rel => exact ⟨rfl, _, rfl⟩
          case rest =>
            obtain ⟨rfl, n1, hwx⟩ := hcut
            have HBx : Hid (Below W1.heap.size W1 wc) := by rw [hwx]; exact below_drewN' HB5.out n1
            obtain ⟨s0, s1, s2, s3, s4, s5, s6, s7, s8⟩ := HZ5.out wc HBx.out
            clear hwx HGe HB5
            by_cases hd0 : d = 0
            · subst hd0
              go_upto_block 4 with (first
                | (go_at_call 11; (with_reducible_and_instances (refine (HOw.out _).mono ?_)); rintro r w55 ⟨rfl, hb55⟩; have HA5 := hid (HAp.out w55 (HBx.out.trans (hb55.mono HBx.out.size))); have HX5 := hid (hb55.block wo.heap.size (by have := HBx.out.size; have := HZ1.out; omega)); clear hb55 s0 s1 s2 s3 s4 s5 s6 s7 s8)
                | (go_at_call 10; (with_reducible_and_instances (refine HA5.out.mono ?_)); rintro r w6 ⟨rfl, h6, hx6⟩; have HM6 := hid h6; have HX6 : Hid (w6.heap[wo.heap.size]? = W1.heap[wo.heap.size]?) := hx6.trans (HX5.out.trans (HBx.out.block _ (by have := HZ1.out; omega))); obtain ⟨t0, t1, t2, t3, t4, t5, t6, t7, t8⟩ := HZ.out w6 HX6.out; clear h6 hx6)
                | (go_at_call 6; (with_reducible_and_instances (refine (num15_any _ _).mono ?_)); rintro r w99 ⟨rfl, hw99⟩; obtain rfl := hw99.symm))
              go_cut [6] (fun pv wc => ∃ (P' : List Ev) (pa' : Option Addr) (pn' pc' : Nat), pv = .slice pa' pn' pc' ∧ Hid (OIn w wc w2.heap.size g (i + 1) G' P' pa' pn' pc'))
              case rest =>
                obtain ⟨P', pa', pn', pc', rfl, HI'⟩ := hcut
                clear HM6 HX6 t0 t1 t2 t3 t4 t5 t6 t7 t8 HA5 HX5 HBx HD HAp HOw HZ HZ5 HCur HCu2 HI HGo
                go_wp2_with fail
                go_loopw [16] (fun kv wr => ∃ k : Nat, k ≤ 4 ∧ kv = .int .i64 (k : Int) ∧ wr = wc) (fun kv _ => 4 - (intOf kv).toNat)
                case atStart => exact ⟨0, by omega, rfl, rfl⟩
                case round =>
                  obtain ⟨k, hk4, rfl, hwr⟩ := hrel
                  have HI2 : Hid (OIn w wr w2.heap.size g (i + 1) G' P' pa' pn' pc') := by rw [hwr]; exact HI'
                  have HWr := hid hwr
                  clear hwr
                  by_cases hk : k < 4
                  · have HOf := hid (HI2.out.grp.of.offset k hk)
                    have c0 : wr.cell? ⟨w2.heap.size, k, none⟩ = some (.int .i64 (tld G'.off (k : Int))) := (HI2.out.tab.cell k).trans (ofA_get _ k hk)
                    have hof := HI2.out.rel.off (k : Int)
                    unfold tld at c0
                    cases hq : G'.off (k : Int) with
                    | none =>
                      rw [hq] at HOf c0
                      dsimp only [Option.getD, Option.isSome] at HOf c0
                      clear hq hof
                      go_wp2_with (go_at_call 12; (with_reducible_and_instances (refine HOf.out.mono ?_)); rintro r w9 ⟨rfl, hw9⟩; obtain rfl := hw9.symm)
                      exact ⟨⟨k + 1, by omega, by go_num, HWr.out⟩, by simp [intOf]; omega⟩
                    | some v =>
                      have hv := (hof v hq).1
                      rw [hq] at HOf c0
                      dsimp only [Option.getD, Option.isSome] at HOf c0
                      clear hq hof
                      have hvd : decide (0 ≤ v) = true := decide_eq_true hv
                      clear hv
                      go_wp2_with (go_at_call 12; (with_reducible_and_instances (refine HOf.out.mono ?_)); rintro r w9 ⟨rfl, hw9⟩; obtain rfl := hw9.symm)
                      exact ⟨⟨k + 1, by omega, by go_num, HWr.out⟩, by simp [intOf]; omega⟩
                  · obtain rfl : k = 4 := by omega
                    go_wp2_with fail
                    exact ⟨⟨i + 1, G', P', pa', pn', pc', by omega, by go_num, rfl, HI2⟩, by simp [intOf]; omega⟩
              case first =>
                clear HOw HAp HA5 HX5 HBx HZ5 HGo
                by_cases hk4 : xk = 4
                · subst hk4
                  obtain ⟨q1, q2, q3, q4, q5, q6⟩ := o_commit HI.out.rel rfl HD.out.1
                  rw [HD.out.2] at q5 q6
                  have q1 : (G.has xs && xa == G.gen) = true := q1
                  have q2 : 0 ≤ xb := q2
                  have q3 : xb < 4 := q3
                  have hcu : cur = true := by rw [← HCur.out]; exact q1
                  subst hcu
                  obtain ⟨p, rfl⟩ : ∃ p : Nat, xb = (p : Int) := ⟨xb.toNat, by omega⟩
                  have hp4 : p < 4 := by omega
                  have HN := hid (HM6.out.commit p hp4 xc q5 q6 hNb)
                  have f0 := HM6.out.tab.free p
                  have c0 : w6.cell? ⟨w2.heap.size, p, none⟩ = some (.int .i64 (tld G.off (p : Int))) := (HM6.out.tab.cell p).trans (ofA_get _ p hp4)
                  clear q1 q2 q4 q5 q6 q3
                  go_wp2_with fail
                  go_meet
                  case rel => exact ⟨P, pa, pn, pc, rfl, HN⟩
                · have hk4b : (xk == 4) = false := by simpa using hk4
                  by_cases hk6 : xk = 6
                  · subst hk6
                    obtain ⟨q1, q5, q6⟩ := o_promise HI.out.rel rfl HD.out.1
                    rw [HD.out.2] at q5 q6
                    have hcu : cur = true := by rw [← HCur.out]; exact q1
                    subst hcu
                    have HRw : Hid (RowK kER (w6.alloc (.cells #[.int .i64 6, .string t, .int .i64 xa, .int .i64 xb, .int .i64 xc, .int .i64 xd, .int .i64 xe, .int .i64 xf, .bool xq] 31)) (some ⟨w6.heap.size, 0, none⟩) [⟨6, xs, xa, xb, xc, xd, xe, xf, xq⟩]) := by
                      have h := ev_row w6 ⟨6, xs, xa, xb, xc, xd, xe, xf, xq⟩
                      rw [← HT.out]
                      exact h
                    have hb8 : Below w6.heap.size w6 (w6.alloc (.cells #[.int .i64 6, .string t, .int .i64 xa, .int .i64 xb, .int .i64 xc, .int .i64 xd, .int .i64 xe, .int .i64 xf, .bool xq] 31)) := (Below.refl _ _).alloc (Nat.le_refl _) _
                    have HB8 := hid hb8
                    have HO2 := hid (HM6.out.row.later hb8)
                    have HLn := hid HM6.out.len
                    have hfew := HM6.out.few
                    have hall := HM6.out.all.size
                    have HQ := hid (And.intro q5 q6)
                    clear q1 q5 q6 hb8 hk4 hk4b
                    go_wp2_with (at_builtin; refine app_lies kER_ok rfl (.tmp 94) (.tmp 96) rfl w.heap.size (.slice pa pn pc) P rfl HO2.out w6.heap.size ⟨6, xs, xa, xb, xc, xd, xe, xf, xq⟩ rfl HRw.out pn HLn.out (by unfold maxLen; omega) (by show (pn + 1) * 80 ≤ _; omega) (by simp; omega) ?_; intro b3 c3 w7 hown hg hl; have HN := hid (HM6.out.promise HB8.out HQ.out.1 HQ.out.2 hown hg hl); clear hown hg hl)
                    go_meet
                    case rel => exact ⟨_, _, _, _, rfl, HN⟩
                  · have hk6b : (xk == 6) = false := by simpa using hk6
                    by_cases hk7 : xk = 7
                    · subst hk7
                      obtain ⟨q5, q6⟩ := o_mark HI.out.rel rfl HD.out.1
                      rw [HD.out.2] at q5 q6
                      have HQ := hid (And.intro q5 q6)
                      have HLn := hid HM6.out.len
                      have hfew := HM6.out.few
                      have hall := HM6.out.all.size
                      have HN0 : Hid (MIn w6 w6 w2.heap.size 0 G ⟨7, xs, xa, xb, xc, xd, xe, xf, xq⟩ P none 0 0) := MIn.new HM6.out
                      have HXl : Hid (w2.heap.size < w6.heap.size) := HM6.out.tab.lt
                      have HXb : Hid (w2.heap.size < wo.heap.size ∧ wo.heap.size < w6.heap.size) := ⟨HI.out.tab.lt, HM6.out.inX _ (by simp)⟩
                      have HT6 : Hid (∀ W : World, W.heap[wo.heap.size]? = w6.heap[wo.heap.size]? → W.cell? ⟨wo.heap.size, 0, none⟩ = some (Value.int .i64 7) ∧ W.cell? ⟨wo.heap.size, 1, none⟩ = some (Value.string t) ∧ W.cell? ⟨wo.heap.size, 2, none⟩ = some (Value.int .i64 xa) ∧ W.cell? ⟨wo.heap.size, 3, none⟩ = some (Value.int .i64 xb) ∧ W.cell? ⟨wo.heap.size, 4, none⟩ = some (Value.int .i64 xc) ∧ W.cell? ⟨wo.heap.size, 5, none⟩ = some (Value.int .i64 xd) ∧ W.cell? ⟨wo.heap.size, 6, none⟩ = some (Value.int .i64 xe) ∧ W.cell? ⟨wo.heap.size, 7, none⟩ = some (Value.int .i64 xf) ∧ W.cell? ⟨wo.heap.size, 8, none⟩ = some (Value.bool xq)) := fun W hW => HZ.out W (hW.trans HX6.out)
                      clear q5 q6 hk4 hk4b hk6 hk6b t1 t2 t3 t4 t5 t6 t7 t8
                      go_wp2_with fail
                      go_loopw [14, 15] (fun rv kv wr => ∃ (j : Nat) (ra : Option Addr) (rn rc : Nat), j ≤ pn ∧ kv = .int .i64 (j : Int) ∧ rv = .slice ra rn rc ∧ Hid (MIn w6 wr w2.heap.size j G ⟨7, xs, xa, xb, xc, xd, xe, xf, xq⟩ P ra rn rc)) (fun _ kv _ => pn - (intOf kv).toNat)
                      case atStart => exact ⟨0, none, 0, 0, by omega, rfl, rfl, HN0⟩
                      case round =>
                        obtain ⟨j, ra, rn, rc, hj, rfl, rfl, HM⟩ := hrel
                        obtain ⟨w9, rfl⟩ : ∃ q, q = wr := ⟨wr, rfl⟩
                        have hrn : rn ≤ j := HM.out.few
                        by_cases hjj : j < pn
                        · have HPw := hid (HM.out.pend HM6.out)
                          obtain ⟨bp, op, rfl, hcap7, hroom7, hcc⟩ := own15_cells HPw.out (by omega)
                          obtain ⟨y, hy⟩ : ∃ y, P.getD j ev0 = y := ⟨_, rfl⟩
                          have HTk : Hid (P.take (j + 1) = P.take j ++ [y]) := by rw [← hy]; exact take_snoc_any P ev0 j (by rw [HLn.out]; exact hjj)
                          have hyin : y ∈ P := by
                            rw [← hy, List.getD_eq_getElem?_getD, List.getElem?_eq_getElem (by rw [HLn.out]; exact hjj)]
                            exact List.getElem_mem _
                          have hpin := HI.out.rel.pin y hyin
                          obtain ⟨yk, ys, ya, yb, yc, yd, ye, yf, yq⟩ := y
                          obtain ⟨ty, hty⟩ : ∃ ty, nmS ys = ty := ⟨_, rfl⟩
                          have HTy := hid hty
                          have hpin : 0 ≤ yb ∧ yb < 4 ∧ 0 ≤ yc ∧ yc < 281474976710656 := hpin
                          have hbl : bp < w9.heap.size := (HPw.out.block bp rfl).2.1
                          have HY : Hid (∀ W, Below w9.heap.size w9 W → W.cell? ⟨bp, op + j * 9, none⟩ = some (Value.int .i64 yk) ∧ W.cell? ⟨bp, op + j * 9 + 1, none⟩ = some (Value.string ty) ∧ W.cell? ⟨bp, op + j * 9 + 2, none⟩ = some (Value.int .i64 ya) ∧ W.cell? ⟨bp, op + j * 9 + 3, none⟩ = some (Value.int .i64 yb) ∧ W.cell? ⟨bp, op + j * 9 + 4, none⟩ = some (Value.int .i64 yc) ∧ W.cell? ⟨bp, op + j * 9 + 5, none⟩ = some (Value.int .i64 yd) ∧ W.cell? ⟨bp, op + j * 9 + 6, none⟩ = some (Value.int .i64 ye) ∧ W.cell? ⟨bp, op + j * 9 + 7, none⟩ = some (Value.int .i64 yf) ∧ W.cell? ⟨bp, op + j * 9 + 8, none⟩ = some (Value.bool yq)) := fun W hW => by
                            have h9 : ∀ k, k < 9 → W.cell? ⟨bp, op + j * 9 + k, none⟩ = (evA ⟨yk, ys, ya, yb, yc, yd, ye, yf, yq⟩).toList[k]? := fun k hk => by
                              have h := hcc j hjj k hk
                              rw [hy] at h
                              exact (hW.cell (p := ⟨bp, op + j * 9 + k, none⟩) hbl).trans h
                            rw [← hty]
                            exact ⟨h9 0 (by decide), h9 1 (by decide), h9 2 (by decide), h9 3 (by decide), h9 4 (by decide), h9 5 (by decide), h9 6 (by decide), h9 7 (by decide), h9 8 (by decide)⟩
                          have HT9 : Hid (∀ W, Below w9.heap.size w9 W → W.cell? ⟨wo.heap.size, 0, none⟩ = some (Value.int .i64 7) ∧ W.cell? ⟨wo.heap.size, 1, none⟩ = some (Value.string t) ∧ W.cell? ⟨wo.heap.size, 2, none⟩ = some (Value.int .i64 xa) ∧ W.cell? ⟨wo.heap.size, 3, none⟩ = some (Value.int .i64 xb) ∧ W.cell? ⟨wo.heap.size, 4, none⟩ = some (Value.int .i64 xc) ∧ W.cell? ⟨wo.heap.size, 5, none⟩ = some (Value.int .i64 xd) ∧ W.cell? ⟨wo.heap.size, 6, none⟩ = some (Value.int .i64 xe) ∧ W.cell? ⟨wo.heap.size, 7, none⟩ = some (Value.int .i64 xf) ∧ W.cell? ⟨wo.heap.size, 8, none⟩ = some (Value.bool xq)) := fun W hW => HT6.out W ((hW.block _ (by have := HXb.out.2; have := HM.out.chg.size; omega)).trans (HM.out.chg.block _ HXb.out.2 (by have := HXb.out.1; simp; omega)))
                          obtain ⟨y0, y1, y2, y3, y4, y5, y6, y7, y8⟩ := HY.out w9 (Below.refl _ _)
                          have t5 := (HT9.out w9 (Below.refl _ _)).2.2.2.2.2.1
                          clear hcc hy hyin hty hbl
                          by_cases hpq : yd = xd
                          · subst hpq
                            go_wp2_with fail
                            go_quiet (fail)
                            have HBx := hid (below_drewN' (Below.refl w9.heap.size w9) nq)
                            generalize hwx : w9.drewN nq = wx at *
                            have HMx := hid (HM.out.later HBx.out)
                            obtain ⟨z0, z1, z2, z3, z4, z5, z6, z7, z8⟩ := HY.out wx HBx.out
                            have x8 := (HT9.out wx HBx.out).2.2.2.2.2.2.2.2
                            clear y0 y1 y2 y3 y4 y5 y6 y7 y8 t5 hwx
                            cases xq with
                            | false =>
                              have HN := hid (HMx.out.skip HTk.out (by simp) rfl)
                              go_wp2_with fail
                              exact ⟨⟨j + 1, ra, rn, rc, by omega, by go_num, rfl, HN⟩, by simp [intOf]; omega⟩
                            | true =>
                              obtain ⟨p, rfl⟩ : ∃ p : Nat, yb = (p : Int) := ⟨yb.toNat, by omega⟩
                              have hp4 : p < 4 := by omega
                              have HN := hid (HMx.out.put HTk.out (by simp) rfl p hp4 rfl HXl.out)
                              have f0 := HMx.out.tab.free p
                              have c0 : wx.cell? ⟨w2.heap.size, p, none⟩ = some _ := (HMx.out.tab.cell p).trans (ofA_get _ p hp4)
                              clear hpin
                              go_wp2_with fail
                              apply once
                              case main =>
                                intro hmm
                                go_region_law (fail)
                                all_goals exact hmm
                              go_wp2_with fail
                              exact ⟨⟨j + 1, ra, rn, rc, by omega, by go_num, rfl, hid (HN.out.later (Below.refl _ _).drew)⟩, by simp [intOf]; omega⟩
                          · have hpb : (yd == xd) = false := by simpa using hpq
                            have HPb := hid hpb
                            clear hpq
                            go_wp2_with fail
                            go_quiet (fail)
                            have HBx := hid (below_drewN' (Below.refl w9.heap.size w9) nq)
                            generalize hwx : w9.drewN nq = wx at *
                            have HMx := hid (HM.out.later HBx.out)
                            obtain ⟨z0, z1, z2, z3, z4, z5, z6, z7, z8⟩ := HY.out wx HBx.out
                            clear y0 y1 y2 y3 y4 y5 y6 y7 y8 t5 hwx
                            have hszx := HMx.out.chg.size
                            have HRw : Hid (RowK kER (wx.alloc (.cells #[.int .i64 yk, .string ty, .int .i64 ya, .int .i64 yb, .int .i64 yc, .int .i64 yd, .int .i64 ye, .int .i64 yf, .bool yq] 31)) (some ⟨wx.heap.size, 0, none⟩) [⟨yk, ys, ya, yb, yc, yd, ye, yf, yq⟩]) := by
                              have h := ev_row wx ⟨yk, ys, ya, yb, yc, yd, ye, yf, yq⟩
                              rw [← HTy.out]
                              exact h
                            have hb8 : Below wx.heap.size wx (wx.alloc (.cells #[.int .i64 yk, .string ty, .int .i64 ya, .int .i64 yb, .int .i64 yc, .int .i64 yd, .int .i64 ye, .int .i64 yf, .bool yq] 31)) := (Below.refl _ _).alloc (Nat.le_refl _) _
                            have HB8 := hid hb8
                            have HO2 := hid (HMx.out.row.later hb8)
                            have HLr := hid HMx.out.len
                            clear hb8
                            go_wp2_with (at_builtin; refine app_lies kER_ok rfl (.tmp 114) (.tmp 119) rfl w6.heap.size (.slice ra rn rc) (rstA ⟨7, xs, xa, xb, xc, xd, xe, xf, xq⟩ (P.take j)) rfl HO2.out wx.heap.size ⟨yk, ys, ya, yb, yc, yd, ye, yf, yq⟩ rfl HRw.out rn HLr.out (by unfold maxLen; omega) (by show (rn + 1) * 80 ≤ _; omega) (by simp; omega) ?_; intro b3 c3 w7 hown hg hl; have HN := hid (HMx.out.more HTk.out HPb.out HB8.out hown hg HXl.out); clear hown hg hl)
                            exact ⟨⟨j + 1, _, _, _, by omega, by go_num, rfl, HN⟩, by simp [intOf]; omega⟩
                        · obtain rfl : pn = j := by omega
                          have HN := hid (HM6.out.mark HM.out HQ.out.1 HQ.out.2 hNb)
                          go_wp2_with fail
                          go_meet
                          case rel => exact ⟨_, _, _, _, rfl, HN⟩
                    · have hk7b : (xk == 7) = false := by simpa using hk7
                      obtain ⟨q5, q6⟩ := o_other HI.out.rel hk4 hk6 hk7 HD.out.1
                      rw [HD.out.2] at q5 q6
                      have HN := hid (HM6.out.other q5 q6)
                      clear q5 q6 hk4 hk6 hk7
                      go_wp2_with fail
                      go_meet
                      case rel => exact ⟨P, pa, pn, pc, rfl, HN⟩
            · have hdb : (d == 0) = false := by simpa using hd0
              have hGG : G = G' := by rw [← HD.out.2]; exact (app_refused (by rw [HD.out.1]; exact hd0)).symm
              subst hGG
              clear hd0
              go_wp2_with (first
                | (go_at_call 11; (with_reducible_and_instances (refine (HOw.out _).mono ?_)); rintro r w55 ⟨rfl, hb55⟩; have HA5 := hid (HAp.out w55 (HBx.out.trans (hb55.mono HBx.out.size))); clear hb55)
                | (go_at_call 10; (with_reducible_and_instances (refine HA5.out.mono ?_)); rintro r w6 ⟨rfl, h6, -⟩; have HM6 := hid (h6.same HI.out.rel); clear h6)
                | (go_at_call 6; (with_reducible_and_instances (refine (num15_any _ _).mono ?_)); rintro r w99 ⟨rfl, hw99⟩; obtain rfl := hw99.symm))
              exact ⟨⟨i + 1, G, P, pa, pn, pc, by omega, by go_num, rfl, HM6⟩, by simp [intOf]; omega⟩
    · obtain rfl : m = i := by omega
      have HPe : Hid (Calls Tryz.prog 13 #[.pointer (some ⟨g, 0, none⟩)] wo fun e w' => (∃ a c, e = .returned (.slice a pn c)) ∧ Below wo.heap.size wo w') := by
        have h := HI.out.grp.of.pending (by omega)
        rw [HI.out.rel.pend, List.length_map, HI.out.len] at h
        exact h
      go_wp2_with (go_at_call 13; (with_reducible_and_instances (refine HPe.out.mono ?_)); rintro r w6 ⟨⟨a6, c6, rfl⟩, hb6⟩; have HB6 := hid (HI.out.all.trans (hb6.mono HI.out.all.size)); clear hb6)
      go_ret
      exact ⟨rfl, HB6.out⟩
end Go.Proofs.YtnloeegaompfdaaGreat
