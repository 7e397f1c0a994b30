/- New of package group, and what a group tells: Generation, Members, Share, Offset. Ints, Texts and num of the statements of layer 15 (by gensame15.py). -/
import Derived.Test.YtipgociofjokeaaGreatGApply
import Derived.BigQuiet
namespace Go.Proofs.YtipgociofjokeaaGreat
open Go.RowKit Go.Shelf Go.Sort
variable {w w' : World} {g n : Nat} {G : Gp} {F : List Nat}

theorem GOk.new {p s : Int} (hp : 1 ≤ p ∧ p ≤ 32) (hs : 1 ≤ s ∧ s ≤ 3600) : GOk 0 (gp0 p s) := by
  refine ⟨List.Pairwise.nil, List.nodup_nil, fun nm => ?_, fun nm h => ?_, ?_, hp, hs, fun nm mb h => ?_, fun nm mb h => ?_, ⟨Int.le_refl _, ?_⟩, Nat.le_refl _, fun y h => by cases h⟩
  · show nm ∈ ([] : List Nm) ↔ (none : Option Mb).isSome = true; simp
  · cases h
  · show ([] : List Nm).length ≤ 100; simp
  · cases h
  · cases h
  · show (0 : Int) ≤ ((0 : Nat) : Int); omega
theorem maps3 (w : World) (o : Obj) : ((((w.alloc (.map #[] 0)).alloc (.map #[] 0)).alloc (.map #[] 0)).alloc o).heap[w.heap.size]? = some (.map #[] 0) ∧ ((((w.alloc (.map #[] 0)).alloc (.map #[] 0)).alloc (.map #[] 0)).alloc o).heap[w.heap.size + 1]? = some (.map #[] 0) ∧ ((((w.alloc (.map #[] 0)).alloc (.map #[] 0)).alloc (.map #[] 0)).alloc o).heap[w.heap.size + 1 + 1]? = some (.map #[] 0) := by
  obtain ⟨U1, h1⟩ : ∃ U, w.alloc (.map #[] 0) = U := ⟨_, rfl⟩
  have e1 : U1.heap[w.heap.size]? = some (.map #[] 0) := by rw [← h1]; exact World.alloc_heap_new w _
  have z1 : U1.heap.size = w.heap.size + 1 := by rw [← h1]; simp
  rw [h1]
  obtain ⟨U2, h2⟩ : ∃ U, U1.alloc (.map #[] 0) = U := ⟨_, rfl⟩
  have e2 : U2.heap[w.heap.size + 1]? = some (.map #[] 0) := by rw [← h2, ← z1]; exact World.alloc_heap_new U1 _
  have z2 : U2.heap.size = w.heap.size + 1 + 1 := by rw [← h2]; simp [z1]
  have b2 : Below U1.heap.size U1 U2 := by rw [← h2]; exact (Below.refl _ _).alloc (Nat.le_refl _) _
  rw [h2]
  obtain ⟨U3, h3⟩ : ∃ U, U2.alloc (.map #[] 0) = U := ⟨_, rfl⟩
  have e3 : U3.heap[w.heap.size + 1 + 1]? = some (.map #[] 0) := by rw [← h3, ← z2]; exact World.alloc_heap_new U2 _
  have z3 : U3.heap.size = w.heap.size + 1 + 1 + 1 := by rw [← h3]; simp [z2]
  have b3 : Below U2.heap.size U2 U3 := by rw [← h3]; exact (Below.refl _ _).alloc (Nat.le_refl _) _
  rw [h3]
  have b4 : Below U3.heap.size U3 (U3.alloc o) := (Below.refl _ _).alloc (Nat.le_refl _) _
  exact ⟨(b4.block _ (by omega)).trans ((b3.block _ (by omega)).trans ((b2.block _ (by omega)).trans e1)), (b4.block _ (by omega)).trans ((b3.block _ (by omega)).trans e2), (b4.block _ (by omega)).trans e3⟩
set_option maxRecDepth 100000 in
theorem New_ok (p s : Int) (hp : 1 ≤ p ∧ p ≤ 32) (hs : 1 ≤ s ∧ s ≤ 3600) (w : World) : Calls Tryz.prog 4 #[.int .i64 p, .int .i64 s] w fun e w' => ∃ F g, e = .returned (.tuple #[.pointer (some ⟨g, 0, none⟩), .int .i64 0]) ∧ GAt w' F g 0 (gp0 p s) ∧ Below w.heap.size w w' ∧ ∀ b ∈ F, w.heap.size ≤ b := by
  obtain ⟨W4, hW4⟩ : ∃ W4, (((w.alloc (.map #[] 0)).alloc (.map #[] 0)).alloc (.map #[] 0)).alloc (.cells #[.int .i64 p, .int .i64 s, .int .i64 0, .map (some w.heap.size), .map (some (w.heap.size + 1)), .slice none 0 0, .map (some (w.heap.size + 1 + 1))] TGr) = W4 := ⟨_, rfl⟩
  have b4 : Below w.heap.size w W4 := by rw [← hW4]; exact ((((Below.refl _ w).alloc (Nat.le_refl _) _).alloc (by simp) _).alloc (by simp; omega) _).alloc (by simp; omega) _
  have z4 : W4.heap.size = w.heap.size + 4 := by rw [← hW4]; simp
  obtain ⟨m1, m2, m3⟩ := maps3 w (.cells #[.int .i64 p, .int .i64 s, .int .i64 0, .map (some w.heap.size), .map (some (w.heap.size + 1)), .slice none 0 0, .map (some (w.heap.size + 1 + 1))] TGr)
  rw [hW4] at m1 m2 m3
  have x4 : Blk W4 (w.heap.size + 1 + 1 + 1) #[.int .i64 p, .int .i64 s, .int .i64 0, .map (some w.heap.size), .map (some (w.heap.size + 1)), .slice none 0 0, .map (some (w.heap.size + 1 + 1))] TGr := by
    have h := heap_alloc_new (((w.alloc (.map #[] 0)).alloc (.map #[] 0)).alloc (.map #[] 0)) (.cells #[.int .i64 p, .int .i64 s, .int .i64 0, .map (some w.heap.size), .map (some (w.heap.size + 1)), .slice none 0 0, .map (some (w.heap.size + 1 + 1))] TGr)
    rw [World.size_alloc, World.size_alloc, World.size_alloc] at h
    rw [← hW4]
    exact h
  have HFin : Hid (GAt W4 [w.heap.size, w.heap.size + 1, w.heap.size + 1 + 1, w.heap.size + 1 + 1 + 1] (w.heap.size + 1 + 1 + 1) 0 (gp0 p s)) := by
    refine ⟨⟨w.heap.size, w.heap.size + 1, w.heap.size + 1 + 1, fun _ => sl0, .slice none 0 0, ⟨x4, ?_, ?_, OwnK.nil _ _, ?_, (fun nm mb h => by cases h), by omega, by omega, by omega, by simp, by simp, by simp, by simp, (fun b hb => by cases hb), (fun nm mb b h => by cases h)⟩⟩, GOk.new hp hs, fun b hb => by simp at hb; omega⟩
    · exact (MapF.empty m1).congr (fun kl => by unfold memF; split <;> rfl)
    · exact (MapF.empty m2).congr (fun kl => by unfold intF; split <;> rfl)
    · exact (MapF.empty m3).congr (fun kl => by unfold intF; split <;> rfl)
  have HB4 := hid b4
  have hmm : ∀ (t : TypeId) (w : World), (Instr.makeMap t none).run Tryz.prog w = .ok (.map (some w.heap.size)) (w.alloc (.map #[] 0)) := fun t w => run_makeMap _ w
  have d1 : decide (p < 1) = false := by simp; omega
  have d2 : decide (32 < p) = false := by simp; omega
  have d3 : decide (s < 1) = false := by simp; omega
  have d4 : decide (3600 < s) = false := by simp; omega
  clear m1 m2 m3 x4 b4 z4
  go_enter Tryz.func4, Tryz.ntmps4
  go_wp2_with fail
  refine bodyPost_ret (results_tmp2 Tryz.results4 _ _ _) rfl ⟨[w.heap.size, w.heap.size + 1, w.heap.size + 1 + 1, w.heap.size + 1 + 1 + 1], w.heap.size + 1 + 1 + 1, rfl, HFin.out, HB4.out, fun b hb => by simp at hb; omega⟩
set_option maxRecDepth 100000 in
theorem Generation_any (h : GAt w F g n G) : Calls Tryz.prog 11 #[.pointer (some ⟨g, 0, none⟩)] w fun e w' => e = .returned (.int .i64 G.gen) ∧ w' = w := by
  obtain ⟨⟨M1, M2, M3, A, pv, h⟩, -, -⟩ := h
  have HM := hid (made_any h)
  have c2 := h.box.cell 2
  simp only [List.getElem?_toArray, List.getElem?_cons_zero, List.getElem?_cons_succ] at c2
  clear h
  go_enter Tryz.func11, Tryz.ntmps11
  go_wp2_with (go_at_call 16; refine HM.out.mono ?_; rintro e w1 ⟨rfl, hw1⟩; obtain rfl := hw1.symm)
  go_ret
  exact ⟨rfl, rfl⟩
theorem Members_at (h : GAt w F g n G) : Calls Tryz.prog 8 #[.pointer (some ⟨g, 0, none⟩)] w fun e w' => ∃ v, e = .returned v ∧ OwnK kS w' w.heap.size v G.ks ∧ Below w.heap.size w w' := by
  obtain ⟨⟨M1, M2, M3, A, pv, h⟩, ho, -⟩ := h
  exact Members_any h ho
set_option maxRecDepth 100000 in
theorem Offset_any (h : GAt w F g n G) (p : Int) (hp : -9223372036854775808 ≤ p ∧ p ≤ 9223372036854775807) : Calls Tryz.prog 10 #[.pointer (some ⟨g, 0, none⟩), .int .i64 p] w fun e w' => e = .returned (.tuple #[.int .i64 ((G.off p).getD 0), .bool (G.off p).isSome]) ∧ w' = w := by
  obtain ⟨⟨M1, M2, M3, A, pv, h⟩, -, -⟩ := h
  have HM := hid (made_any h)
  have c4 := h.box.cell 4
  simp only [List.getElem?_toArray, List.getElem?_cons_zero, List.getElem?_cons_succ] at c4
  have hl := map_look_ok h.off hp.1 hp.2
  clear h
  generalize (G.off p).getD 0 = z at *
  generalize (G.off p).isSome = zb at *
  go_enter Tryz.func10, Tryz.ntmps10
  go_wp2_with (go_at_call 16; refine HM.out.mono ?_; rintro e w1 ⟨rfl, hw1⟩; obtain rfl := hw1.symm)
  refine bodyPost_ret (results_tmp2 Tryz.results10 _ _ _) rfl ⟨rfl, rfl⟩
theorem clone_own {base : Nat} {v : Value} {l : List Int} (h : OwnK kZ w base v l) (hl : l.length ≤ 1048576) : Calls Tryz.prog 19 #[v] w fun e w' => ∃ v', e = .returned v' ∧ OwnK kZ w' w.heap.size v' l ∧ Below w.heap.size w w' := by
  rcases h.2 with ⟨rfl, h0⟩ | ⟨g, cap, cur, rfl, hgb, hg, h1, h2, h3, h4⟩
  · have hk : l = [] := List.eq_nil_of_length_eq_zero h0
    subst hk
    refine (show Calls Tryz.prog 19 #[.slice none 0 0] w _ from AnyE.slices_Clone_nil Tryz.cloneZ 0 0 w).mono ?_
    rintro e w' ⟨rfl, rfl⟩
    exact ⟨_, rfl, OwnK.nil _ _, Below.refl _ _⟩
  · obtain ⟨i0, hi, hz0, hz1, hz2⟩ := info_parts kZ_ok.info
    have hsz : ∀ w, (Go.sizeOf 3).run Tryz.prog w = .ok 1 w := fun w => by simp [Go.sizeOf, typeInfo, hi, hz1]
    have hl2 : (kZ.Vs l).length = l.length * 1 := by rw [kZ_ok.tofit.Vs_len]
    refine (show Calls Tryz.prog 19 #[.slice (some ⟨g, 0, none⟩) l.length cap] w _ from AnyE.slices_Clone Tryz.cloneZ i0 (.int .i64 0) 1 8 hi hz0 hz1 hz2 rfl (by decide) hsz g 0 l.length cap (kZ.Vs l) w hl2 (by unfold maxLen; omega) (by omega) (fun j u hu => ?_) (kZ_ok.Vs_ones _)).mono ?_
    · have := World.ownsRow.cells h (g := g) rfl j u hu
      rw [addr_add] at this
      exact this
    · rintro e w' ⟨v', rfl, h5, -, hb⟩
      exact ⟨v', rfl, h5, hb⟩
set_option maxRecDepth 100000 in
theorem Share_any (h : GAt w F g n G) (s : Nm) (hs : s.length ≤ maxLen) : Calls Tryz.prog 9 #[.pointer (some ⟨g, 0, none⟩), .string (nmS s)] w fun e w' => ∃ v, e = .returned v ∧ OwnK kZ w' w.heap.size v (G.share s) ∧ Below w.heap.size w w' := by
  obtain ⟨⟨M1, M2, M3, A, pv, h⟩, ho, -⟩ := h
  have HM := hid (made_any h)
  have c3 := h.box.cell 3
  simp only [List.getElem?_toArray, List.getElem?_cons_zero, List.getElem?_cons_succ] at c3
  have hl := h.look s hs
  have hlen : (G.share s).length ≤ 32 := by
    unfold Gp.share
    cases hm : G.mem s with
    | none => show ([] : List Int).length ≤ 32; simp
    | some mb => exact ho.share s mb hm
  have HC := hid (clone_own (h.shareAt s) (by omega))
  clear h ho hlen
  generalize nmS s = t at *
  generalize G.heard s = hd at *
  generalize slOf G A s = sl at *
  obtain ⟨sa, sm, sc⟩ := sl
  dsimp only [Sl.v] at hl HC
  have hfl : ∀ w, (Instr.field 57 (.agg #[.int .i64 hd, .slice sa sm sc]) 1).run Tryz.prog w = .ok (.slice sa sm sc) w := fun _ => by kernel_rfl
  go_enter Tryz.func9, Tryz.ntmps9
  go_wp2_with (first
    | (go_at_call 16; refine HM.out.mono ?_; rintro e w1 ⟨rfl, hw1⟩; obtain rfl := hw1.symm)
    | (go_at_call 19; (with_reducible_and_instances (refine HC.out.mono ?_)); rintro e w2 ⟨v, rfl, hO, hb⟩; have HO := hid hO; have HB := hid hb; clear hO hb))
  go_ret
  exact ⟨v, rfl, HO.out, HB.out⟩
end Go.Proofs.YtipgociofjokeaaGreat
namespace Go.Proofs.YtipgociofjokeaaGreat
open Go.RowKit
variable {w w' : World}

theorem bytes_beq (a b : ByteArray) : (a == b) = true ↔ a = b := by
  obtain ⟨⟨x⟩⟩ := a
  obtain ⟨⟨y⟩⟩ := b
  show ((⟨x⟩ : Array UInt8) == ⟨y⟩) = true ↔ _
  simp
theorem num15_any (n : Int) (w : World) : Calls Tryz.prog 5 #[.int .i64 n] w fun e w' => e = .returned (.int .i64 n) ∧ w' = w := by
  go_enter Tryz.func5, Tryz.ntmps5
  go_wp2_with fail
  go_ret
  exact ⟨rfl, rfl⟩
set_option maxRecDepth 100000 in
set_option maxHeartbeats 1000000 in
theorem Ints_any {l k : List Int} {a a2 : Option Addr} {m c m2 c2 : Nat} (h : ArgK kZ w l a m c) (h2 : ArgK kZ w k a2 m2 c2) : Calls Tryz.prog 12 #[.slice a m c, .slice a2 m2 c2] w fun e w' => e = .returned (.bool (decide (l = k))) ∧ Below w.heap.size w w' := by
  have hm : m ≤ 9223372036854775807 := by have := h.cap; have := h.room; unfold maxLen at this; omega
  have hl := h.len
  have hl2 := h2.len
  by_cases hmm : m = m2
  · subst hmm
    have H := hid h
    have H2 := hid h2
    have HE : Hid ((∀ j, j < m → l.getD j 0 = k.getD j 0) → l = k) := fun hh => by
      refine List.ext_getElem (by omega) (fun j h1 h2 => ?_)
      have := hh j (by omega)
      rwa [getD_at _ _ _ h1, getD_at _ _ _ h2] at this
    have HLk : Hid (l.length = m ∧ k.length = m) := ⟨hl, hl2⟩
    clear h h2 hl hl2
    go_enter Tryz.func12, Tryz.ntmps12
    go_wp2_with fail
    go_loopw [5] (fun i wr => ∃ j : Nat, j ≤ m ∧ i = .int .i64 j ∧ Hid (∀ q, q < j → l.getD q 0 = k.getD q 0) ∧ ∃ n, wr = w.drewN n) (fun i _ => m - (intOf i).toNat)
    case atStart => exact ⟨0, by omega, rfl, fun q hq => absurd hq (Nat.not_lt_zero _), 0, rfl⟩
    case round =>
      obtain ⟨j, hj, rfl, HJ, n, rfl⟩ := hrel
      by_cases hlt : j < m
      · have hlti : decide (j < m) = true := by simpa using hlt
        obtain ⟨b, off, rfl, hs, hc⟩ := (H.out.later (below_drewN' (Below.refl _ w) n)).cells (by omega)
        obtain ⟨b2, off2, rfl, hs2, hc2⟩ := (H2.out.later (below_drewN' (Below.refl _ w) n)).cells (by omega)
        have r0 : (w.drewN n).cell? ⟨b, off + j, none⟩ = some (.int .i64 ((l.getD j 0))) := by have := hc j hlt 0 (by decide); rw [Nat.mul_one, Nat.add_zero] at this; exact this
        have r1 : (w.drewN n).cell? ⟨b2, off2 + j, none⟩ = some (.int .i64 ((k.getD j 0))) := by have := hc2 j hlt 0 (by decide); rw [Nat.mul_one, Nat.add_zero] at this; exact this
        clear hc hc2 hs hs2
        have hcap1 := H.out.cap
        have hcap2 := H2.out.cap
        by_cases hee : l.getD j 0 = k.getD j 0
        · have HNx : Hid (∀ q, q < j + 1 → l.getD q 0 = k.getD q 0) := fun q hq => by
            by_cases e : q = j
            · rw [e]; exact hee
            · exact HJ.out q (by omega)
          rw [hee] at r0
          generalize k.getD j 0 = x at *
          generalize hW : w.drewN n = W at *
          have HW := hid hW
          clear hW hee
          go_wp2_with fail
          go_quiet (fail)
          go_wp2_with fail
          exact ⟨⟨j + 1, by omega, by go_num, HNx, n + nq, by rw [← HW.out, World.drewN_drewN]⟩, by simp [intOf]; omega⟩
        · have HV : Hid (decide (l = k) = false) := decide_eq_false (fun e => hee (by rw [e]))
          have hbb : ((l.getD j 0) == (k.getD j 0)) = false := by simpa using hee
          generalize l.getD j 0 = e1 at *
          generalize k.getD j 0 = e2 at *
          generalize hW : w.drewN n = W at *
          have HW := hid hW
          clear hW hee
          go_wp2_with fail
          go_quiet (fail)
          go_wp2_with fail
          go_ret
          refine ⟨by rw [HV.out]; rfl, ?_⟩
          rw [← HW.out]
          exact below_drewN' (below_drewN' (Below.refl _ _) _) _
      · obtain rfl : m = j := by omega
        have hlti : decide (m < m) = false := by simp
        have HV : Hid (decide (l = k) = true) := decide_eq_true (HE.out HJ.out)
        go_wp2_with fail
        go_ret
        exact ⟨by rw [HV.out]; rfl, below_drewN' (Below.refl _ _) _⟩
  · have hb : ((m : Int) == (m2 : Int)) = false := by simp; omega
    have HV : decide (l = k) = false := decide_eq_false (fun e => hmm (by rw [← hl, ← hl2, e]))
    rw [HV]
    clear h h2 hl hl2 HV
    go_enter Tryz.func12, Tryz.ntmps12
    go_wp2_with fail
    go_ret
    exact ⟨rfl, Below.refl _ _⟩
set_option maxRecDepth 100000 in
set_option maxHeartbeats 1000000 in
theorem Texts_any {l k : List Nm} {a a2 : Option Addr} {m c m2 c2 : Nat} (h : ArgK kS w l a m c) (h2 : ArgK kS w k a2 m2 c2) : Calls Tryz.prog 13 #[.slice a m c, .slice a2 m2 c2] w fun e w' => e = .returned (.bool (decide (l = k))) ∧ Below w.heap.size w w' := by
  have hm : m ≤ 9223372036854775807 := by have := h.cap; have := h.room; unfold maxLen at this; omega
  have hl := h.len
  have hl2 := h2.len
  by_cases hmm : m = m2
  · subst hmm
    have H := hid h
    have H2 := hid h2
    have HE : Hid ((∀ j, j < m → l.getD j [] = k.getD j []) → l = k) := fun hh => by
      refine List.ext_getElem (by omega) (fun j h1 h2 => ?_)
      have := hh j (by omega)
      rwa [getD_at _ _ _ h1, getD_at _ _ _ h2] at this
    have HLk : Hid (l.length = m ∧ k.length = m) := ⟨hl, hl2⟩
    clear h h2 hl hl2
    go_enter Tryz.func13, Tryz.ntmps13
    go_wp2_with fail
    go_loopw [5] (fun i wr => ∃ j : Nat, j ≤ m ∧ i = .int .i64 j ∧ Hid (∀ q, q < j → l.getD q [] = k.getD q []) ∧ ∃ n, wr = w.drewN n) (fun i _ => m - (intOf i).toNat)
    case atStart => exact ⟨0, by omega, rfl, fun q hq => absurd hq (Nat.not_lt_zero _), 0, rfl⟩
    case round =>
      obtain ⟨j, hj, rfl, HJ, n, rfl⟩ := hrel
      by_cases hlt : j < m
      · have hlti : decide (j < m) = true := by simpa using hlt
        obtain ⟨b, off, rfl, hs, hc⟩ := (H.out.later (below_drewN' (Below.refl _ w) n)).cells (by omega)
        obtain ⟨b2, off2, rfl, hs2, hc2⟩ := (H2.out.later (below_drewN' (Below.refl _ w) n)).cells (by omega)
        have r0 : (w.drewN n).cell? ⟨b, off + j, none⟩ = some (.string (nmS (l.getD j []))) := by have := hc j hlt 0 (by decide); rw [Nat.mul_one, Nat.add_zero] at this; exact this
        have r1 : (w.drewN n).cell? ⟨b2, off2 + j, none⟩ = some (.string (nmS (k.getD j []))) := by have := hc2 j hlt 0 (by decide); rw [Nat.mul_one, Nat.add_zero] at this; exact this
        clear hc hc2 hs hs2
        have hcap1 := H.out.cap
        have hcap2 := H2.out.cap
        by_cases hee : l.getD j [] = k.getD j []
        · have HNx : Hid (∀ q, q < j + 1 → l.getD q [] = k.getD q []) := fun q hq => by
            by_cases e : q = j
            · rw [e]; exact hee
            · exact HJ.out q (by omega)
          rw [hee] at r0
          generalize nmS (k.getD j []) = x at *
          generalize hW : w.drewN n = W at *
          have HW := hid hW
          clear hW hee
          go_wp2_with fail
          go_quiet (fail)
          go_wp2_with fail
          exact ⟨⟨j + 1, by omega, by go_num, HNx, n + nq, by rw [← HW.out, World.drewN_drewN]⟩, by simp [intOf]; omega⟩
        · have HV : Hid (decide (l = k) = false) := decide_eq_false (fun e => hee (by rw [e]))
          have hns : nmS (l.getD j []) ≠ nmS (k.getD j []) := fun e => hee (by have := congrArg ByteArray.toList e; rwa [nm_list, nm_list] at this)
          generalize nmS (l.getD j []) = e0 at *
          generalize nmS (k.getD j []) = e1 at *
          have hbb : (e0 == e1) = false := by
            cases h : (e0 == e1) with
            | false => rfl
            | true => exact absurd ((bytes_beq _ _).1 h) hns
          have hb2 : (e0.toList == e1.toList) = false := by rw [← beq_toListBytes]; exact hbb
          generalize hW : w.drewN n = W at *
          have HW := hid hW
          clear hW hee
          go_wp2_with fail
          go_quiet (fail)
          go_wp2_with fail
          go_ret
          refine ⟨by rw [HV.out]; rfl, ?_⟩
          rw [← HW.out]
          exact below_drewN' (below_drewN' (Below.refl _ _) _) _
      · obtain rfl : m = j := by omega
        have hlti : decide (m < m) = false := by simp
        have HV : Hid (decide (l = k) = true) := decide_eq_true (HE.out HJ.out)
        go_wp2_with fail
        go_ret
        exact ⟨by rw [HV.out]; rfl, below_drewN' (Below.refl _ _) _⟩
  · have hb : ((m : Int) == (m2 : Int)) = false := by simp; omega
    have HV : decide (l = k) = false := decide_eq_false (fun e => hmm (by rw [← hl, ← hl2, e]))
    rw [HV]
    clear h h2 hl hl2 HV
    go_enter Tryz.func13, Tryz.ntmps13
    go_wp2_with fail
    go_ret
    exact ⟨rfl, Below.refl _ _⟩
end Go.Proofs.YtipgociofjokeaaGreat
