/- The walk of ProducerBack (by genpback.py). -/
import Derived.Test.YtobaeiicacpbnaaPBackM
import Derived.Test.YtobaeiicacpbnaaPOps
import Derived.Test.YtobaeiicacpbnaaPKnows
import Derived.Test.YtobaeiicacpbnaaCopied
namespace Go.Proofs.Ytobaeiicacpbnaa
open Go.RowKit Go.Shelf
variable {w W W' : World} {t M t2 M2 n : Nat} {T U : Tb}

/-- The first table, ahead of Load. -/
structure B1 (w : World) (t M n : Nat) (T : Tb) (W : World) : Prop where
  tab : TPic W t M n T
  may : TbOk T
  below : Below w.heap.size w W
  ge : w.heap.size ≤ M
theorem B1.later (h : B1 w t M n T W) (hb : Below W.heap.size W W') : B1 w t M n T W' := ⟨h.tab.later hb, h.may, h.below.trans (hb.mono h.below.size), h.ge⟩
/-- The two tables behind it. -/
structure B2 (w : World) (t M t2 M2 n : Nat) (T U : Tb) (W : World) : Prop where
  one : TPic W t M n T
  two : TPic W t2 M2 n U
  eq : EqT T U
  below : Below w.heap.size w W
  apart : M ≠ M2 ∧ t ≠ M2 ∧ t2 ≠ M ∧ w.heap.size ≤ M ∧ w.heap.size ≤ M2
theorem B2.later (h : B2 w t M t2 M2 n T U W) (hb : Below W.heap.size W W') : B2 w t M t2 M2 n T U W' := ⟨h.one.later hb, h.two.later hb, h.eq, h.below.trans (hb.mono h.below.size), h.apart⟩
theorem B2.mono (h : B2 w t M t2 M2 n T U W) {m : Nat} (hm : n ≤ m) : B2 w t M t2 M2 m T U W := ⟨h.one.mono hm, h.two.mono hm, h.eq, h.below, h.apart⟩
/-- Between the two Notes. -/
structure B3 (w : World) (t M t2 M2 n : Nat) (T U : Tb) (b : Bat) (o : Int) (W : World) : Prop where
  one : TPic W t M (n + 1) (notN T b o).2
  two : TPic W t2 M2 n U
  ok : ∀ p, (T.get p).ok
  eq : EqT T U
  below : Below w.heap.size w W
  apart : M ≠ M2 ∧ t ≠ M2 ∧ t2 ≠ M ∧ w.heap.size ≤ M ∧ w.heap.size ≤ M2
theorem B3.later {b : Bat} {o : Int} (h : B3 w t M t2 M2 n T U b o W) (hb : Below W.heap.size W W') : B3 w t M t2 M2 n T U b o W' := ⟨h.one.later hb, h.two.later hb, h.ok, h.eq, h.below.trans (hb.mono h.below.size), h.apart⟩
theorem B2.note1 (h : B2 w t M t2 M2 n T U W) (hn : n < maxLen) (k p e q : Int) (tx : Bool) (rs : List Rec) (ad : Option Addr) (len cap : Nat) (o : Int) (hB : BArg W ⟨k, p, e, q, tx, rs⟩ ad len cap) :
    Calls Try.prog 19 #[.pointer (some ⟨t, 0, none⟩), .agg #[.int .i64 k, .int .i64 p, .int .i64 e, .int .i64 q, .bool tx, .slice ad len cap], .int .i64 o] W fun x w' => x = .returned (.int .i64 (notN T ⟨k, p, e, q, tx, rs⟩ o).1) ∧ B3 w t M t2 M2 n T U ⟨k, p, e, q, tx, rs⟩ o w' := by
  refine (Note_any h.one hn k p e q tx rs ad len cap o hB).mono ?_
  rintro x w' ⟨rfl, h1, hc⟩
  obtain ⟨q1, q2, q3, q4, q5⟩ := h.apart
  exact ⟨rfl, h1, h.two.chg hc (by simp; omega) (by simp; omega), h.one.get_ok, h.eq, h.below.trans (hc.below (N := w.heap.size) (fun g hg => by simp at hg; omega) h.below.size), h.apart⟩
theorem B3.note2 {k p e q : Int} {tx : Bool} {rs : List Rec} {o : Int} (h : B3 w t M t2 M2 n T U ⟨k, p, e, q, tx, rs⟩ o W) (hn : n < maxLen) (ad : Option Addr) (len cap : Nat) (hB : BArg W ⟨k, p, e, q, tx, rs⟩ ad len cap) :
    Calls Try.prog 19 #[.pointer (some ⟨t2, 0, none⟩), .agg #[.int .i64 k, .int .i64 p, .int .i64 e, .int .i64 q, .bool tx, .slice ad len cap], .int .i64 o] W fun x w' => x = .returned (.int .i64 (notN T ⟨k, p, e, q, tx, rs⟩ o).1) ∧ ∃ T' U', B2 w t M t2 M2 (n + 1) T' U' w' := by
  refine (Note_any h.two hn k p e q tx rs ad len cap o hB).mono ?_
  rintro x w' ⟨rfl, h1, hc⟩
  obtain ⟨q1, q2, q3, q4, q5⟩ := h.apart
  have hq := h.eq.note h.ok h.two.get_ok ⟨k, p, e, q, tx, rs⟩ o
  exact ⟨by rw [hq.1], _, _, h.one.chg hc (by simp; omega) (by simp; omega), h1, hq.2, h.below.trans (hc.below (N := w.heap.size) (fun g hg => by simp at hg; omega) h.below.size), h.apart⟩
theorem B2.dec2 (h : B2 w t M t2 M2 n T U W) (k p e q : Int) (tx : Bool) (rs : List Rec) (ad : Option Addr) (len cap : Nat) (hB : BArg W ⟨k, p, e, q, tx, rs⟩ ad len cap) :
    Calls Try.prog 17 #[.pointer (some ⟨t2, 0, none⟩), .agg #[.int .i64 k, .int .i64 p, .int .i64 e, .int .i64 q, .bool tx, .slice ad len cap]] W fun x w' => x = .returned (decV (decN T ⟨k, p, e, q, tx, rs⟩)) ∧ Below W.heap.size W w' := by
  rw [h.eq.dec]
  exact Decide_any h.two k p e q tx rs ad len cap hB
theorem B1.note (h : B1 w t M n T W) (hn : n < maxLen) (k p e q : Int) (tx : Bool) (rs : List Rec) (ad : Option Addr) (len cap : Nat) (o : Int) (ho : isOff o = true) (hB : BArg W ⟨k, p, e, q, tx, rs⟩ ad len cap) :
    Calls Try.prog 19 #[.pointer (some ⟨t, 0, none⟩), .agg #[.int .i64 k, .int .i64 p, .int .i64 e, .int .i64 q, .bool tx, .slice ad len cap], .int .i64 o] W fun x w' => ∃ r T', x = .returned (.int .i64 r) ∧ B1 w t M (n + 1) T' w' := by
  refine (Note_any h.tab hn k p e q tx rs ad len cap o hB).mono ?_
  rintro x w' ⟨rfl, h1, hc⟩
  have := h.ge
  exact ⟨_, _, rfl, h1, h.may.note h.tab.get_ok _ ho, h.below.trans (hc.below (N := w.heap.size) (fun g hg => by simp at hg; omega) h.below.size), h.ge⟩
theorem B1.entries (h : B1 w t M n T W) (hn : n + 1 ≤ 4000000000000) : Calls Try.prog 20 #[.pointer (some ⟨t, 0, none⟩)] W fun x w' => ∃ a m c, x = .returned (.slice a m c) ∧ Below w.heap.size w w' ∧
    Calls Try.prog 13 #[.slice a m c] w' fun y w2 => ∃ t2 M2 U, y = .returned (.tuple #[.pointer (some ⟨t2, 0, none⟩), .int .i64 0]) ∧ B2 w t M t2 M2 n T U w2 := by
  obtain ⟨Dm, ks, -, hks, -, -, hkn, -⟩ := h.tab.keys
  refine (Entries_any h.tab hks hn).mono ?_
  rintro x w' ⟨v, L, rfl, ho, hm, hb⟩
  obtain ⟨a, c, rfl⟩ := ho.slice
  have hLl : L.length = ks.length := by have h := congrArg List.length hm; simpa using h
  have h1 := h.later hb
  refine ⟨a, L.length, c, rfl, h1.below, (Load_any ho rfl (by omega)).mono ?_⟩
  intro y w2 hp
  unfold LoadPost at hp
  rw [hm, if_pos (load_ok hks h.may)] at hp
  obtain ⟨t2, M2, rfl, ht2, hge1, hge2, hb2⟩ := hp
  have hl := h1.tab.lt
  have hs := h1.below.size
  have hge := h.ge
  exact ⟨t2, M2, _, rfl, h1.tab.later hb2, ht2.mono (by omega), load_same hks h.tab.get_ok, h1.below.trans (hb2.mono h1.below.size), by omega, by omega, by omega, by omega, by omega⟩
theorem B2.len1 (h : B2 w t M t2 M2 n T U W) (hn : n + 1 ≤ 4000000000000) : ∃ m : Nat, (m : Int) ≤ 4000000000000 ∧ Calls Try.prog 20 #[.pointer (some ⟨t, 0, none⟩)] W fun x w' => ∃ a c, x = .returned (.slice a m c) ∧ Below w.heap.size w w' ∧
    Calls Try.prog 20 #[.pointer (some ⟨t2, 0, none⟩)] w' fun y w2 => ∃ a2 c2, y = .returned (.slice a2 m c2) ∧ Below w.heap.size w w2 := by
  obtain ⟨Dm, ks, -, hks, -, -, hkn, -⟩ := h.one.keys
  refine ⟨ks.length, by omega, (Entries_any h.one hks hn).mono ?_⟩
  rintro x w' ⟨v, L, rfl, ho, hm, hb⟩
  obtain ⟨a, c, rfl⟩ := ho.slice
  have hLl : L.length = ks.length := by have h := congrArg List.length hm; simpa using h
  have h1 := h.later hb
  refine ⟨a, c, by rw [hLl], h1.below, (Entries_any h1.two (h.eq.keys hks) hn).mono ?_⟩
  rintro y w2 ⟨v, L2, rfl, ho2, hm2, hb2⟩
  obtain ⟨a2, c2, rfl⟩ := ho2.slice
  have hLl2 : L2.length = ks.length := by have h := congrArg List.length hm2; simpa using h
  exact ⟨a2, c2, by rw [hLl2], h1.below.trans (hb2.mono h1.below.size)⟩
set_option maxRecDepth 20000 in
set_option maxHeartbeats 4000000 in
theorem back_walk (ad : Option Addr) (len cap : Nat) (g1 : Nat → OpP) (ad' : Option Addr) (len' cap' : Nat) (g2 : Nat → OpP) (w : World) (ho1 : OpsP w g1 ad len) (hm1 : len * 80 ≤ 140737488351232) (ho2 : OpsP w g2 ad' len') (hm2 : len' * 80 ≤ 140737488351232) :
    Calls Try.prog 7 #[.slice ad len cap, .slice ad' len' cap'] w fun x w' => x = .returned (.bool true) ∧ Below w.heap.size w w' := by
  have HO1 := hid ho1
  have HO2 := hid ho2
  clear ho1 ho2
  go_enter Try.func7, Try.ntmps7
  go_wp2_with (first
    | (go_at_call 9; refine (New_any _).mono ?_; rintro x w1 ⟨rfl, hp1, hb1⟩)
    | (go_at_call 10; refine (knows12 _).mono ?_; rintro x w0 ⟨rfl, hb0⟩; have HP0 := hid (hp1.later hb0); have HB0 := hid (hb1.trans (hb0.mono hb1.size)); clear hp1 hb1 hb0))
  have HW0 : Hid (B1 w (w.heap.size + 1) w.heap.size 0 tb0 w0) := ⟨HP0.out, tbOk0, HB0.out, Nat.le_refl _⟩
  clear HP0 HB0
  generalize ht : w.heap.size + 1 = t at *
  obtain ⟨M, hM⟩ : ∃ M, w.heap.size = M := ⟨_, rfl⟩
  have HW1 : Hid (B1 w t M 0 tb0 w0) := by rw [← hM]; exact HW0.out
  clear HW0 ht hM
  go_loopw [6] (fun i wr => ∃ (j : Nat) (T : Tb), j ≤ len ∧ i = .int .i64 (j : Int) ∧ Hid (B1 w t M j T wr)) (fun i _ => len - (intOf i).toNat)
  case atStart => exact ⟨0, _, by omega, rfl, HW1⟩
  case round =>
    obtain ⟨j, T, hj, rfl, HE0⟩ := hrel
    clear HW1
    by_cases hjl : j < len
    · have hd1 : decide ((j : Int) < (len : Int)) = true := by simp; omega
      have hjm : j < maxLen := by unfold maxLen; omega
      have HOf : Hid (isOff (j : Int) = true) := by simp [isOff]; exact (show (j : Int) ≤ 281474976710656 by omega)
      obtain ⟨b, off, rfl, hbl, hc⟩ := HO1.out.resolve_left (by omega)
      obtain ⟨hcell, hok⟩ := hc j hjl
      clear hc
      have hoB : ∀ W, Below w.heap.size w W → OpP.ok (g1 j) W := fun W hW => hok.later hW
      have hop : ∀ W, Below w.heap.size w W → ∀ i, i < 8 → W.cell? ⟨b, off + j * 8 + i, none⟩ = (opP (g1 j))[i]? := fun W hW i hi => by rw [hW.cell (p := ⟨b, off + j * 8 + i, none⟩) hbl]; exact hcell i hi
      generalize g1 j = z at *
      obtain ⟨nt, k, p, e, q, tx, rs, adr, lenr, capr, ofs⟩ := z
      have HS : Hid (∀ W, Below w.heap.size w W → (W.cell? ⟨b, off + j * 8, none⟩ = some (.bool nt)) ∧ W.cell? ⟨b, off + j * 8 + 1, none⟩ = some (.int .i64 k) ∧ W.cell? ⟨b, off + j * 8 + 1 + 1, none⟩ = some (.int .i64 p) ∧ W.cell? ⟨b, off + j * 8 + 1 + 2, none⟩ = some (.int .i64 e) ∧ W.cell? ⟨b, off + j * 8 + 1 + 3, none⟩ = some (.int .i64 q) ∧ W.cell? ⟨b, off + j * 8 + 1 + 4, none⟩ = some (.bool tx) ∧ W.cell? ⟨b, off + j * 8 + 1 + 5, none⟩ = some (.slice adr lenr capr)) := fun W hW => ⟨hop W hW 0 (by omega), hop W hW 1 (by omega), hop W hW 2 (by omega), hop W hW 3 (by omega), hop W hW 4 (by omega), hop W hW 5 (by omega), hop W hW 6 (by omega)⟩
      have HCo : Hid (∀ W, Below w.heap.size w W → Calls Try.prog 21 #[.agg #[.int .i64 k, .int .i64 p, .int .i64 e, .int .i64 q, .bool tx, .slice adr lenr capr]] W fun r w' => ∃ ad' cap', r = .returned (.agg #[.int .i64 k, .int .i64 p, .int .i64 e, .int .i64 q, .bool tx, .slice ad' lenr cap']) ∧ BArg w' ⟨k, p, e, q, tx, rs⟩ ad' lenr cap' ∧ Below W.heap.size W w') := fun W hW => copied_any k p e q tx rs adr lenr capr W (hoB W hW).arg (hoB W hW).size
      clear hcell hop hok hoB hbl
      have HCo0 := hid (HCo.out wr HE0.out.below)
      obtain ⟨c0, c1, c2, c3, c4, c5, c6⟩ := HS.out wr HE0.out.below
      clear HCo HS
      go_wp2_with (first
        | (go_at_call 21; (with_reducible_and_instances (refine HCo0.out.mono ?_)); rintro y w2 ⟨ad2, cap2, rfl, hba2, hb2⟩; have HE2 := hid (HE0.out.later hb2); have HN2 := hid (HE2.out.note hjm k p e q tx rs ad2 lenr cap2 (j : Int) HOf.out hba2); clear hba2 hb2)
        | (go_at_call 19; (with_reducible_and_instances (refine HN2.out.mono ?_)); rintro y w3 ⟨r3, T3, rfl, hE3⟩; have HE3 := hid hE3; clear hE3))
      exact ⟨⟨j + 1, T3, by omega, by go_num, HE3⟩, by simp [intOf]; omega⟩
    · obtain rfl : j = len := by omega
      have HEn := hid (HE0.out.entries (by omega))
      go_wp2_with (first
        | (go_at_call 20; (with_reducible_and_instances (refine HEn.out.mono ?_)); rintro y w2 ⟨a2, m2, c2, rfl, hb2, hl2⟩; have HL2 := hid hl2; clear hb2 hl2)
        | (go_at_call 13; (with_reducible_and_instances (refine HL2.out.mono ?_)); rintro y w3 ⟨t2, M2, U, rfl, hE3⟩; have HE3 := hid hE3; clear hE3)
        | (go_at_call 15; refine (num12_any _ _).mono ?_; rintro y w9 ⟨rfl, hw9⟩; obtain rfl := hw9.symm))
      clear HEn HE0 HL2
      go_loopw [9] (fun i wr => ∃ (i2 : Nat) (T U : Tb), i2 ≤ len' ∧ i = .int .i64 (i2 : Int) ∧ Hid (B2 w t M t2 M2 (j + i2) T U wr)) (fun i _ => len' - (intOf i).toNat)
      case atStart => exact ⟨0, _, _, by omega, rfl, HE3⟩
      case round =>
        generalize j = len at *
        obtain ⟨j, T, U, hj2, rfl, HE0⟩ := hrel
        clear HE3
        by_cases hjl : j < len'
        · have hd1 : decide ((j : Int) < (len' : Int)) = true := by simp; omega
          have hjm : len + j < maxLen := by unfold maxLen; omega
          obtain ⟨b, off, rfl, hbl, hc⟩ := HO2.out.resolve_left (by omega)
          obtain ⟨hcell, hok⟩ := hc j hjl
          clear hc
          have hoB : ∀ W, Below w.heap.size w W → OpP.ok (g2 j) W := fun W hW => hok.later hW
          have hop : ∀ W, Below w.heap.size w W → ∀ i, i < 8 → W.cell? ⟨b, off + j * 8 + i, none⟩ = (opP (g2 j))[i]? := fun W hW i hi => by rw [hW.cell (p := ⟨b, off + j * 8 + i, none⟩) hbl]; exact hcell i hi
          generalize g2 j = z at *
          obtain ⟨nt, k, p, e, q, tx, rs, adr, lenr, capr, ofs⟩ := z
          have HS : Hid (∀ W, Below w.heap.size w W → (W.cell? ⟨b, off + j * 8, none⟩ = some (.bool nt)) ∧ W.cell? ⟨b, off + j * 8 + 1, none⟩ = some (.int .i64 k) ∧ W.cell? ⟨b, off + j * 8 + 1 + 1, none⟩ = some (.int .i64 p) ∧ W.cell? ⟨b, off + j * 8 + 1 + 2, none⟩ = some (.int .i64 e) ∧ W.cell? ⟨b, off + j * 8 + 1 + 3, none⟩ = some (.int .i64 q) ∧ W.cell? ⟨b, off + j * 8 + 1 + 4, none⟩ = some (.bool tx) ∧ W.cell? ⟨b, off + j * 8 + 1 + 5, none⟩ = some (.slice adr lenr capr)) := fun W hW => ⟨hop W hW 0 (by omega), hop W hW 1 (by omega), hop W hW 2 (by omega), hop W hW 3 (by omega), hop W hW 4 (by omega), hop W hW 5 (by omega), hop W hW 6 (by omega)⟩
          have HCo : Hid (∀ W, Below w.heap.size w W → Calls Try.prog 21 #[.agg #[.int .i64 k, .int .i64 p, .int .i64 e, .int .i64 q, .bool tx, .slice adr lenr capr]] W fun r w' => ∃ ad' cap', r = .returned (.agg #[.int .i64 k, .int .i64 p, .int .i64 e, .int .i64 q, .bool tx, .slice ad' lenr cap']) ∧ BArg w' ⟨k, p, e, q, tx, rs⟩ ad' lenr cap' ∧ Below W.heap.size W w') := fun W hW => copied_any k p e q tx rs adr lenr capr W (hoB W hW).arg (hoB W hW).size
          clear hcell hop hok hoB hbl
          have HCo0 := hid (HCo.out wr HE0.out.below)
          obtain ⟨c0, c1, c2, c3, c4, c5, c6⟩ := HS.out wr HE0.out.below
          obtain ⟨x0, d0, e0, hd⟩ : ∃ x0 d0 e0, decN T ⟨k, p, e, q, tx, rs⟩ = (x0, d0, e0) := ⟨_, _, _, rfl⟩
          have HD1 : Hid (∀ W a c, B2 w t M t2 M2 (len + j) T U W → BArg W ⟨k, p, e, q, tx, rs⟩ a lenr c → Calls Try.prog 17 #[.pointer (some ⟨t, 0, none⟩), .agg #[.int .i64 k, .int .i64 p, .int .i64 e, .int .i64 q, .bool tx, .slice a lenr c]] W fun x w' => x = .returned (.tuple #[.int .i64 x0, .bool d0, .int .i64 e0]) ∧ Below W.heap.size W w') := fun W a c hW hB => by
            have h := Decide_any hW.one k p e q tx rs a lenr c hB
            rw [hd] at h
            exact h
          have HD2 : Hid (∀ W a c, B2 w t M t2 M2 (len + j) T U W → BArg W ⟨k, p, e, q, tx, rs⟩ a lenr c → Calls Try.prog 17 #[.pointer (some ⟨t2, 0, none⟩), .agg #[.int .i64 k, .int .i64 p, .int .i64 e, .int .i64 q, .bool tx, .slice a lenr c]] W fun x w' => x = .returned (.tuple #[.int .i64 x0, .bool d0, .int .i64 e0]) ∧ Below W.heap.size W w') := fun W a c hW hB => by
            have h := hW.dec2 k p e q tx rs a lenr c hB
            rw [hd] at h
            exact h
          obtain ⟨r0, hr0⟩ : ∃ r0, (notN T ⟨k, p, e, q, tx, rs⟩ (j : Int)).1 = r0 := ⟨_, rfl⟩
          have HNa : Hid (∀ W a c, B2 w t M t2 M2 (len + j) T U W → BArg W ⟨k, p, e, q, tx, rs⟩ a lenr c → Calls Try.prog 19 #[.pointer (some ⟨t, 0, none⟩), .agg #[.int .i64 k, .int .i64 p, .int .i64 e, .int .i64 q, .bool tx, .slice a lenr c], .int .i64 (j : Int)] W fun x w' => x = .returned (.int .i64 r0) ∧ B3 w t M t2 M2 (len + j) T U ⟨k, p, e, q, tx, rs⟩ (j : Int) w') := fun W a c hW hB => by
            have h := hW.note1 hjm k p e q tx rs a lenr c (j : Int) hB
            rw [hr0] at h
            exact h
          have HNb : Hid (∀ W a c, B3 w t M t2 M2 (len + j) T U ⟨k, p, e, q, tx, rs⟩ (j : Int) W → BArg W ⟨k, p, e, q, tx, rs⟩ a lenr c → Calls Try.prog 19 #[.pointer (some ⟨t2, 0, none⟩), .agg #[.int .i64 k, .int .i64 p, .int .i64 e, .int .i64 q, .bool tx, .slice a lenr c], .int .i64 (j : Int)] W fun x w' => x = .returned (.int .i64 r0) ∧ ∃ T' U', B2 w t M t2 M2 (len + j + 1) T' U' w') := fun W a c hW hB => by
            have h := hW.note2 hjm a lenr c hB
            rw [hr0] at h
            exact h
          clear hd hr0
          go_wp2_with (first
            | (go_at_call 21; (with_reducible_and_instances (refine HCo0.out.mono ?_)); rintro y w2 ⟨ad2, cap2, rfl, hba2, hb2⟩; have HE2 := hid (HE0.out.later hb2); have HN2 := hid (HD1.out w2 ad2 cap2 HE2.out hba2); clear hba2 hb2)
            | (go_at_call 17; (with_reducible_and_instances (refine HN2.out.mono ?_)); rintro y w3 ⟨rfl, hb3⟩; have HE3 := hid (HE2.out.later hb3); have HCo3 := hid (HCo.out w3 HE3.out.below); obtain ⟨c0, c1, c2, c3, c4, c5, c6⟩ := HS.out w3 HE3.out.below; clear hb3)
            | (go_at_call 21; (with_reducible_and_instances (refine HCo3.out.mono ?_)); rintro y w4 ⟨ad3, cap3, rfl, hba4, hb4⟩; have HE4 := hid (HE3.out.later hb4); have HN4 := hid (HD2.out w4 ad3 cap3 HE4.out hba4); clear hba4 hb4)
            | (go_at_call 17; (with_reducible_and_instances (refine HN4.out.mono ?_)); rintro y w8 ⟨rfl, hb8⟩; have HE8 := hid (HE4.out.later hb8); clear hb8))
          clear HCo0 HD1 HD2 HE0 HE2 HE3 HE4 HN2 HN4 HCo3 c0 c1 c2 c3 c4 c5 c6
          cases nt with
          | false =>
            refine wp_region_held_drew (S := fun W => (W.cell? ⟨b, off + j * 8, none⟩ = some (.bool false)) ∧ W.cell? ⟨b, off + j * 8 + 1, none⟩ = some (.int .i64 k) ∧ W.cell? ⟨b, off + j * 8 + 1 + 1, none⟩ = some (.int .i64 p) ∧ W.cell? ⟨b, off + j * 8 + 1 + 2, none⟩ = some (.int .i64 e) ∧ W.cell? ⟨b, off + j * 8 + 1 + 3, none⟩ = some (.int .i64 q) ∧ W.cell? ⟨b, off + j * 8 + 1 + 4, none⟩ = some (.bool tx) ∧ W.cell? ⟨b, off + j * 8 + 1 + 5, none⟩ = some (.slice adr lenr capr)) (by kernel_rfl) (HS.out _ HE8.out.below.drew) (fun hHeld => ?_)
            refine wpAnyH_take (i := 0) (oi := { dst := some 94, op := Op.move (Operand.tmp 1), type := 22, pos := "law.go:234", after := #[], guard := none }) (v := ?_) rfl (by kernel_rfl) (by kernel_rfl) (by kernel_rfl) (fun _ _ _ h => h) (Or.inl ⟨by rfl, ?_⟩) hHeld ?_
            rotate_left
            · intro w hSw; (try dsimp only at hSw); go_simp; try with_reducible rfl
            try simp only [Act.put, List.setIfInBounds_toArray, List.set_cons_zero, List.set_cons_succ]
            refine wpAnyH_take (i := 1) (oi := { dst := some 95, op := Op.move (Operand.tmp 9), type := 3, pos := "law.go:234", after := #[], guard := none }) (v := ?_) rfl (by kernel_rfl) (by kernel_rfl) (by kernel_rfl) (fun _ _ _ h => h) (Or.inl ⟨by rfl, ?_⟩) hHeld ?_
            rotate_left
            · intro w hSw; (try dsimp only at hSw); go_simp; try with_reducible rfl
            try simp only [Act.put, List.setIfInBounds_toArray, List.set_cons_zero, List.set_cons_succ]
            refine wpAnyH_take (i := 2) (oi := { dst := some 96, op := Op.indexAddr 22 (Operand.tmp 94) (Operand.tmp 95), type := 0, pos := "law.go:234", after := #[{ on := 0, ground := Ground.data }, { on := 1, ground := Ground.data }], guard := none }) (v := ?_) rfl (by kernel_rfl) (by kernel_rfl) (by kernel_rfl) (fun _ _ _ h => h) (Or.inl ⟨by rfl, ?_⟩) hHeld ?_
            rotate_left
            · intro w hSw; (try dsimp only at hSw); go_simp; try with_reducible rfl
            try simp only [Act.put, List.setIfInBounds_toArray, List.set_cons_zero, List.set_cons_succ]
            refine wpAnyH_take (i := 3) (oi := { dst := some 97, op := Op.fieldAddr 35 (Operand.tmp 96) 0, type := 0, pos := "law.go:234", after := #[{ on := 2, ground := Ground.data }], guard := none }) (v := ?_) rfl (by kernel_rfl) (by kernel_rfl) (by kernel_rfl) (fun _ _ _ h => h) (Or.inl ⟨by rfl, ?_⟩) hHeld ?_
            rotate_left
            · intro w hSw; (try dsimp only at hSw); go_simp; try with_reducible rfl
            try simp only [Act.put, List.setIfInBounds_toArray, List.set_cons_zero, List.set_cons_succ]
            refine wpAnyH_take (i := 4) (oi := { dst := some 98, op := Op.load 4 (Operand.tmp 97), type := 4, pos := "law.go:234", after := #[{ on := 3, ground := Ground.data }], guard := none }) (v := ?_) rfl (by kernel_rfl) (by kernel_rfl) (by kernel_rfl) (fun _ _ _ h => h) (Or.inl ⟨by rfl, ?_⟩) hHeld ?_
            rotate_left
            · intro w hSw; (try dsimp only at hSw); go_simp; try with_reducible rfl
            try simp only [Act.put, List.setIfInBounds_toArray, List.set_cons_zero, List.set_cons_succ]
            refine wpAnyH_take (i := 5) (oi := { dst := some 99, op := Op.move (Operand.tmp 98), type := 4, pos := "law.go:234", after := #[{ on := 4, ground := Ground.data }], guard := none }) (v := ?_) rfl (by kernel_rfl) (by kernel_rfl) (by kernel_rfl) (fun _ _ _ h => h) (Or.inl ⟨by rfl, ?_⟩) hHeld ?_
            rotate_left
            · intro w hSw; (try dsimp only at hSw); go_simp; try with_reducible rfl
            try simp only [Act.put, List.setIfInBounds_toArray, List.set_cons_zero, List.set_cons_succ]
            refine wpAnyH_take (i := 6) (oi := { dst := some 100, op := Op.move (Operand.tmp 5), type := 23, pos := "law.go:234", after := #[{ on := 5, ground := Ground.guard }], guard := some (5, true) }) (v := undef) rfl (by kernel_rfl) (by kernel_rfl) (by kernel_rfl) (fun _ _ _ h => h) (Or.inr ⟨by kernel_rfl, rfl⟩) hHeld ?_
            try simp only [Act.put, List.setIfInBounds_toArray, List.set_cons_zero, List.set_cons_succ]
            refine wpAnyH_take (i := 7) (oi := { dst := some 101, op := Op.move (Operand.tmp 1), type := 22, pos := "law.go:234", after := #[{ on := 5, ground := Ground.guard }], guard := some (5, true) }) (v := undef) rfl (by kernel_rfl) (by kernel_rfl) (by kernel_rfl) (fun _ _ _ h => h) (Or.inr ⟨by kernel_rfl, rfl⟩) hHeld ?_
            try simp only [Act.put, List.setIfInBounds_toArray, List.set_cons_zero, List.set_cons_succ]
            refine wpAnyH_take (i := 8) (oi := { dst := some 102, op := Op.move (Operand.tmp 9), type := 3, pos := "law.go:234", after := #[{ on := 5, ground := Ground.guard }], guard := some (5, true) }) (v := undef) rfl (by kernel_rfl) (by kernel_rfl) (by kernel_rfl) (fun _ _ _ h => h) (Or.inr ⟨by kernel_rfl, rfl⟩) hHeld ?_
            try simp only [Act.put, List.setIfInBounds_toArray, List.set_cons_zero, List.set_cons_succ]
            refine wpAnyH_take (i := 9) (oi := { dst := some 103, op := Op.indexAddr 22 (Operand.tmp 101) (Operand.tmp 102), type := 0, pos := "law.go:234", after := #[{ on := 7, ground := Ground.data }, { on := 8, ground := Ground.data }, { on := 5, ground := Ground.guard }], guard := some (5, true) }) (v := undef) rfl (by kernel_rfl) (by kernel_rfl) (by kernel_rfl) (fun _ _ _ h => h) (Or.inr ⟨by kernel_rfl, rfl⟩) hHeld ?_
            try simp only [Act.put, List.setIfInBounds_toArray, List.set_cons_zero, List.set_cons_succ]
            refine wpAnyH_take (i := 10) (oi := { dst := some 104, op := Op.fieldAddr 35 (Operand.tmp 103) 1, type := 0, pos := "law.go:234", after := #[{ on := 9, ground := Ground.data }, { on := 5, ground := Ground.guard }], guard := some (5, true) }) (v := undef) rfl (by kernel_rfl) (by kernel_rfl) (by kernel_rfl) (fun _ _ _ h => h) (Or.inr ⟨by kernel_rfl, rfl⟩) hHeld ?_
            try simp only [Act.put, List.setIfInBounds_toArray, List.set_cons_zero, List.set_cons_succ]
            refine wpAnyH_take (i := 11) (oi := { dst := some 105, op := Op.load 33 (Operand.tmp 104), type := 33, pos := "law.go:234", after := #[{ on := 10, ground := Ground.data }, { on := 5, ground := Ground.guard }], guard := some (5, true) }) (v := undef) rfl (by kernel_rfl) (by kernel_rfl) (by kernel_rfl) (fun _ _ _ h => h) (Or.inr ⟨by kernel_rfl, rfl⟩) hHeld ?_
            try simp only [Act.put, List.setIfInBounds_toArray, List.set_cons_zero, List.set_cons_succ]
            refine wpAnyH_take (i := 12) (oi := { dst := some 106, op := Op.call { callee := Callee.value (Operand.func 21), args := #[Operand.tmp 105], argTypes := #[33] }, type := 33, pos := "law.go:234", after := #[{ on := 11, ground := Ground.data }, { on := 5, ground := Ground.chain }, { on := 5, ground := Ground.guard }], guard := some (5, true) }) (v := undef) rfl (by kernel_rfl) (by kernel_rfl) (by kernel_rfl) (fun _ _ _ h => h) (Or.inr ⟨by kernel_rfl, rfl⟩) hHeld ?_
            try simp only [Act.put, List.setIfInBounds_toArray, List.set_cons_zero, List.set_cons_succ]
            refine wpAnyH_take (i := 13) (oi := { dst := some 107, op := Op.move (Operand.tmp 9), type := 3, pos := "law.go:234", after := #[{ on := 5, ground := Ground.guard }], guard := some (5, true) }) (v := undef) rfl (by kernel_rfl) (by kernel_rfl) (by kernel_rfl) (fun _ _ _ h => h) (Or.inr ⟨by kernel_rfl, rfl⟩) hHeld ?_
            try simp only [Act.put, List.setIfInBounds_toArray, List.set_cons_zero, List.set_cons_succ]
            refine wpAnyH_take (i := 14) (oi := { dst := some 108, op := Op.call { callee := Callee.value (Operand.func 19), args := #[Operand.tmp 100, Operand.tmp 106, Operand.tmp 107], argTypes := #[23, 33, 3] }, type := 39, pos := "law.go:234", after := #[{ on := 6, ground := Ground.data }, { on := 12, ground := Ground.data }, { on := 13, ground := Ground.data }, { on := 12, ground := Ground.chain }, { on := 5, ground := Ground.guard }], guard := some (5, true) }) (v := undef) rfl (by kernel_rfl) (by kernel_rfl) (by kernel_rfl) (fun _ _ _ h => h) (Or.inr ⟨by kernel_rfl, rfl⟩) hHeld ?_
            try simp only [Act.put, List.setIfInBounds_toArray, List.set_cons_zero, List.set_cons_succ]
            refine wpAnyH_take (i := 15) (oi := { dst := some 109, op := Op.move (Operand.tmp 7), type := 23, pos := "law.go:234", after := #[{ on := 5, ground := Ground.guard }], guard := some (5, true) }) (v := undef) rfl (by kernel_rfl) (by kernel_rfl) (by kernel_rfl) (fun _ _ _ h => h) (Or.inr ⟨by kernel_rfl, rfl⟩) hHeld ?_
            try simp only [Act.put, List.setIfInBounds_toArray, List.set_cons_zero, List.set_cons_succ]
            refine wpAnyH_take (i := 16) (oi := { dst := some 110, op := Op.move (Operand.tmp 1), type := 22, pos := "law.go:234", after := #[{ on := 5, ground := Ground.guard }], guard := some (5, true) }) (v := undef) rfl (by kernel_rfl) (by kernel_rfl) (by kernel_rfl) (fun _ _ _ h => h) (Or.inr ⟨by kernel_rfl, rfl⟩) hHeld ?_
            try simp only [Act.put, List.setIfInBounds_toArray, List.set_cons_zero, List.set_cons_succ]
            refine wpAnyH_take (i := 17) (oi := { dst := some 111, op := Op.move (Operand.tmp 9), type := 3, pos := "law.go:234", after := #[{ on := 5, ground := Ground.guard }], guard := some (5, true) }) (v := undef) rfl (by kernel_rfl) (by kernel_rfl) (by kernel_rfl) (fun _ _ _ h => h) (Or.inr ⟨by kernel_rfl, rfl⟩) hHeld ?_
            try simp only [Act.put, List.setIfInBounds_toArray, List.set_cons_zero, List.set_cons_succ]
            refine wpAnyH_take (i := 18) (oi := { dst := some 112, op := Op.indexAddr 22 (Operand.tmp 110) (Operand.tmp 111), type := 0, pos := "law.go:234", after := #[{ on := 16, ground := Ground.data }, { on := 17, ground := Ground.data }, { on := 5, ground := Ground.guard }], guard := some (5, true) }) (v := undef) rfl (by kernel_rfl) (by kernel_rfl) (by kernel_rfl) (fun _ _ _ h => h) (Or.inr ⟨by kernel_rfl, rfl⟩) hHeld ?_
            try simp only [Act.put, List.setIfInBounds_toArray, List.set_cons_zero, List.set_cons_succ]
            refine wpAnyH_take (i := 19) (oi := { dst := some 113, op := Op.fieldAddr 35 (Operand.tmp 112) 1, type := 0, pos := "law.go:234", after := #[{ on := 18, ground := Ground.data }, { on := 5, ground := Ground.guard }], guard := some (5, true) }) (v := undef) rfl (by kernel_rfl) (by kernel_rfl) (by kernel_rfl) (fun _ _ _ h => h) (Or.inr ⟨by kernel_rfl, rfl⟩) hHeld ?_
            try simp only [Act.put, List.setIfInBounds_toArray, List.set_cons_zero, List.set_cons_succ]
            refine wpAnyH_take (i := 20) (oi := { dst := some 114, op := Op.load 33 (Operand.tmp 113), type := 33, pos := "law.go:234", after := #[{ on := 19, ground := Ground.data }, { on := 5, ground := Ground.guard }], guard := some (5, true) }) (v := undef) rfl (by kernel_rfl) (by kernel_rfl) (by kernel_rfl) (fun _ _ _ h => h) (Or.inr ⟨by kernel_rfl, rfl⟩) hHeld ?_
            try simp only [Act.put, List.setIfInBounds_toArray, List.set_cons_zero, List.set_cons_succ]
            refine wpAnyH_take (i := 21) (oi := { dst := some 115, op := Op.call { callee := Callee.value (Operand.func 21), args := #[Operand.tmp 114], argTypes := #[33] }, type := 33, pos := "law.go:234", after := #[{ on := 20, ground := Ground.data }, { on := 14, ground := Ground.chain }, { on := 5, ground := Ground.guard }], guard := some (5, true) }) (v := undef) rfl (by kernel_rfl) (by kernel_rfl) (by kernel_rfl) (fun _ _ _ h => h) (Or.inr ⟨by kernel_rfl, rfl⟩) hHeld ?_
            try simp only [Act.put, List.setIfInBounds_toArray, List.set_cons_zero, List.set_cons_succ]
            refine wpAnyH_take (i := 22) (oi := { dst := some 116, op := Op.move (Operand.tmp 9), type := 3, pos := "law.go:234", after := #[{ on := 5, ground := Ground.guard }], guard := some (5, true) }) (v := undef) rfl (by kernel_rfl) (by kernel_rfl) (by kernel_rfl) (fun _ _ _ h => h) (Or.inr ⟨by kernel_rfl, rfl⟩) hHeld ?_
            try simp only [Act.put, List.setIfInBounds_toArray, List.set_cons_zero, List.set_cons_succ]
            refine wpAnyH_take (i := 23) (oi := { dst := some 117, op := Op.call { callee := Callee.value (Operand.func 19), args := #[Operand.tmp 109, Operand.tmp 115, Operand.tmp 116], argTypes := #[23, 33, 3] }, type := 39, pos := "law.go:234", after := #[{ on := 15, ground := Ground.data }, { on := 21, ground := Ground.data }, { on := 22, ground := Ground.data }, { on := 21, ground := Ground.chain }, { on := 5, ground := Ground.guard }], guard := some (5, true) }) (v := undef) rfl (by kernel_rfl) (by kernel_rfl) (by kernel_rfl) (fun _ _ _ h => h) (Or.inr ⟨by kernel_rfl, rfl⟩) hHeld ?_
            try simp only [Act.put, List.setIfInBounds_toArray, List.set_cons_zero, List.set_cons_succ]
            refine wpAnyH_take (i := 24) (oi := { dst := some 118, op := Op.binOp BinOp.neq 39 (Operand.tmp 108) (Operand.tmp 117) 39, type := 4, pos := "law.go:234", after := #[{ on := 14, ground := Ground.data }, { on := 23, ground := Ground.data }, { on := 5, ground := Ground.guard }], guard := some (5, true) }) (v := undef) rfl (by kernel_rfl) (by kernel_rfl) (by kernel_rfl) (fun _ _ _ h => h) (Or.inr ⟨by kernel_rfl, rfl⟩) hHeld ?_
            try simp only [Act.put, List.setIfInBounds_toArray, List.set_cons_zero, List.set_cons_succ]
            refine wpAnyH_take (i := 25) (oi := { dst := some 119, op := Op.pick (Operand.tmp 99) (Operand.tmp 118) (Operand.const (Value.bool false)), type := 4, pos := "law.go:234", after := #[{ on := 5, ground := Ground.data }, { on := 24, ground := Ground.data }], guard := none }) (v := ?_) rfl (by kernel_rfl) (by kernel_rfl) (by kernel_rfl) (fun _ _ _ h => h) (Or.inl ⟨by rfl, ?_⟩) hHeld ?_
            rotate_left
            · intro w hSw; (try dsimp only at hSw); go_simp; try with_reducible rfl
            try simp only [Act.put, List.setIfInBounds_toArray, List.set_cons_zero, List.set_cons_succ]
            refine wpAnyH_done (by kernel_rfl) ?_ _
            clear hHeld
            go_wp2_with fail
            exact ⟨⟨j + 1, T, U, by omega, by go_num, hid ((HE8.out.later (Below.refl _ _).drew).mono (by omega))⟩, by simp [intOf]; omega⟩
          | true =>
            refine wp_region_held_drew (S := fun W => (W.cell? ⟨b, off + j * 8, none⟩ = some (.bool true)) ∧ W.cell? ⟨b, off + j * 8 + 1, none⟩ = some (.int .i64 k) ∧ W.cell? ⟨b, off + j * 8 + 1 + 1, none⟩ = some (.int .i64 p) ∧ W.cell? ⟨b, off + j * 8 + 1 + 2, none⟩ = some (.int .i64 e) ∧ W.cell? ⟨b, off + j * 8 + 1 + 3, none⟩ = some (.int .i64 q) ∧ W.cell? ⟨b, off + j * 8 + 1 + 4, none⟩ = some (.bool tx) ∧ W.cell? ⟨b, off + j * 8 + 1 + 5, none⟩ = some (.slice adr lenr capr)) (by kernel_rfl) (HS.out _ HE8.out.below.drew) (fun hHeld => ?_)
            refine wpAnyH_take (i := 0) (oi := { dst := some 94, op := Op.move (Operand.tmp 1), type := 22, pos := "law.go:234", after := #[], guard := none }) (v := ?_) rfl (by kernel_rfl) (by kernel_rfl) (by kernel_rfl) (fun _ _ _ h => h) (Or.inl ⟨by rfl, ?_⟩) hHeld ?_
            rotate_left
            · intro w hSw; (try dsimp only at hSw); go_simp; try with_reducible rfl
            try simp only [Act.put, List.setIfInBounds_toArray, List.set_cons_zero, List.set_cons_succ]
            refine wpAnyH_take (i := 1) (oi := { dst := some 95, op := Op.move (Operand.tmp 9), type := 3, pos := "law.go:234", after := #[], guard := none }) (v := ?_) rfl (by kernel_rfl) (by kernel_rfl) (by kernel_rfl) (fun _ _ _ h => h) (Or.inl ⟨by rfl, ?_⟩) hHeld ?_
            rotate_left
            · intro w hSw; (try dsimp only at hSw); go_simp; try with_reducible rfl
            try simp only [Act.put, List.setIfInBounds_toArray, List.set_cons_zero, List.set_cons_succ]
            refine wpAnyH_take (i := 2) (oi := { dst := some 96, op := Op.indexAddr 22 (Operand.tmp 94) (Operand.tmp 95), type := 0, pos := "law.go:234", after := #[{ on := 0, ground := Ground.data }, { on := 1, ground := Ground.data }], guard := none }) (v := ?_) rfl (by kernel_rfl) (by kernel_rfl) (by kernel_rfl) (fun _ _ _ h => h) (Or.inl ⟨by rfl, ?_⟩) hHeld ?_
            rotate_left
            · intro w hSw; (try dsimp only at hSw); go_simp; try with_reducible rfl
            try simp only [Act.put, List.setIfInBounds_toArray, List.set_cons_zero, List.set_cons_succ]
            refine wpAnyH_take (i := 3) (oi := { dst := some 97, op := Op.fieldAddr 35 (Operand.tmp 96) 0, type := 0, pos := "law.go:234", after := #[{ on := 2, ground := Ground.data }], guard := none }) (v := ?_) rfl (by kernel_rfl) (by kernel_rfl) (by kernel_rfl) (fun _ _ _ h => h) (Or.inl ⟨by rfl, ?_⟩) hHeld ?_
            rotate_left
            · intro w hSw; (try dsimp only at hSw); go_simp; try with_reducible rfl
            try simp only [Act.put, List.setIfInBounds_toArray, List.set_cons_zero, List.set_cons_succ]
            refine wpAnyH_take (i := 4) (oi := { dst := some 98, op := Op.load 4 (Operand.tmp 97), type := 4, pos := "law.go:234", after := #[{ on := 3, ground := Ground.data }], guard := none }) (v := ?_) rfl (by kernel_rfl) (by kernel_rfl) (by kernel_rfl) (fun _ _ _ h => h) (Or.inl ⟨by rfl, ?_⟩) hHeld ?_
            rotate_left
            · intro w hSw; (try dsimp only at hSw); go_simp; try with_reducible rfl
            try simp only [Act.put, List.setIfInBounds_toArray, List.set_cons_zero, List.set_cons_succ]
            refine wpAnyH_take (i := 5) (oi := { dst := some 99, op := Op.move (Operand.tmp 98), type := 4, pos := "law.go:234", after := #[{ on := 4, ground := Ground.data }], guard := none }) (v := ?_) rfl (by kernel_rfl) (by kernel_rfl) (by kernel_rfl) (fun _ _ _ h => h) (Or.inl ⟨by rfl, ?_⟩) hHeld ?_
            rotate_left
            · intro w hSw; (try dsimp only at hSw); go_simp; try with_reducible rfl
            try simp only [Act.put, List.setIfInBounds_toArray, List.set_cons_zero, List.set_cons_succ]
            refine wpAnyH_take (i := 6) (oi := { dst := some 100, op := Op.move (Operand.tmp 5), type := 23, pos := "law.go:234", after := #[{ on := 5, ground := Ground.guard }], guard := some (5, true) }) (v := ?_) rfl (by kernel_rfl) (by kernel_rfl) (by kernel_rfl) (fun _ _ _ h => h) (Or.inl ⟨by rfl, ?_⟩) hHeld ?_
            rotate_left
            · intro w hSw; (try dsimp only at hSw); go_simp; try with_reducible rfl
            try simp only [Act.put, List.setIfInBounds_toArray, List.set_cons_zero, List.set_cons_succ]
            refine wpAnyH_take (i := 7) (oi := { dst := some 101, op := Op.move (Operand.tmp 1), type := 22, pos := "law.go:234", after := #[{ on := 5, ground := Ground.guard }], guard := some (5, true) }) (v := ?_) rfl (by kernel_rfl) (by kernel_rfl) (by kernel_rfl) (fun _ _ _ h => h) (Or.inl ⟨by rfl, ?_⟩) hHeld ?_
            rotate_left
            · intro w hSw; (try dsimp only at hSw); go_simp; try with_reducible rfl
            try simp only [Act.put, List.setIfInBounds_toArray, List.set_cons_zero, List.set_cons_succ]
            refine wpAnyH_take (i := 8) (oi := { dst := some 102, op := Op.move (Operand.tmp 9), type := 3, pos := "law.go:234", after := #[{ on := 5, ground := Ground.guard }], guard := some (5, true) }) (v := ?_) rfl (by kernel_rfl) (by kernel_rfl) (by kernel_rfl) (fun _ _ _ h => h) (Or.inl ⟨by rfl, ?_⟩) hHeld ?_
            rotate_left
            · intro w hSw; (try dsimp only at hSw); go_simp; try with_reducible rfl
            try simp only [Act.put, List.setIfInBounds_toArray, List.set_cons_zero, List.set_cons_succ]
            refine wpAnyH_take (i := 9) (oi := { dst := some 103, op := Op.indexAddr 22 (Operand.tmp 101) (Operand.tmp 102), type := 0, pos := "law.go:234", after := #[{ on := 7, ground := Ground.data }, { on := 8, ground := Ground.data }, { on := 5, ground := Ground.guard }], guard := some (5, true) }) (v := ?_) rfl (by kernel_rfl) (by kernel_rfl) (by kernel_rfl) (fun _ _ _ h => h) (Or.inl ⟨by rfl, ?_⟩) hHeld ?_
            rotate_left
            · intro w hSw; (try dsimp only at hSw); go_simp; try with_reducible rfl
            try simp only [Act.put, List.setIfInBounds_toArray, List.set_cons_zero, List.set_cons_succ]
            refine wpAnyH_take (i := 10) (oi := { dst := some 104, op := Op.fieldAddr 35 (Operand.tmp 103) 1, type := 0, pos := "law.go:234", after := #[{ on := 9, ground := Ground.data }, { on := 5, ground := Ground.guard }], guard := some (5, true) }) (v := ?_) rfl (by kernel_rfl) (by kernel_rfl) (by kernel_rfl) (fun _ _ _ h => h) (Or.inl ⟨by rfl, ?_⟩) hHeld ?_
            rotate_left
            · intro w hSw; (try dsimp only at hSw); go_simp; try with_reducible rfl
            try simp only [Act.put, List.setIfInBounds_toArray, List.set_cons_zero, List.set_cons_succ]
            refine wpAnyH_take (i := 11) (oi := { dst := some 105, op := Op.load 33 (Operand.tmp 104), type := 33, pos := "law.go:234", after := #[{ on := 10, ground := Ground.data }, { on := 5, ground := Ground.guard }], guard := some (5, true) }) (v := ?_) rfl (by kernel_rfl) (by kernel_rfl) (by kernel_rfl) (fun _ _ _ h => h) (Or.inl ⟨by rfl, ?_⟩) hHeld ?_
            rotate_left
            · intro w hSw; (try dsimp only at hSw); go_simp; try with_reducible rfl
            try simp only [Act.put, List.setIfInBounds_toArray, List.set_cons_zero, List.set_cons_succ]
            refine wpAnyH_take (i := 13) (oi := { dst := some 107, op := Op.move (Operand.tmp 9), type := 3, pos := "law.go:234", after := #[{ on := 5, ground := Ground.guard }], guard := some (5, true) }) (v := ?_) rfl (by kernel_rfl) (by kernel_rfl) (by kernel_rfl) (fun _ _ _ h => h) (Or.inl ⟨by rfl, ?_⟩) hHeld ?_
            rotate_left
            · intro w hSw; (try dsimp only at hSw); go_simp; try with_reducible rfl
            try simp only [Act.put, List.setIfInBounds_toArray, List.set_cons_zero, List.set_cons_succ]
            refine wpAnyH_take (i := 15) (oi := { dst := some 109, op := Op.move (Operand.tmp 7), type := 23, pos := "law.go:234", after := #[{ on := 5, ground := Ground.guard }], guard := some (5, true) }) (v := ?_) rfl (by kernel_rfl) (by kernel_rfl) (by kernel_rfl) (fun _ _ _ h => h) (Or.inl ⟨by rfl, ?_⟩) hHeld ?_
            rotate_left
            · intro w hSw; (try dsimp only at hSw); go_simp; try with_reducible rfl
            try simp only [Act.put, List.setIfInBounds_toArray, List.set_cons_zero, List.set_cons_succ]
            refine wpAnyH_take (i := 16) (oi := { dst := some 110, op := Op.move (Operand.tmp 1), type := 22, pos := "law.go:234", after := #[{ on := 5, ground := Ground.guard }], guard := some (5, true) }) (v := ?_) rfl (by kernel_rfl) (by kernel_rfl) (by kernel_rfl) (fun _ _ _ h => h) (Or.inl ⟨by rfl, ?_⟩) hHeld ?_
            rotate_left
            · intro w hSw; (try dsimp only at hSw); go_simp; try with_reducible rfl
            try simp only [Act.put, List.setIfInBounds_toArray, List.set_cons_zero, List.set_cons_succ]
            refine wpAnyH_take (i := 17) (oi := { dst := some 111, op := Op.move (Operand.tmp 9), type := 3, pos := "law.go:234", after := #[{ on := 5, ground := Ground.guard }], guard := some (5, true) }) (v := ?_) rfl (by kernel_rfl) (by kernel_rfl) (by kernel_rfl) (fun _ _ _ h => h) (Or.inl ⟨by rfl, ?_⟩) hHeld ?_
            rotate_left
            · intro w hSw; (try dsimp only at hSw); go_simp; try with_reducible rfl
            try simp only [Act.put, List.setIfInBounds_toArray, List.set_cons_zero, List.set_cons_succ]
            refine wpAnyH_take (i := 18) (oi := { dst := some 112, op := Op.indexAddr 22 (Operand.tmp 110) (Operand.tmp 111), type := 0, pos := "law.go:234", after := #[{ on := 16, ground := Ground.data }, { on := 17, ground := Ground.data }, { on := 5, ground := Ground.guard }], guard := some (5, true) }) (v := ?_) rfl (by kernel_rfl) (by kernel_rfl) (by kernel_rfl) (fun _ _ _ h => h) (Or.inl ⟨by rfl, ?_⟩) hHeld ?_
            rotate_left
            · intro w hSw; (try dsimp only at hSw); go_simp; try with_reducible rfl
            try simp only [Act.put, List.setIfInBounds_toArray, List.set_cons_zero, List.set_cons_succ]
            refine wpAnyH_take (i := 19) (oi := { dst := some 113, op := Op.fieldAddr 35 (Operand.tmp 112) 1, type := 0, pos := "law.go:234", after := #[{ on := 18, ground := Ground.data }, { on := 5, ground := Ground.guard }], guard := some (5, true) }) (v := ?_) rfl (by kernel_rfl) (by kernel_rfl) (by kernel_rfl) (fun _ _ _ h => h) (Or.inl ⟨by rfl, ?_⟩) hHeld ?_
            rotate_left
            · intro w hSw; (try dsimp only at hSw); go_simp; try with_reducible rfl
            try simp only [Act.put, List.setIfInBounds_toArray, List.set_cons_zero, List.set_cons_succ]
            refine wpAnyH_take (i := 20) (oi := { dst := some 114, op := Op.load 33 (Operand.tmp 113), type := 33, pos := "law.go:234", after := #[{ on := 19, ground := Ground.data }, { on := 5, ground := Ground.guard }], guard := some (5, true) }) (v := ?_) rfl (by kernel_rfl) (by kernel_rfl) (by kernel_rfl) (fun _ _ _ h => h) (Or.inl ⟨by rfl, ?_⟩) hHeld ?_
            rotate_left
            · intro w hSw; (try dsimp only at hSw); go_simp; try with_reducible rfl
            try simp only [Act.put, List.setIfInBounds_toArray, List.set_cons_zero, List.set_cons_succ]
            refine wpAnyH_take (i := 22) (oi := { dst := some 116, op := Op.move (Operand.tmp 9), type := 3, pos := "law.go:234", after := #[{ on := 5, ground := Ground.guard }], guard := some (5, true) }) (v := ?_) rfl (by kernel_rfl) (by kernel_rfl) (by kernel_rfl) (fun _ _ _ h => h) (Or.inl ⟨by rfl, ?_⟩) hHeld ?_
            rotate_left
            · intro w hSw; (try dsimp only at hSw); go_simp; try with_reducible rfl
            try simp only [Act.put, List.setIfInBounds_toArray, List.set_cons_zero, List.set_cons_succ]
            refine wpAnyH_ready (rs := [12]) (by kernel_rfl) (by simp) ?_
            refine AllReadyH.cons rfl (fun K hK => ?_) (AllReadyH.nil)
            go_simp
            go_wp2_with (go_at_call 21; (with_reducible_and_instances (refine (HCo.out _ HE8.out.below.drew).mono ?_)); rintro y w9 ⟨ad3, cap3, rfl, hba9, hb9⟩; have HE9 := hid ((HE8.out.later (Below.refl _ _).drew).later hb9); have HN9 := hid (HNa.out _ ad3 cap3 HE9.out hba9); clear hba9 hb9)
            refine hK.out _ _ (HS.out _ HE9.out.below) (fun hHeld => ?_)
            clear hK K
            try simp only [Act.put, List.setIfInBounds_toArray, List.set_cons_zero, List.set_cons_succ]
            refine wpAnyH_ready (rs := [14]) (by kernel_rfl) (by simp) ?_
            refine AllReadyH.cons rfl (fun K hK => ?_) (AllReadyH.nil)
            go_simp
            go_wp2_with (go_at_call 19; (with_reducible_and_instances (refine HN9.out.mono ?_)); rintro y w10 ⟨rfl, hE10⟩; have HE10 := hid hE10; clear hE10)
            refine hK.out _ _ (HS.out _ HE10.out.below) (fun hHeld => ?_)
            clear hK K
            try simp only [Act.put, List.setIfInBounds_toArray, List.set_cons_zero, List.set_cons_succ]
            refine wpAnyH_ready (rs := [21]) (by kernel_rfl) (by simp) ?_
            refine AllReadyH.cons rfl (fun K hK => ?_) (AllReadyH.nil)
            go_simp
            go_wp2_with (go_at_call 21; (with_reducible_and_instances (refine (HCo.out _ HE10.out.below).mono ?_)); rintro y w11 ⟨ad4, cap4, rfl, hba11, hb11⟩; have HE11 := hid (HE10.out.later hb11); have HN11 := hid (HNb.out _ ad4 cap4 HE11.out hba11); clear hba11 hb11)
            refine hK.out _ _ (HS.out _ HE11.out.below) (fun hHeld => ?_)
            clear hK K
            try simp only [Act.put, List.setIfInBounds_toArray, List.set_cons_zero, List.set_cons_succ]
            refine wpAnyH_ready (rs := [23]) (by kernel_rfl) (by simp) ?_
            refine AllReadyH.cons rfl (fun K hK => ?_) (AllReadyH.nil)
            go_simp
            go_wp2_with (go_at_call 19; (with_reducible_and_instances (refine HN11.out.mono ?_)); rintro y w12 ⟨rfl, T', U', hE12⟩; have HE12 := hid hE12; clear hE12)
            refine hK.out _ _ (HS.out _ HE12.out.below) (fun hHeld => ?_)
            clear hK K
            try simp only [Act.put, List.setIfInBounds_toArray, List.set_cons_zero, List.set_cons_succ]
            refine wpAnyH_take (i := 24) (oi := { dst := some 118, op := Op.binOp BinOp.neq 39 (Operand.tmp 108) (Operand.tmp 117) 39, type := 4, pos := "law.go:234", after := #[{ on := 14, ground := Ground.data }, { on := 23, ground := Ground.data }, { on := 5, ground := Ground.guard }], guard := some (5, true) }) (v := ?_) rfl (by kernel_rfl) (by kernel_rfl) (by kernel_rfl) (fun _ _ _ h => h) (Or.inl ⟨by rfl, ?_⟩) hHeld ?_
            rotate_left
            · intro w hSw; (try dsimp only at hSw); go_simp; try with_reducible rfl
            try simp only [Act.put, List.setIfInBounds_toArray, List.set_cons_zero, List.set_cons_succ]
            refine wpAnyH_take (i := 25) (oi := { dst := some 119, op := Op.pick (Operand.tmp 99) (Operand.tmp 118) (Operand.const (Value.bool false)), type := 4, pos := "law.go:234", after := #[{ on := 5, ground := Ground.data }, { on := 24, ground := Ground.data }], guard := none }) (v := ?_) rfl (by kernel_rfl) (by kernel_rfl) (by kernel_rfl) (fun _ _ _ h => h) (Or.inl ⟨by rfl, ?_⟩) hHeld ?_
            rotate_left
            · intro w hSw; (try dsimp only at hSw); go_simp; try with_reducible rfl
            try simp only [Act.put, List.setIfInBounds_toArray, List.set_cons_zero, List.set_cons_succ]
            refine wpAnyH_done (by kernel_rfl) ?_ _
            clear hHeld
            go_wp2_with fail
            exact ⟨⟨j + 1, T', U', by omega, by go_num, hid (HE12.out.mono (by omega))⟩, by simp [intOf]; omega⟩
        · obtain rfl : j = len' := by omega
          obtain ⟨m, hmm, hEn⟩ := HE0.out.len1 (by omega)
          have HEn := hid hEn
          clear hEn
          go_wp2_with (first
            | (go_at_call 20; (with_reducible_and_instances (refine HEn.out.mono ?_)); rintro y w2 ⟨a2, c2, rfl, hb2, hl2⟩; have HL2 := hid hl2; clear hb2 hl2)
            | (go_at_call 20; (with_reducible_and_instances (refine HL2.out.mono ?_)); rintro y w3 ⟨a3, c3, rfl, hb3⟩; have HB3 := hid hb3; clear hb3))
          go_ret
          exact ⟨rfl, HB3.out⟩
end Go.Proofs.Ytobaeiicacpbnaa
