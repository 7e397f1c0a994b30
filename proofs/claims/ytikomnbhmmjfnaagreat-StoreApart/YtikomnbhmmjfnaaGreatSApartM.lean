/- call of the statements of layer 4, with what it answers as a function; two stores that are alike in one loglet. -/
import Derived.Test.YtikomnbhmmjfnaaGreatSUp
namespace Go.Proofs.YtikomnbhmmjfnaaGreat
open Go.RowKit Go.Shelf Crcm

def callN (s : SSt) (L P : Nat) (k : Int) (data : List Nat) (rep : Bool) : Int × SSt := if k = 0 then s.put L P data rep else if k = 1 then s.seal L else if k = 2 then s.trim L P else (99, s)
set_option maxRecDepth 100000 in
set_option maxHeartbeats 4000000 in
theorem call_fn (o : OpS) : ∃ (L P : Nat) (data : List Nat), L < 3 ∧ P < 6 ∧ (o.l.tmod 3 + 3).tmod 3 = (L : Int) ∧ (o.l.tmod 3 + 3) % 3 = (L : Int) ∧ o.l.tmod 3 % 3 = (L : Int) ∧ ∀ (w : World) (F : List Nat) (S : Nat) (s : SSt), SU w F S s → o.ok w → Calls Tryz.prog 26 #[.pointer (some ⟨S, 0, none⟩), .agg (opS o)] w fun x w' => x = .returned (.int .i64 (callN s L P o.k data o.rep).1) ∧ SMv F S (callN s L P o.k data o.rep).2 w w' := by
  obtain ⟨m, hm, HD⟩ := data_any o
  obtain ⟨L, lL, eL, fL, gL⟩ := modS o.l 3 (by omega)
  obtain ⟨P, lP, eP, fP, gP⟩ := modS o.p 6 (by omega)
  have tL := tmodS o.l 3 (by omega)
  have tP := tmodS o.p 6 (by omega)
  simp only [Int.cast_ofNat_Int] at eL fL gL eP fP gP
  have wL : IntKind.i64.wrap (o.l.tmod 3 + 3) = o.l.tmod 3 + 3 := by rw [IntKind.wrap_i64]; omega
  have wP : IntKind.i64.wrap (o.p.tmod 6 + 6) = o.p.tmod 6 + 6 := by rw [IntKind.wrap_i64]; omega
  refine ⟨L, P, o.B.l ++ List.replicate m 0, lL, lP, eL, fL, gL, fun w F S s h ho => ?_⟩
  have b0 : Below w.heap.size w (w.alloc (.cells (opS o) 31)) := (Below.refl _ w).alloc (Nat.le_refl _) _
  have hok : o.ok (w.alloc (.cells (opS o) 31)).drew := ⟨(ho.text.later b0).later (Below.refl _ _).drew, ho.cap, ho.big⟩
  by_cases k0 : o.k = 0
  · have hr : callN s L P o.k (o.B.l ++ List.replicate m 0) o.rep = s.put L P (o.B.l ++ List.replicate m 0) o.rep := by unfold callN; rw [if_pos k0]
    rw [hr]
    clear hr
    have HD1 := hide (HD _ hok)
    have HPT : Hid (∀ (W : World) (ad : Option Addr) (cap : Nat), Below w.heap.size w W → Part.ok W ⟨ad, o.B.len + m, cap, o.B.l ++ List.replicate m 0⟩ → Calls Tryz.prog 15 #[.pointer (some ⟨S, 0, none⟩), .int .i64 (L : Int), .int .i64 (P : Int), .slice ad (o.B.len + m) cap, .bool o.rep] W fun x w' => x = .returned (.int .i64 (s.put L P (o.B.l ++ List.replicate m 0) o.rep).1) ∧ Hid (SMv F S (s.put L P (o.B.l ++ List.replicate m 0) o.rep).2 w w')) := hide (fun W ad cap hW hp => by
      refine ((h.later hW).put L P lL lP ad (o.B.len + m) cap _ hp o.rep).mono ?_
      rintro x w' ⟨rfl, m2⟩
      exact ⟨rfl, hide (SMv.pre hW m2)⟩)
    obtain ⟨k, l, p, n, rep, ⟨ad, len, cap, bs⟩, size, la, ll, lc⟩ := o
    simp only at *
    subst k0
    unfold opS at *
    simp only at *
    generalize s.put L P (bs ++ List.replicate m 0) rep = R at *
    have B0 := hide b0
    have X0 : Hid (Blk (w.alloc (.cells #[.int .i64 0, .int .i64 l, .int .i64 p, .int .i64 n, .bool rep, .slice ad len cap, .int .i64 size, .slice la ll lc] 31)).drew w.heap.size #[.int .i64 0, .int .i64 l, .int .i64 p, .int .i64 n, .bool rep, .slice ad len cap, .int .i64 size, .slice la ll lc] 31) := hide (Blk.later (w := w.alloc (.cells #[.int .i64 0, .int .i64 l, .int .i64 p, .int .i64 n, .bool rep, .slice ad len cap, .int .i64 size, .slice la ll lc] 31)) (heap_alloc_last w _) (Below.refl _ _).drew)
    obtain ⟨ln, hln⟩ : ∃ ln, len + m = ln := ⟨_, rfl⟩
    rw [hln] at HD1 HPT
    clear HD h ho hok b0 hln
    go_enter Tryz.func26, Tryz.ntmps26
    go_wp2_with fail
    go_region_with (first
      | (go_at_call 32; (with_reducible_and_instances (refine HD1.out.mono ?_)); rintro x w1 ⟨ad1, cap1, rfl, P1, b1⟩; have B1 : Hid (Below w.heap.size w w1) := hide ((B0.out.drew).trans (b1.mono B0.out.drew.size)); have c1 : w1.cell? ⟨w.heap.size, 4, none⟩ = some (.bool rep) := (X0.out.later b1).cell 4; clear b1 HD1)
      | (go_at_call 15; (with_reducible_and_instances (refine (HPT.out w1 ad1 cap1 B1.out P1.out).mono ?_)); rintro x w2 ⟨rfl, M2⟩; clear HPT)
      | (go_at_call 13; refine (num4_any _ _).mono ?_; rintro x w' ⟨rfl, hw'⟩; obtain rfl := hw'.symm))
    all_goals go_wp2_with fail
    all_goals go_ret
    all_goals exact ⟨rfl, M2.out⟩
  · by_cases k1 : o.k = 1
    · have hr : callN s L P o.k (o.B.l ++ List.replicate m 0) o.rep = s.seal L := by unfold callN; rw [if_neg k0, if_pos k1]
      rw [hr]
      clear hr
      have HS := hide ((h.later b0).seal L lL)
      obtain ⟨k, l, p, n, rep, ⟨ad, len, cap, bs⟩, size, la, ll, lc⟩ := o
      simp only at *
      subst k1
      unfold opS at *
      simp only at *
      generalize s.seal L = R at *
      have B0 := hide b0
      clear HD h ho hok b0
      go_enter Tryz.func26, Tryz.ntmps26
      go_wp2_with (first
        | (go_at_call 16; (with_reducible_and_instances (refine HS.out.mono ?_)); rintro x w2 ⟨rfl, m2⟩; have M2 := hide (SMv.pre B0.out m2); clear m2 HS)
        | (go_at_call 13; refine (num4_any _ _).mono ?_; rintro x w' ⟨rfl, hw'⟩; obtain rfl := hw'.symm))
      go_ret
      exact ⟨rfl, M2.out⟩
    · by_cases k2 : o.k = 2
      · have hr : callN s L P o.k (o.B.l ++ List.replicate m 0) o.rep = s.trim L P := by unfold callN; rw [if_neg k0, if_neg k1, if_pos k2]
        rw [hr]
        clear hr
        have HS := hide ((h.later b0).trim L P lL)
        obtain ⟨k, l, p, n, rep, ⟨ad, len, cap, bs⟩, size, la, ll, lc⟩ := o
        simp only at *
        subst k2
        unfold opS at *
        simp only at *
        generalize s.trim L P = R at *
        have B0 := hide b0
        clear HD h ho hok b0
        go_enter Tryz.func26, Tryz.ntmps26
        go_wp2_with (first
          | (go_at_call 17; (with_reducible_and_instances (refine HS.out.mono ?_)); rintro x w2 ⟨rfl, m2⟩; have M2 := hide (SMv.pre B0.out m2); clear m2 HS)
          | (go_at_call 13; refine (num4_any _ _).mono ?_; rintro x w' ⟨rfl, hw'⟩; obtain rfl := hw'.symm))
        go_ret
        exact ⟨rfl, M2.out⟩
      · have hr : callN s L P o.k (o.B.l ++ List.replicate m 0) o.rep = (99, s) := by unfold callN; rw [if_neg k0, if_neg k1, if_neg k2]
        rw [hr]
        clear hr
        have M2 := hide (h.moved b0)
        obtain ⟨k, l, p, n, rep, ⟨ad, len, cap, bs⟩, size, la, ll, lc⟩ := o
        simp only at *
        have q0 : (k == 0) = false := by simpa using k0
        have q1 : (k == 1) = false := by simpa using k1
        have q2 : (k == 2) = false := by simpa using k2
        unfold opS at *
        simp only at *
        clear HD h ho hok b0 k0 k1 k2
        go_enter Tryz.func26, Tryz.ntmps26
        go_wp2_with fail
        go_ret
        exact ⟨rfl, M2.out⟩
/-- t has of loglet i what s has, and is no fuller. -/
structure Alike (i : Nat) (s t : SSt) : Prop where
  log : s.log i = t.log i
  slots : ∀ p, s.slots i p = t.slots i p
  fin : t.fin ≤ s.fin
  len : s.d.bs.length = t.d.bs.length
  sf : s.d.free ∧ s.d.clean
  tf : t.d.free ∧ t.d.clean
  su : s.fallen = false
  tu : t.fallen = false
theorem doE_log (s : SSt) (e : Ent) (i : Nat) (h : e.loglet ≠ i) : (s.doE e).log i = s.log i ∧ (∀ p, (s.doE e).slots i p = s.slots i p) := by
  unfold SSt.doE SSt.fill SSt.sealL SSt.giveUp
  split
  · split
    · refine ⟨?_, fun p => ?_⟩
      · show SSt.log (s.setLog _ _) i = _
        rw [log_setLog, if_neg (Ne.symm h)]
      · show (if i = e.loglet ∧ p = e.pos then _ else s.slots i p) = _
        rw [if_neg (fun hh => h hh.1.symm)]
    · exact ⟨by rw [log_setLog, if_neg (Ne.symm h)], fun p => rfl⟩
  · split
    · exact ⟨by rw [log_setLog, if_neg (Ne.symm h)], fun p => rfl⟩
    · refine ⟨?_, fun p => ?_⟩
      · show SSt.log (s.setLog _ _) i = _
        rw [log_setLog, if_neg (Ne.symm h)]
      · show (if i = e.loglet ∧ _ then _ else s.slots i p) = _
        rw [if_neg (fun hh => h hh.1.symm)]
theorem doE_same {s t : SSt} (e : Ent) (i : Nat) (hl : s.log i = t.log i) (hs : ∀ p, s.slots i p = t.slots i p) (h : e.loglet = i) : (s.doE e).log i = (t.doE e).log i ∧ (∀ p, (s.doE e).slots i p = (t.doE e).slots i p) := by
  subst h
  unfold SSt.doE SSt.fill SSt.sealL SSt.giveUp
  rw [hl, hs]
  split
  · split
    · refine ⟨?_, fun p => ?_⟩
      · show SSt.log (s.setLog _ _) _ = SSt.log (t.setLog _ _) _
        rw [log_setLog, log_setLog, if_pos rfl, if_pos rfl]
      · show (if e.loglet = e.loglet ∧ p = e.pos then _ else s.slots e.loglet p) = (if e.loglet = e.loglet ∧ p = e.pos then _ else t.slots e.loglet p)
        rw [hs p]
    · exact ⟨by rw [log_setLog, log_setLog, if_pos rfl, if_pos rfl], fun p => hs p⟩
  · split
    · exact ⟨by rw [log_setLog, log_setLog, if_pos rfl, if_pos rfl], fun p => hs p⟩
    · refine ⟨?_, fun p => ?_⟩
      · show SSt.log (s.setLog _ _) _ = SSt.log (t.setLog _ _) _
        rw [log_setLog, log_setLog, if_pos rfl, if_pos rfl]
      · show (if e.loglet = e.loglet ∧ _ then _ else s.slots e.loglet p) = (if e.loglet = e.loglet ∧ _ then _ else t.slots e.loglet p)
        rw [hs p]
theorem down_free {s : SSt} (h : s.d.free) (hu : s.fallen = false) : s.down = false := by unfold SSt.down; rw [hu, h.on]; rfl
theorem callN_two {i : Nat} {s t : SSt} (h : Alike i s t) (P : Nat) (k : Int) (data : List Nat) (rep : Bool) : (∃ z, callN s i P k data rep = (z, s) ∧ callN t i P k data rep = (z, t)) ∨ ∃ e : Ent, e.loglet = i ∧ callN s i P k data rep = s.record e ∧ callN t i P k data rep = t.record e := by
  have ds := down_free h.sf.1 h.su
  have dt := down_free h.tf.1 h.tu
  have hl := h.log
  have hs := h.slots
  unfold callN
  split
  · unfold SSt.put
    rw [ds, dt]
    simp only [Int.toNat_natCast]
    rw [hl, hs P]
    split
    · split
      · exact Or.inl ⟨6, rfl, rfl⟩
      · split
        · rename_i hf; cases hf
        · split
          · exact Or.inl ⟨32, rfl, rfl⟩
          · split
            · split
              · exact Or.inl ⟨0, rfl, rfl⟩
              · exact Or.inl ⟨31, rfl, rfl⟩
            · split
              · exact Or.inl ⟨30, rfl, rfl⟩
              · exact Or.inr ⟨_, rfl, rfl, rfl⟩
    · exact Or.inl ⟨1, rfl, rfl⟩
  · split
    · unfold SSt.seal
      rw [ds, dt]
      simp only [Int.toNat_natCast]
      rw [hl]
      split
      · split
        · rename_i hf; cases hf
        · split
          · exact Or.inl ⟨0, rfl, rfl⟩
          · exact Or.inr ⟨_, rfl, rfl, rfl⟩
      · exact Or.inl ⟨1, rfl, rfl⟩
    · split
      · unfold SSt.trim
        rw [ds, dt]
        simp only [Int.toNat_natCast]
        rw [hl]
        split
        · split
          · rename_i hf; cases hf
          · split
            · exact Or.inl ⟨0, rfl, rfl⟩
            · exact Or.inr ⟨_, rfl, rfl, rfl⟩
        · exact Or.inl ⟨1, rfl, rfl⟩
      · exact Or.inl ⟨99, rfl, rfl⟩
theorem callN_one (s : SSt) (L P : Nat) (k : Int) (data : List Nat) (rep : Bool) (hf : s.d.free) (hu : s.fallen = false) : (∃ z, callN s L P k data rep = (z, s)) ∨ ∃ e : Ent, e.loglet = L ∧ callN s L P k data rep = s.record e := by
  have hd := down_free hf hu
  unfold callN SSt.put SSt.seal SSt.trim
  simp only [Int.toNat_natCast]
  repeat' split
  all_goals first
    | exact Or.inl ⟨_, rfl⟩
    | exact Or.inr ⟨_, rfl, rfl⟩
theorem take_d (s : SSt) (d : DSt) (e : Ent) : ({ s with d := d } : SSt).takeE e = { s.doE e with d := d, num := s.num + 1, fin := s.fin + e.parts } := by
  unfold SSt.takeE SSt.doE SSt.fill SSt.sealL SSt.giveUp
  simp only
  split
  · have hl : ({ s with d := d } : SSt).log e.loglet = s.log e.loglet := rfl
    rw [hl]
    split <;> rfl
  · split <;> rfl
theorem doE_fallen (s : SSt) (e : Ent) : (s.doE e).fallen = s.fallen := by
  unfold SSt.doE SSt.fill SSt.sealL SSt.giveUp
  repeat' split
  all_goals rfl
/-- A call on another loglet, of the first store alone. -/
theorem Alike.other {i : Nat} {s t : SSt} (h : Alike i s t) {L : Nat} (hL : L ≠ i) (P : Nat) (k : Int) (data : List Nat) (rep : Bool) : Alike i (callN s L P k data rep).2 t := by
  rcases callN_one s L P k data rep h.sf.1 h.su with ⟨z, e⟩ | ⟨e, he, e2⟩
  · rw [e]; exact h
  · rw [e2]
    by_cases hr : s.d.bs.length < s.fin + e.parts
    · rw [record_full e hr]; exact h
    · obtain ⟨d, h1, h2, h3, h4⟩ := record_free h.sf.1 h.sf.2 e (by omega)
      rw [h1]
      simp only
      rw [take_d]
      obtain ⟨g1, g2⟩ := doE_log s e i (by omega)
      exact ⟨g1.trans h.log, fun p => (g2 p).trans (h.slots p), by have := h.fin; simp only; omega, h4.trans h.len, ⟨h2, h3⟩, h.tf, (doE_fallen s e).trans h.su, h.tu⟩
/-- A call on this loglet, of both: they answer the same and stay alike, or the first one is full. -/
theorem Alike.both {i : Nat} {s t : SSt} (h : Alike i s t) (P : Nat) (k : Int) (data : List Nat) (rep : Bool) : ((callN t i P k data rep).1 = (callN s i P k data rep).1 ∧ Alike i (callN s i P k data rep).2 (callN t i P k data rep).2) ∨ ((callN s i P k data rep).1 = 7 ∧ (callN t i P k data rep).1 = 0) := by
  rcases callN_two h P k data rep with ⟨z, e1, e2⟩ | ⟨e, he, e1, e2⟩
  · rw [e1, e2]; exact Or.inl ⟨rfl, h⟩
  · rw [e1, e2]
    by_cases hr : s.d.bs.length < s.fin + e.parts
    · rw [record_full e hr]
      by_cases hr' : t.d.bs.length < t.fin + e.parts
      · rw [record_full e hr']; exact Or.inl ⟨rfl, h⟩
      · obtain ⟨d', h1', -⟩ := record_free h.tf.1 h.tf.2 e (by omega)
        rw [h1']; exact Or.inr ⟨rfl, rfl⟩
    · left
      have hfin := h.fin
      have hlen := h.len
      obtain ⟨d, h1, h2, h3, h4⟩ := record_free h.sf.1 h.sf.2 e (by omega)
      obtain ⟨d', h1', h2', h3', h4'⟩ := record_free h.tf.1 h.tf.2 e (by omega)
      rw [h1, h1']
      refine ⟨rfl, ?_⟩
      simp only
      rw [take_d, take_d]
      obtain ⟨g1, g2⟩ := doE_same e i h.log h.slots he
      exact ⟨g1, g2, by simp only; omega, by rw [h4, h4']; exact h.len, ⟨h2, h3⟩, ⟨h2', h3'⟩, (doE_fallen s e).trans h.su, (doE_fallen t e).trans h.tu⟩
theorem alike0 (i n : Nat) : Alike i (sst0 (newD n)) (sst0 (newD n)) := by
  obtain ⟨f1, f2, -⟩ := new_free n
  exact ⟨rfl, fun _ => rfl, Nat.le_refl _, rfl, ⟨f1, f2⟩, ⟨f1, f2⟩, rfl, rfl⟩
theorem Alike.get {i : Nat} {s t : SSt} (h : Alike i s t) (hi : i < 3) (j : Nat) (hj : j < 6) : getF s i j = getF t i j := by
  unfold getF
  rw [get_nat s i j (by omega) (by omega), get_nat t i j (by omega) (by omega), h.log, h.slots]
end Go.Proofs.YtikomnbhmmjfnaaGreat
