/- A store that can be written, with the blocks that it has; Data and call of the statements of layer 4. -/
import Derived.Test.YtikomnbhmmjfnaaGreatSLookW
import Derived.Test.YtikomnbhmmjfnaaGreatSKnows
import Derived.Test.YtikomnbhmmjfnaaGreatSZeros
import Derived.Deep.RegionHeld3
import Derived.Deep.RegionWith
namespace Go.Proofs.YtikomnbhmmjfnaaGreat
open Go.RowKit Go.Shelf Crcm

def SU (w : World) (F : List Nat) (S : Nat) (s : SSt) : Prop := (∃ FD G D X Y fx fy A, SPic w FD G S D X Y fx fy A s ∧ F = G ++ FD) ∧ s.d.free ∧ s.d.clean
/-- What a call on it leaves. -/
def SMv (F : List Nat) (S : Nat) (s : SSt) (w w' : World) : Prop := (∃ F', SU w' F' S s ∧ ∀ g ∈ F', g ∈ F ∨ w.heap.size ≤ g) ∧ Chg F w w'
variable {w w' W : World} {F : List Nat} {S : Nat} {s : SSt}
theorem SU.sa (h : SU w F S s) : SA 0 w S s := by
  obtain ⟨⟨FD, G, D, X, Y, fx, fy, A, hp, -⟩, h3⟩ := h
  exact ⟨⟨FD, G, D, X, Y, fx, fy, A, hp, fun _ _ => Nat.zero_le _, fun _ _ => Nat.zero_le _⟩, h3⟩
theorem SU.lt (h : SU w F S s) : ∀ g ∈ F, g < w.heap.size := by
  obtain ⟨⟨FD, G, D, X, Y, fx, fy, A, hp, rfl⟩, h3⟩ := h
  intro g hg
  exact (List.mem_append.1 hg).elim (hp.lt g) (hp.disk.lt g)
theorem SU.keepF (h : SU w F S s) (hk : ∀ g ∈ F, w'.heap[g]? = w.heap[g]?) (hs : w.heap.size ≤ w'.heap.size) : SU w' F S s := by
  obtain ⟨⟨FD, G, D, X, Y, fx, fy, A, hp, rfl⟩, h3⟩ := h
  exact ⟨⟨FD, G, D, X, Y, fx, fy, A, hp.keep (fun g hg => hk g (List.mem_append.2 (hg.elim Or.inr Or.inl))) hs, rfl⟩, h3⟩
theorem SU.later (h : SU w F S s) (hb : Below w.heap.size w w') : SU w' F S s := h.keepF (fun g hg => hb.block g (h.lt g hg)) hb.size
theorem SU.moved (h : SU w F S s) (hb : Below w.heap.size w w') : SMv F S s w w' := ⟨⟨F, h.later hb, fun _ hg => Or.inl hg⟩, Chg.of hb⟩
theorem SMv.pre (hb : Below w.heap.size w W) (h : SMv F S s W w') : SMv F S s w w' := by
  obtain ⟨⟨F', h1, h2⟩, h3⟩ := h
  exact ⟨⟨F', h1, fun g hg => (h2 g hg).imp id (fun h => Nat.le_trans hb.size h)⟩, (Chg.of hb).trans h3 (fun k hk => Or.inl hk)⟩
theorem SMv.post (h : SMv F S s w W) (hb : Below W.heap.size W w') : SMv F S s w w' := by
  obtain ⟨⟨F', h1, h2⟩, h3⟩ := h
  exact ⟨⟨F', h1.later hb, h2⟩, h3.trans (Chg.of (F := []) hb) (fun k hk => by cases hk)⟩
theorem SPost.mv {FD G : List Nat} {D X Y : Nat} {r : Int × SSt} {x : Ending} (h : SPost w FD G S D X Y r x w') (hf : r.2.d.free ∧ r.2.d.clean) : x = .returned (.int .i64 r.1) ∧ SMv (G ++ FD) S r.2 w w' := by
  obtain ⟨rfl, FD', G', fx', fy', A', hp, k1, k2, hc⟩ := h
  refine ⟨rfl, ⟨G' ++ FD', ⟨⟨FD', G', D, X, Y, fx', fy', A', hp, rfl⟩, hf⟩, fun g hg => ?_⟩, hc⟩
  rcases List.mem_append.1 hg with h | h
  · exact (k2 g h).imp (fun h => List.mem_append.2 (Or.inl h)) id
  · exact (k1 g h).imp (fun h => List.mem_append.2 (Or.inr h)) id
theorem SU.put (h : SU w F S s) (l p : Nat) (hl : l < 3) (hp6 : p < 6) (ad : Option Addr) (len cap : Nat) (data : List Nat) (hda : Part.ok w ⟨ad, len, cap, data⟩) (repair : Bool) :
    Calls Tryz.prog 15 #[.pointer (some ⟨S, 0, none⟩), .int .i64 (l : Int), .int .i64 (p : Int), .slice ad len cap, .bool repair] w fun x w' => x = .returned (.int .i64 (s.put l p data repair).1) ∧ SMv F S (s.put l p data repair).2 w w' := by
  by_cases hlen : 65536 < len
  · have hd : data.length = len := hda.1
    have e : s.put l p data repair = (6, s) := by
      have hL : isLogletN (l : Int) = true := by simp [isLogletN]; omega
      have hP : isPlaceN (p : Int) = true := by simp [isPlaceN]; omega
      unfold SSt.put
      rw [hL, hP]
      simp only [Bool.and_self, if_true]
      rw [if_pos (by omega)]
    refine (h.sa.putBig l p hl hp6 ad len cap data hd hlen repair).mono ?_
    rintro x w' ⟨rfl, rfl⟩
    exact ⟨rfl, by rw [e]; exact h.moved (Below.refl _ _)⟩
  · obtain ⟨⟨FD, G, D, X, Y, fx, fy, A, hp, rfl⟩, h3, h4⟩ := h
    refine (put_pic hp (l : Int) (p : Int) (by omega) (by omega) ad len cap data hda (by omega) repair (fun x hx => by rw [h4 x hx]; simp)).mono ?_
    intro x w' hx
    exact hx.mv (put_keeps h3 h4 l p data repair)
theorem SU.seal (h : SU w F S s) (l : Nat) (hl : l < 3) :
    Calls Tryz.prog 16 #[.pointer (some ⟨S, 0, none⟩), .int .i64 (l : Int)] w fun x w' => x = .returned (.int .i64 (s.seal l).1) ∧ SMv F S (s.seal l).2 w w' := by
  obtain ⟨⟨FD, G, D, X, Y, fx, fy, A, hp, rfl⟩, h3, h4⟩ := h
  refine (seal_pic hp (l : Int) (by omega) (by omega) (fun x hx => by rw [h4 x hx]; simp)).mono ?_
  intro x w' hx
  exact hx.mv (seal_keeps h3 h4 l)
theorem SU.trim (h : SU w F S s) (l p : Nat) (hl : l < 3) :
    Calls Tryz.prog 17 #[.pointer (some ⟨S, 0, none⟩), .int .i64 (l : Int), .int .i64 (p : Int)] w fun x w' => x = .returned (.int .i64 (s.trim l p).1) ∧ SMv F S (s.trim l p).2 w w' := by
  obtain ⟨⟨FD, G, D, X, Y, fx, fy, A, hp, rfl⟩, h3, h4⟩ := h
  refine (trim_pic hp (l : Int) (p : Int) (by omega) (by omega) (fun x hx => by rw [h4 x hx]; simp)).mono ?_
  intro x w' hx
  exact hx.mv (trim_keeps h3 h4 l p)
/-- An Op of layer 4. -/
structure OpS where
  k : Int
  l : Int
  p : Int
  n : Int
  rep : Bool
  B : Part
  size : Int
  la : Option Addr
  ll : Nat
  lc : Nat
def opS (o : OpS) : Array Value := #[.int .i64 o.k, .int .i64 o.l, .int .i64 o.p, .int .i64 o.n, .bool o.rep, .slice o.B.ad o.B.len o.B.cap, .int .i64 o.size, .slice o.la o.ll o.lc]
structure OpS.ok (o : OpS) (w : World) : Prop where
  text : o.B.ok w
  cap : o.B.len ≤ o.B.cap
  big : o.B.len ≤ 140737488351232
theorem tmodS (x : Int) (m : Int) (hm : 0 < m) : -m < x.tmod m ∧ x.tmod m < m := by
  have h1 := Int.tmod_lt_of_pos x hm
  have h2 := Int.lt_tmod_of_pos x hm
  omega
theorem modS (x : Int) (m : Nat) (hm : 0 < m) : ∃ N : Nat, N < m ∧ (x.tmod (m : Int) + (m : Int)).tmod (m : Int) = (N : Int) ∧ (x.tmod (m : Int) + (m : Int)) % (m : Int) = (N : Int) ∧ x.tmod (m : Int) % (m : Int) = (N : Int) := by
  have h := tmodS x m (by omega)
  have h0 : 0 ≤ x.tmod (m : Int) + (m : Int) := by omega
  have e1 := Int.tmod_eq_emod_of_nonneg (b := (m : Int)) h0
  have h1 := Int.emod_nonneg (x.tmod (m : Int) + (m : Int)) (b := (m : Int)) (by omega)
  have h2 := Int.emod_lt_of_pos (x.tmod (m : Int) + (m : Int)) (b := (m : Int)) (by omega)
  refine ⟨((x.tmod (m : Int) + (m : Int)) % (m : Int)).toNat, by omega, by omega, by omega, ?_⟩
  have h3 : (x.tmod (m : Int) + (m : Int)) % (m : Int) = x.tmod (m : Int) % (m : Int) := by simp
  omega
theorem grown_belowS {N : Nat} {w0 w w' : World} {v : Value} {e size n : Nat} {xs : List Value} (b : Below N w0 w) (h : w.ownsRow N e size v n xs) (hg : w.grownBy w' v.ownBlock) (hN : N ≤ w.heap.size) : Below N w0 w' := by
  refine ⟨hg.os.trans b.os, hg.tape.trans b.tape, hg.output.trans b.output, Nat.le_trans b.size hg.size, fun k hk => (hg.block k (by omega) (fun e => ?_)).trans (b.block k hk)⟩
  rcases h.2 with ⟨h1, -⟩ | ⟨g, c, cur, h1, h2, -⟩
  · rw [h1] at e; simp [Value.ownBlock] at e
  · rw [h1] at e; simp [Value.ownBlock] at e; omega
set_option maxRecDepth 100000 in
set_option maxHeartbeats 4000000 in
theorem data_any (o : OpS) : ∃ m : Nat, m < 70000 ∧ ∀ w, o.ok w → Calls Tryz.prog 32 #[.agg (opS o)] w fun x w' => ∃ ad cap, x = .returned (.slice ad (o.B.len + m) cap) ∧ Hid (Part.ok w' ⟨ad, o.B.len + m, cap, o.B.l ++ List.replicate m 0⟩) ∧ Below w.heap.size w w' := by
  obtain ⟨k, l, p, n, rep, ⟨ad, len, cap, bs⟩, size, la, ll, lc⟩ := o
  obtain ⟨m, hm, e1, e2, e3⟩ := modS size 70000 (by omega)
  have t1 := tmodS size 70000 (by omega)
  simp only [Int.cast_ofNat_Int] at e1 e2 e3
  have wK1 : IntKind.i64.wrap (size.tmod 70000 + 70000) = size.tmod 70000 + 70000 := by rw [IntKind.wrap_i64]; omega
  refine ⟨m, hm, fun w ho => ?_⟩
  obtain ⟨h1, h2, h3⟩ := ho
  simp only at h1 h2 h3
  unfold opS
  simp only
  obtain ⟨W0, hW0⟩ : ∃ W0, w.alloc (.cells #[.int .i64 k, .int .i64 l, .int .i64 p, .int .i64 n, .bool rep, .slice ad len cap, .int .i64 size, .slice la ll lc] 31) = W0 := ⟨_, rfl⟩
  have sz : W0.heap.size = w.heap.size + 1 := by rw [← hW0]; simp
  have B0 : Hid (Below w.heap.size w (W0.alloc (.cells #[] 5))) := hide (by rw [← hW0]; exact ((Below.refl _ w).alloc (Nat.le_refl _) _).alloc (by simp) _)
  have X0 : Blk W0 w.heap.size #[.int .i64 k, .int .i64 l, .int .i64 p, .int .i64 n, .bool rep, .slice ad len cap, .int .i64 size, .slice la ll lc] 31 := by rw [← hW0]; exact heap_alloc_last w _
  have X1 := X0.later ((Below.refl W0.heap.size W0).alloc (Nat.le_refl _) (.cells #[] 5))
  have c6 : W0.cell? ⟨w.heap.size, 6, none⟩ = some (.int .i64 size) := X0.cell 6
  have c5 : (W0.alloc (.cells #[] 5)).cell? ⟨w.heap.size, 5, none⟩ = some (.slice ad len cap) := X1.cell 5
  have OE : Hid ((W0.alloc (.cells #[] 5)).ownsRow (w.heap.size + 1) 5 1 (.slice (some ⟨w.heap.size + 1, 0, none⟩) 0 0) 0 (([] : List Nat).map bv)) := hide (by have h := empty_own W0 (w.heap.size + 1) (by omega); rw [sz] at h; exact h)
  have SZ : Hid (w.heap.size + 1 ≤ (W0.alloc (.cells #[] 5)).heap.size) := hide (by simp; omega)
  have HA := hide (h1.later B0.out)
  have hl := HA.out.1
  clear X0 X1 h1
  go_enter Tryz.func32, Tryz.ntmps32
  go_wp2_with (first
    | (at_builtin; refine app_any rfl _ _ rfl (w.heap.size + 1) (.slice (some ⟨w.heap.size + 1, 0, none⟩) 0 0) 0 [] rfl OE.out ad len cap bs rfl HA.out.1 HA.out.2.1 HA.out.2.2 (by omega) SZ.out ?_; intro v4 w4 hown4 hg4; rw [Nat.zero_add, List.nil_append] at hown4; have O4 := hide hown4; have S4 : Hid (w.heap.size + 1 ≤ w4.heap.size) := hide (Nat.le_trans SZ.out hg4.size); have B4 : Hid (Below w.heap.size w w4) := hide (grown_belowS B0.out (OE.out |> fun h => ⟨h.1, h.2.imp id (fun ⟨g, c, cur, a1, a2, a3⟩ => ⟨g, c, cur, a1, by omega, a3⟩)⟩) hg4 B0.out.size); clear hown4 hg4)
    | (at_builtin; refine app_zeros rfl _ _ rfl (w.heap.size + 1) v4 len bs rfl O4.out m rfl (by omega) (by omega) S4.out ?_; intro v5 w5 hown5 hg5; have O5 := hide hown5; have B5 : Hid (Below w.heap.size w w5) := hide (grown_belowS B4.out (O4.out |> fun h => ⟨h.1, h.2.imp id (fun ⟨g, c, cur, a1, a2, a3⟩ => ⟨g, c, cur, a1, by omega, a3⟩)⟩) hg5 B4.out.size); clear hown5 hg5))
  obtain ⟨P, rfl, hP, kP⟩ : ∃ P : Part, v5 = .slice P.ad (len + m) P.cap ∧ P.l = bs ++ List.replicate m 0 ∧ Part.ok w5 ⟨P.ad, len + m, P.cap, bs ++ List.replicate m 0⟩ := by
    have hx : Own w5 (w.heap.size + 1) v5 (bs ++ List.replicate m 0) := ⟨fun x hx => by
      rcases List.mem_append.1 hx with h | h
      · exact HA.out.2.2.1 x h
      · rw [(List.mem_replicate.1 h).2]; omega, by
      have := O5.out
      rw [show len + m = (bs ++ List.replicate m 0).length by simp [hl]] at this
      exact this⟩
    obtain ⟨pa, pc, e, hp, -⟩ := hx.slice (len + m) (by simp [hl])
    exact ⟨⟨pa, len + m, pc, bs ++ List.replicate m 0⟩, e, rfl, hp⟩
  go_ret
  exact ⟨P.ad, P.cap, rfl, hide kP, B5.out⟩
set_option maxRecDepth 100000 in
set_option maxHeartbeats 4000000 in
theorem call_any (h : SU w F S s) (o : OpS) (ho : o.ok w) : ∃ r : Int × SSt, CallOk o.rep s r ∧ Calls Tryz.prog 26 #[.pointer (some ⟨S, 0, none⟩), .agg (opS o)] w fun x w' => x = .returned (.int .i64 r.1) ∧ SMv F S r.2 w w' := by
  obtain ⟨m, hm, HD⟩ := data_any o
  obtain ⟨L, lL, eL, fL, gL⟩ := modS o.l 3 (by omega)
  obtain ⟨P, lP, eP, fP, gP⟩ := modS o.p 6 (by omega)
  have tL := tmodS o.l 3 (by omega)
  have tP := tmodS o.p 6 (by omega)
  simp only [Int.cast_ofNat_Int] at eL fL gL eP fP gP
  have wL : IntKind.i64.wrap (o.l.tmod 3 + 3) = o.l.tmod 3 + 3 := by rw [IntKind.wrap_i64]; omega
  have wP : IntKind.i64.wrap (o.p.tmod 6 + 6) = o.p.tmod 6 + 6 := by rw [IntKind.wrap_i64]; omega
  have b0 : Below w.heap.size w (w.alloc (.cells (opS o) 31)) := (Below.refl _ w).alloc (Nat.le_refl _) _
  have hok : o.ok (w.alloc (.cells (opS o) 31)).drew := ⟨(ho.text.later b0).later (Below.refl _ _).drew, ho.cap, ho.big⟩
  by_cases k0 : o.k = 0
  · refine ⟨s.put L P (o.B.l ++ List.replicate m 0) o.rep, put_call h.2.1 h.2.2 L P _ _, ?_⟩
    have HD1 := hide (HD _ hok)
    have HPT : Hid (∀ (W : World) (ad : Option Addr) (cap : Nat), Below w.heap.size w W → Part.ok W ⟨ad, o.B.len + m, cap, o.B.l ++ List.replicate m 0⟩ → Calls Tryz.prog 15 #[.pointer (some ⟨S, 0, none⟩), .int .i64 (L : Int), .int .i64 (P : Int), .slice ad (o.B.len + m) cap, .bool o.rep] W fun x w' => x = .returned (.int .i64 (s.put L P (o.B.l ++ List.replicate m 0) o.rep).1) ∧ Hid (SMv F S (s.put L P (o.B.l ++ List.replicate m 0) o.rep).2 w w')) := hide (fun W ad cap hW hp => by
      refine ((h.later hW).put L P lL lP ad (o.B.len + m) cap _ hp o.rep).mono ?_
      rintro x w' ⟨rfl, m2⟩
      exact ⟨rfl, hide (SMv.pre hW m2)⟩)
    obtain ⟨k, l, p, n, rep, ⟨ad, len, cap, bs⟩, size, la, ll, lc⟩ := o
    simp only at *
    subst k0
    unfold opS at *
    simp only at *
    generalize s.put L P (bs ++ List.replicate m 0) rep = R at *
    have B0 := hide b0
    have X0 : Hid (Blk (w.alloc (.cells #[.int .i64 0, .int .i64 l, .int .i64 p, .int .i64 n, .bool rep, .slice ad len cap, .int .i64 size, .slice la ll lc] 31)).drew w.heap.size #[.int .i64 0, .int .i64 l, .int .i64 p, .int .i64 n, .bool rep, .slice ad len cap, .int .i64 size, .slice la ll lc] 31) := hide (Blk.later (w := w.alloc (.cells #[.int .i64 0, .int .i64 l, .int .i64 p, .int .i64 n, .bool rep, .slice ad len cap, .int .i64 size, .slice la ll lc] 31)) (heap_alloc_last w _) (Below.refl _ _).drew)
    obtain ⟨ln, hln⟩ : ∃ ln, len + m = ln := ⟨_, rfl⟩
    rw [hln] at HD1 HPT
    clear HD h ho hok b0 hln
    go_enter Tryz.func26, Tryz.ntmps26
    go_wp2_with fail
    go_region_with (first
      | (go_at_call 32; (with_reducible_and_instances (refine HD1.out.mono ?_)); rintro x w1 ⟨ad1, cap1, rfl, P1, b1⟩; have B1 : Hid (Below w.heap.size w w1) := hide ((B0.out.drew).trans (b1.mono B0.out.drew.size)); have c1 : w1.cell? ⟨w.heap.size, 4, none⟩ = some (.bool rep) := (X0.out.later b1).cell 4; clear b1 HD1)
      | (go_at_call 15; (with_reducible_and_instances (refine (HPT.out w1 ad1 cap1 B1.out P1.out).mono ?_)); rintro x w2 ⟨rfl, M2⟩; clear HPT)
      | (go_at_call 13; refine (num4_any _ _).mono ?_; rintro x w' ⟨rfl, hw'⟩; obtain rfl := hw'.symm))
    all_goals go_wp2_with fail
    all_goals go_ret
    all_goals exact ⟨rfl, M2.out⟩
  · by_cases k1 : o.k = 1
    · refine ⟨s.seal L, seal_call h.2.1 h.2.2 L _, ?_⟩
      have HS := hide ((h.later b0).seal L lL)
      obtain ⟨k, l, p, n, rep, ⟨ad, len, cap, bs⟩, size, la, ll, lc⟩ := o
      simp only at *
      subst k1
      unfold opS at *
      simp only at *
      generalize s.seal L = R at *
      have B0 := hide b0
      clear HD h ho hok b0
      go_enter Tryz.func26, Tryz.ntmps26
      go_wp2_with (first
        | (go_at_call 16; (with_reducible_and_instances (refine HS.out.mono ?_)); rintro x w2 ⟨rfl, m2⟩; have M2 := hide (SMv.pre B0.out m2); clear m2 HS)
        | (go_at_call 13; refine (num4_any _ _).mono ?_; rintro x w' ⟨rfl, hw'⟩; obtain rfl := hw'.symm))
      go_ret
      exact ⟨rfl, M2.out⟩
    · by_cases k2 : o.k = 2
      · refine ⟨s.trim L P, trim_call h.2.1 h.2.2 L P _, ?_⟩
        have HS := hide ((h.later b0).trim L P lL)
        obtain ⟨k, l, p, n, rep, ⟨ad, len, cap, bs⟩, size, la, ll, lc⟩ := o
        simp only at *
        subst k2
        unfold opS at *
        simp only at *
        generalize s.trim L P = R at *
        have B0 := hide b0
        clear HD h ho hok b0
        go_enter Tryz.func26, Tryz.ntmps26
        go_wp2_with (first
          | (go_at_call 17; (with_reducible_and_instances (refine HS.out.mono ?_)); rintro x w2 ⟨rfl, m2⟩; have M2 := hide (SMv.pre B0.out m2); clear m2 HS)
          | (go_at_call 13; refine (num4_any _ _).mono ?_; rintro x w' ⟨rfl, hw'⟩; obtain rfl := hw'.symm))
        go_ret
        exact ⟨rfl, M2.out⟩
      · refine ⟨(99, s), CallOk.same _ _ _, ?_⟩
        have M2 := hide (h.moved b0)
        obtain ⟨k, l, p, n, rep, ⟨ad, len, cap, bs⟩, size, la, ll, lc⟩ := o
        simp only at *
        have q0 : (k == 0) = false := by simpa using k0
        have q1 : (k == 1) = false := by simpa using k1
        have q2 : (k == 2) = false := by simpa using k2
        unfold opS at *
        simp only at *
        clear HD h ho hok b0 k0 k1 k2
        go_enter Tryz.func26, Tryz.ntmps26
        go_wp2_with fail
        go_ret
        exact ⟨rfl, M2.out⟩
end Go.Proofs.YtikomnbhmmjfnaaGreat
