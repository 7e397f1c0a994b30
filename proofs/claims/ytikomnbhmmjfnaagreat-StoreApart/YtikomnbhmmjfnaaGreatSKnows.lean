/- Stores whose disk has power and no fuse: what becomes of them, and what the statements' knows must come to. -/
import Derived.Test.YtikomnbhmmjfnaaGreatSSealP
import Derived.Test.YtikomnbhmmjfnaaGreatSToldM
namespace Go.Proofs.YtikomnbhmmjfnaaGreat
open Go.RowKit Go.Shelf

/-- A store that can be written, all of whose blocks lie from N on. -/
def SA (N : Nat) (w : World) (S : Nat) (s : SSt) : Prop := (∃ FD G D X Y fx fy A, SPic w FD G S D X Y fx fy A s ∧ (∀ g ∈ FD, N ≤ g) ∧ (∀ g ∈ G, N ≤ g)) ∧ s.d.free ∧ s.d.clean
variable {w w' : World} {N S : Nat} {s : SSt}
theorem SA.later (h : SA N w S s) (hb : Below w.heap.size w w') : SA N w' S s := by
  obtain ⟨⟨FD, G, D, X, Y, fx, fy, A, hp, h1, h2⟩, h3⟩ := h
  exact ⟨⟨FD, G, D, X, Y, fx, fy, A, hp.below hb, h1, h2⟩, h3⟩
theorem SPost.sa {FD G : List Nat} {D X Y : Nat} {r : Int × SSt} {x : Ending} (h : SPost w FD G S D X Y r x w') (h1 : ∀ g ∈ FD, N ≤ g) (h2 : ∀ g ∈ G, N ≤ g) (hN : N ≤ w.heap.size) (hf : r.2.d.free ∧ r.2.d.clean) : x = .returned (.int .i64 r.1) ∧ SA N w' S r.2 ∧ Below N w w' := by
  obtain ⟨rfl, FD', G', fx', fy', A', hp, k1, k2, hc⟩ := h
  exact ⟨rfl, ⟨⟨FD', G', D, X, Y, fx', fy', A', hp, fun g hg => (k1 g hg).elim (h1 g) (fun h => Nat.le_trans hN h), fun g hg => (k2 g hg).elim (h2 g) (fun h => Nat.le_trans hN h)⟩, hf⟩, hc.below (fun g hg => (List.mem_append.1 hg).elim (h2 g) (h1 g)) hN⟩
theorem SA.put (h : SA N w S s) (hN : N ≤ w.heap.size) (l p : Int) (hl1 : -9223372036854775808 ≤ l) (hl2 : l ≤ 9223372036854775807) (ad : Option Addr) (len cap : Nat) (data : List Nat) (hda : Part.ok w ⟨ad, len, cap, data⟩) (hlen : len ≤ 1000000000000) (repair : Bool) :
    Calls Tryz.prog 15 #[.pointer (some ⟨S, 0, none⟩), .int .i64 l, .int .i64 p, .slice ad len cap, .bool repair] w fun x w' => x = .returned (.int .i64 (s.put l p data repair).1) ∧ SA N w' S (s.put l p data repair).2 ∧ Below N w w' := by
  obtain ⟨⟨FD, G, D, X, Y, fx, fy, A, hp, h1, h2⟩, h3, h4⟩ := h
  refine (put_pic hp l p hl1 hl2 ad len cap data hda hlen repair (fun x hx => by rw [h4 x hx]; simp)).mono ?_
  intro x w' hx
  exact hx.sa h1 h2 hN (put_keeps h3 h4 l p data repair)
theorem SA.seal (h : SA N w S s) (hN : N ≤ w.heap.size) (l : Int) (hl1 : -9223372036854775808 ≤ l) (hl2 : l ≤ 9223372036854775807) :
    Calls Tryz.prog 16 #[.pointer (some ⟨S, 0, none⟩), .int .i64 l] w fun x w' => x = .returned (.int .i64 (s.seal l).1) ∧ SA N w' S (s.seal l).2 ∧ Below N w w' := by
  obtain ⟨⟨FD, G, D, X, Y, fx, fy, A, hp, h1, h2⟩, h3, h4⟩ := h
  refine (seal_pic hp l hl1 hl2 (fun x hx => by rw [h4 x hx]; simp)).mono ?_
  intro x w' hx
  exact hx.sa h1 h2 hN (seal_keeps h3 h4 l)
theorem SA.freeC (h : SA N w S s) : Calls Tryz.prog 21 #[.pointer (some ⟨S, 0, none⟩)] w fun x w' => x = .returned (.int .i64 ((s.d.bs.length : Int) - (s.fin : Int))) ∧ Below w.heap.size w w' := by
  obtain ⟨⟨FD, G, D, X, Y, fx, fy, A, hp, h1, h2⟩, h3, h4⟩ := h
  refine (free_pic hp).mono ?_
  rintro x w' ⟨rfl, m, rfl⟩
  exact ⟨rfl, below_drewN' (Below.refl _ _) m⟩
theorem SA.tailC (h : SA N w S s) (i : Int) (h1 : -9223372036854775808 ≤ i) (h2 : i ≤ 9223372036854775807) : Calls Tryz.prog 18 #[.pointer (some ⟨S, 0, none⟩), .int .i64 i] w fun x w' => x = .returned (.int .i64 ((s.look i).tail : Nat)) ∧ Below w.heap.size w w' := by
  obtain ⟨⟨FD, G, D, X, Y, fx, fy, A, hp, _, _⟩, h3, h4⟩ := h
  exact tail_pic hp i h1 h2
theorem SA.open {D : Nat} {FD : List Nat} {n : Nat} (hd : Dk w FD D (newD n)) (hF : ∀ g ∈ FD, N ≤ g) (hN : N ≤ w.heap.size) : Calls Tryz.prog 12 #[.pointer (some ⟨D, 0, none⟩)] w fun x w' => ∃ S, x = .returned (.tuple #[.pointer (some ⟨S, 0, none⟩), .int .i64 0]) ∧ SA N w' S (sst0 (newD n)) ∧ Below N w w' := by
  obtain ⟨f1, f2, f3⟩ := new_free n
  refine (open_new hd f1.on f3).mono ?_
  rintro x w' ⟨S, rfl, FD', G, X, Y, fx, fy, A, hp, k1, k2, hc⟩
  exact ⟨S, rfl, ⟨⟨FD', G, D, X, Y, fx, fy, A, hp, fun g hg => (k1 g hg).elim (hF g) (fun h => Nat.le_trans hN h), fun g hg => Nat.le_trans hN (k2 g hg)⟩, f1, f2⟩, hc.below hF hN⟩
end Go.Proofs.YtikomnbhmmjfnaaGreat

/- What the statements' knows must come to, over plain data. -/
namespace Go.Proofs.YtikomnbhmmjfnaaGreat
open Go.RowKit Go.Shelf

theorem knowsM : ∃ s1 s2 s3 : SSt, (sst0 (newD 8)).put 1 0 [97] false = (0, s1) ∧ s1.put 1 0 [98] false = (31, s1) ∧ s1.seal 1 = (0, s2) ∧ s2.put 1 1 [99] false = (30, s2) ∧ s2.put 1 1 [99] true = (0, s3) ∧ (s3.d.bs.length : Int) - (s3.fin : Int) = 5 ∧ (s3.look 1).tail = 2 := by
  obtain ⟨f0, c0, _⟩ := new_free 8
  have n8 : (newD 8).bs.length = 8 := List.length_replicate
  obtain ⟨d1, r1, f1, c1, l1⟩ := record_free (s := sst0 (newD 8)) f0 c0 ⟨1, 1, 0, [97]⟩ (by show 0 + partsN 14 ≤ (newD 8).bs.length; rw [n8]; decide)
  have e1 : ({ sst0 (newD 8) with d := d1 } : SSt).takeE ⟨1, 1, 0, [97]⟩ = ⟨d1, fun i q => if i = 1 ∧ q = 0 then some [97] else none, fun j => if j = 1 then some ⟨1, 0, false⟩ else none, 1, 1, false⟩ := by
    simp [SSt.takeE, SSt.doE, SSt.fill, sst0, SSt.log, l0, SSt.setLog, SSt.setSlot, Ent.parts, partsN]
  rw [e1] at r1
  have l1' : d1.bs.length = 8 := by rw [l1]; exact n8
  obtain ⟨d2, r2, f2, c2, l2⟩ := record_free (s := ⟨d1, fun i q => if i = 1 ∧ q = 0 then some [97] else none, fun j => if j = 1 then some ⟨1, 0, false⟩ else none, 1, 1, false⟩) f1 c1 ⟨2, 1, 0, []⟩ (by show 1 + partsN 13 ≤ d1.bs.length; rw [l1']; decide)
  have e2 : ({ d := d2, slots := fun i q => if i = 1 ∧ q = 0 then some [97] else none, logs := fun j => if j = 1 then some ⟨1, 0, false⟩ else none, num := 1, fin := 1, fallen := false } : SSt).takeE ⟨2, 1, 0, []⟩ = ⟨d2, fun i q => if i = 1 ∧ q = 0 then some [97] else none, fun j => if j = 1 then some ⟨1, 0, true⟩ else none, 2, 2, false⟩ := by
    simp [SSt.takeE, SSt.doE, SSt.sealL, SSt.log, SSt.setLog, Ent.parts, partsN]
    funext j
    split <;> rfl
  have r2' : (⟨d1, fun i q => if i = 1 ∧ q = 0 then some [97] else none, fun j => if j = 1 then some ⟨1, 0, false⟩ else none, 1, 1, false⟩ : SSt).record ⟨2, 1, 0, []⟩ = (0, ⟨d2, fun i q => if i = 1 ∧ q = 0 then some [97] else none, fun j => if j = 1 then some ⟨1, 0, true⟩ else none, 2, 2, false⟩) := by rw [← e2]; exact r2
  have l2' : d2.bs.length = 8 := by rw [l2]; exact l1'
  obtain ⟨d3, r3, f3, c3, l3⟩ := record_free (s := ⟨d2, fun i q => if i = 1 ∧ q = 0 then some [97] else none, fun j => if j = 1 then some ⟨1, 0, true⟩ else none, 2, 2, false⟩) f2 c2 ⟨1, 1, 1, [99]⟩ (by show 2 + partsN 14 ≤ d2.bs.length; rw [l2']; decide)
  have l3' : d3.bs.length = 8 := by rw [l3]; exact l2'
  refine ⟨⟨d1, fun i q => if i = 1 ∧ q = 0 then some [97] else none, fun j => if j = 1 then some ⟨1, 0, false⟩ else none, 1, 1, false⟩, ⟨d2, fun i q => if i = 1 ∧ q = 0 then some [97] else none, fun j => if j = 1 then some ⟨1, 0, true⟩ else none, 2, 2, false⟩, ({ d := d3, slots := fun i q => if i = 1 ∧ q = 0 then some [97] else none, logs := fun j => if j = 1 then some ⟨1, 0, true⟩ else none, num := 2, fin := 2, fallen := false } : SSt).takeE ⟨1, 1, 1, [99]⟩, ?_, ?_, ?_, ?_, ?_, ?_, ?_⟩
  · rw [← r1]
    simp [SSt.put, isLogletN, isPlaceN, SSt.down, sst0, SSt.log, l0, newD]
  · simp [SSt.put, isLogletN, isPlaceN, SSt.down, SSt.log, f1.on]
  · rw [← r2']
    simp [SSt.seal, isLogletN, SSt.down, SSt.log, f1.on]
  · simp [SSt.put, isLogletN, isPlaceN, SSt.down, SSt.log, f2.on]
  · rw [← r3]
    simp [SSt.put, isLogletN, isPlaceN, SSt.down, SSt.log, f2.on]
  · rw [takeE_d]
    show (d3.bs.length : Int) - _ = 5
    rw [l3']
    rfl
  · simp [SSt.takeE, SSt.doE, SSt.fill, SSt.look, SSt.log, SSt.setLog, SSt.setSlot]
end Go.Proofs.YtikomnbhmmjfnaaGreat

/- knows of the statements of layer 4. -/
namespace Go.Proofs.YtikomnbhmmjfnaaGreat
open Go.RowKit Go.Shelf

set_option maxRecDepth 100000 in
theorem num4_any (n : Int) (w : World) : Calls Tryz.prog 13 #[.int .i64 n] w fun e w' => e = .returned (.int .i64 n) ∧ w' = w := by
  go_enter Tryz.func13, Tryz.ntmps13
  go_wp2
  go_ret
  exact ⟨rfl, rfl⟩
/-- The world behind '[]byte("x")': a new byte, whose row's end is marked. -/
def litW (W : World) (v : Value) : World := (W.alloc (.cells #[v] 5)).freeze ⟨W.heap.size, 1, none⟩ 1
theorem lit_conv (W : World) (v : Value) : (convert 28 28 (.slice (some ⟨W.heap.size, 0, none⟩) 1 1)).run Tryz.prog (W.alloc (.cells #[v] 5)) = .ok (.slice (some ⟨W.heap.size, 0, none⟩) 1 1) (litW W v) := by
  have h1 : (W.alloc (.cells #[v] 5)).shape? W.heap.size = some (5, 1) := by
    unfold World.shape?
    rw [heap_alloc_last]
    rfl
  simp [convert, markStringish, run_underlying Tryz.underlying28, run_underlying Tryz.underlying5, Result.andThen, h1, litW]
theorem litW_heap (W : World) (v : Value) : (litW W v).heap.size = W.heap.size + 1 ∧ (∃ fr, (litW W v).heap[W.heap.size]? = some (.cells #[v] 5 fr)) ∧ Below W.heap.size W (litW W v) := by
  have hs : (litW W v).heap = (W.alloc (.cells #[v] 5)).heap.modify W.heap.size (fun
      | .cells c elem (lo, hi) => .cells c elem (if lo == hi then (1, 1 + 1) else (min lo 1, max hi (1 + 1)))
      | o => o) := rfl
  have h1 : (litW W v).heap.size = W.heap.size + 1 := by rw [hs, Array.size_modify]; simp
  refine ⟨h1, ⟨(1, 2), ?_⟩, rfl, rfl, rfl, by omega, fun k hk => ?_⟩
  · rw [hs, Array.getElem?_modify, if_pos rfl, heap_alloc_last]
    rfl
  · rw [hs, Array.getElem?_modify, if_neg (by omega)]
    exact Below.heap_alloc W _ k hk
theorem lit_ok (W : World) (x : Nat) (z : Int) (hz : z = x) (hx : x < 256) : Part.ok (litW W (.int .u8 z)) ⟨some ⟨W.heap.size, 0, none⟩, 1, 1, [x]⟩ := by
  subst hz
  obtain ⟨h1, ⟨fr, h2⟩, -⟩ := litW_heap W (.int .u8 (x : Int))
  refine ⟨rfl, fun e => (by cases e), fun y hy => by simp at hy; omega, Or.inr ⟨W.heap.size, 0, rfl, by omega, fun i hi => ?_⟩⟩
  have hi0 : i = 0 := by simpa using hi
  subst hi0
  exact cell_of_row _ _ _ _ _ _ h2
set_option maxRecDepth 100000 in
set_option maxHeartbeats 1000000 in
theorem knows4 (w : World) : Calls Tryz.prog 9 #[] w fun e w' => e = .returned (.bool true) ∧ Below w.heap.size w w' := by
  obtain ⟨s1, s2, s3, p1, p2, p3, p4, p5, p6, p7⟩ := knowsM
  have hnew := new_ok 8 w (by omega) (by omega)
  have HOp : Hid (∀ (w1 : World) (F : List Nat) (D : Nat), Dk w1 F D (newD (8 : Int).toNat) → (∀ g ∈ F, w.heap.size ≤ g) → Below w.heap.size w w1 → Calls Tryz.prog 12 #[.pointer (some ⟨D, 0, none⟩)] w1 fun x w2 => ∃ S, x = .returned (.tuple #[.pointer (some ⟨S, 0, none⟩), .int .i64 0]) ∧ Hid (SA w.heap.size w2 S (sst0 (newD 8)) ∧ Below w.heap.size w w2)) := fun w1 F D hd hF hb => by
    refine (SA.open hd hF hb.size).mono ?_
    rintro x w2 ⟨S, rfl, h1, h2⟩
    exact ⟨S, rfl, h1, hb.trans h2⟩
  have HPut : Hid (∀ (S : Nat) (s t : SSt) (z p : Int) (x : Nat) (q : Int) (r : Bool), q = x → x < 256 → s.put 1 p [x] r = (z, t) → ∀ W, (SA w.heap.size W S s ∧ Below w.heap.size w W) → Calls Tryz.prog 15 #[.pointer (some ⟨S, 0, none⟩), .int .i64 1, .int .i64 p, .slice (some ⟨W.heap.size, 0, none⟩) 1 1, .bool r] (litW W (.int .u8 q)) fun e W' => e = .returned (.int .i64 z) ∧ Hid (SA w.heap.size W' S t ∧ Below w.heap.size w W')) := fun S s t z p x q r hq hx hpt W ⟨h1, h2⟩ => by
    have hb : Below W.heap.size W (litW W (.int .u8 q)) := (litW_heap W _).2.2
    have hb2 := h2.trans (hb.mono h2.size)
    refine ((h1.later hb).put hb2.size 1 p (by omega) (by omega) _ 1 1 [x] (lit_ok W x q hq hx) (by omega) r).mono ?_
    rintro e W' ⟨rfl, h3, h4⟩
    rw [hpt] at h3 ⊢
    exact ⟨rfl, h3, hb2.trans h4⟩
  have HP1 := hide (fun S => HPut.out S _ s1 0 0 97 97 false rfl (by omega) p1)
  have HP2 := hide (fun S => HPut.out S _ s1 31 0 98 98 false rfl (by omega) p2)
  have HP4 := hide (fun S => HPut.out S _ s2 30 1 99 99 false rfl (by omega) p4)
  have HP5 := hide (fun S => HPut.out S _ s3 0 1 99 99 true rfl (by omega) p5)
  have HSe : Hid (∀ (S : Nat) W, (SA w.heap.size W S s1 ∧ Below w.heap.size w W) → Calls Tryz.prog 16 #[.pointer (some ⟨S, 0, none⟩), .int .i64 1] W fun e W' => e = .returned (.int .i64 0) ∧ Hid (SA w.heap.size W' S s2 ∧ Below w.heap.size w W')) := fun S W ⟨h1, h2⟩ => by
    refine (h1.seal h2.size 1 (by omega) (by omega)).mono ?_
    rintro e W' ⟨rfl, h3, h4⟩
    rw [p3] at h3 ⊢
    exact ⟨rfl, h3, h2.trans h4⟩
  have HFr : Hid (∀ (S : Nat) W, (SA w.heap.size W S s3 ∧ Below w.heap.size w W) → Calls Tryz.prog 21 #[.pointer (some ⟨S, 0, none⟩)] W fun e W' => e = .returned (.int .i64 5) ∧ Hid (SA w.heap.size W' S s3 ∧ Below w.heap.size w W')) := fun S W ⟨h1, h2⟩ => by
    refine h1.freeC.mono ?_
    rintro e W' ⟨rfl, h4⟩
    rw [p6]
    exact ⟨rfl, h1.later h4, h2.trans (h4.mono h2.size)⟩
  have HTa : Hid (∀ (S : Nat) W, (SA w.heap.size W S s3 ∧ Below w.heap.size w W) → Calls Tryz.prog 18 #[.pointer (some ⟨S, 0, none⟩), .int .i64 1] W fun e W' => e = .returned (.int .i64 2) ∧ Hid (Below w.heap.size w W')) := fun S W ⟨h1, h2⟩ => by
    refine (h1.tailC 1 (by omega) (by omega)).mono ?_
    rintro e W' ⟨rfl, h4⟩
    rw [p7]
    exact ⟨rfl, h2.trans (h4.mono h2.size)⟩
  clear p1 p2 p3 p4 p5 p6 p7 HPut
  have hcv := lit_conv
  go_enter Tryz.func9, Tryz.ntmps9
  go_wp2_with (first
    | (go_at_call 23; refine hnew.mono ?_; rintro e w1 ⟨F, D, rfl, hd, hF, hb⟩; have HO := hide (HOp.out w1 F D hd hF hb); clear hd hF hb hnew)
    | (go_at_call 12; (with_reducible_and_instances (refine HO.out.mono ?_)); rintro e w2 ⟨S, rfl, H0⟩; clear HO HOp)
    | (go_at_call 13; refine (num4_any _ _).mono ?_; rintro e w' ⟨rfl, hw'⟩; obtain rfl := hw'.symm)
    | (go_at_call 15; (with_reducible_and_instances (refine (HP1.out S w2 H0.out).mono ?_)); rintro e w3 ⟨rfl, H1⟩; clear HP1 H0)
    | (go_at_call 15; (with_reducible_and_instances (refine (HP2.out S w3 H1.out).mono ?_)); rintro e w4 ⟨rfl, H2⟩; clear HP2 H1)
    | (go_at_call 16; (with_reducible_and_instances (refine (HSe.out S w4 H2.out).mono ?_)); rintro e w5 ⟨rfl, H3⟩; clear HSe H2)
    | (go_at_call 15; (with_reducible_and_instances (refine (HP4.out S w5 H3.out).mono ?_)); rintro e w6 ⟨rfl, H4⟩; clear HP4 H3)
    | (go_at_call 15; (with_reducible_and_instances (refine (HP5.out S w6 H4.out).mono ?_)); rintro e w7 ⟨rfl, H5⟩; clear HP5 H4)
    | (go_at_call 21; (with_reducible_and_instances (refine (HFr.out S w7 H5.out).mono ?_)); rintro e w8 ⟨rfl, H6⟩; clear HFr H5)
    | (go_at_call 18; (with_reducible_and_instances (refine (HTa.out S w8 H6.out).mono ?_)); rintro e w9 ⟨rfl, H7⟩; clear HTa H6))
  go_ret
  exact ⟨rfl, H7.out⟩
end Go.Proofs.YtikomnbhmmjfnaaGreat
