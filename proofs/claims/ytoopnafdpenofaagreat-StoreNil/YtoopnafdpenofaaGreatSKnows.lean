/- Stores whose disk has power and no fuse: what becomes of them, and what the statements' knows must come to. -/
import Derived.Test.YtoopnafdpenofaaGreatSSealP
import Derived.Test.YtoopnafdpenofaaGreatSOpenNew
namespace Go.Proofs.YtoopnafdpenofaaGreat
open Go.RowKit Go.Shelf

def DSt.clean (d : DSt) : Prop := ∀ x ∈ d.bs, x.vs = []
theorem writes_free (xs : List (Nat × List Nat)) : ∀ (d : DSt), d.free → (∀ x ∈ xs, x.1 < d.bs.length ∧ x.2.length = 256) → (writesD d xs).1 = true ∧ (writesD d xs).2.free := by
  induction xs with
  | nil => intro d h _; exact ⟨rfl, h⟩
  | cons x r ih =>
    intro d h hx
    have h1 := hx x (by simp)
    have h2 := writeD_free h h1.1 h1.2
    simp only [writesD, h2, if_true]
    refine ih _ ⟨h.on, h.none⟩ (fun y hy => ?_)
    rw [setB_len]
    exact hx y (by simp [hy])
theorem lasts_free {d : DSt} (h : d.free) (hc : d.clean) (xs : List (Nat × List Nat)) (hx : ∀ x ∈ xs, x.1 < d.bs.length ∧ x.2.length = 256) : (lastsD d xs).1 = true ∧ (lastsD d xs).2.free ∧ (lastsD d xs).2.clean := by
  obtain ⟨h1, h2⟩ := writes_free xs d h hx
  unfold lastsD
  rw [if_pos h1]
  split
  · exact ⟨rfl, h, hc⟩
  · rw [syncD_free h2]
    refine ⟨rfl, ⟨h2.on, h2.none⟩, fun x hx => ?_⟩
    obtain ⟨y, _, rfl⟩ := List.mem_map.1 hx
    exact sync_vs y
theorem SSt.rowE_ok (s : SSt) (e : Ent) (h : s.fin + e.parts ≤ s.d.bs.length) : ∀ x ∈ s.rowE e, x.1 < s.d.bs.length ∧ x.2.length = 256 := by
  intro x hx
  obtain ⟨k, hk⟩ := List.getElem?_of_mem hx
  unfold SSt.rowE at hk
  rw [rowAt_at] at hk
  have hk2 : k < (blocksN s.num e.text).length := by
    rcases Nat.lt_or_ge k (blocksN s.num e.text).length with h1 | h1
    · exact h1
    · rw [List.getElem?_eq_none h1] at hk; cases hk
  rw [blocksN_length] at hk2
  rw [blocksN_at _ _ _ hk2] at hk
  cases hk
  have h3 : partsN e.text.length = e.parts := by rw [Ent.text_length]; rfl
  refine ⟨by show s.fin + k < _; omega, partN_length _ _ _ _ (pieceN_length _ _)⟩
theorem takeE_d (s : SSt) (e : Ent) : (s.takeE e).d = s.d := by
  unfold SSt.takeE SSt.doE SSt.fill SSt.sealL SSt.giveUp
  simp only
  split
  · split <;> rfl
  · split <;> rfl
theorem record_free {s : SSt} (h : s.d.free) (hc : s.d.clean) (e : Ent) (hr : s.fin + e.parts ≤ s.d.bs.length) : ∃ d, s.record e = (0, ({ s with d := d } : SSt).takeE e) ∧ d.free ∧ d.clean ∧ d.bs.length = s.d.bs.length := by
  obtain ⟨h1, h2, h3⟩ := lasts_free h hc (s.rowE e) (s.rowE_ok e hr)
  refine ⟨(lastsD s.d (s.rowE e)).2, ?_, h2, h3, lastsD_length _ _⟩
  unfold SSt.record
  rw [if_neg (by omega), if_pos h1]
theorem record_full {s : SSt} (e : Ent) (hr : s.d.bs.length < s.fin + e.parts) : s.record e = (7, s) := by unfold SSt.record; rw [if_pos hr]
theorem record_keeps {s : SSt} (h : s.d.free) (hc : s.d.clean) (e : Ent) : (s.record e).2.d.free ∧ (s.record e).2.d.clean := by
  by_cases hr : s.d.bs.length < s.fin + e.parts
  · rw [record_full e hr]; exact ⟨h, hc⟩
  · obtain ⟨d, h1, h2, h3, _⟩ := record_free h hc e (by omega)
    rw [h1]
    simp only [takeE_d]
    exact ⟨h2, h3⟩
theorem put_keeps {s : SSt} (h : s.d.free) (hc : s.d.clean) (l p : Int) (data : List Nat) (r : Bool) : (s.put l p data r).2.d.free ∧ (s.put l p data r).2.d.clean := by
  unfold SSt.put
  repeat' split
  all_goals first
    | exact ⟨h, hc⟩
    | exact record_keeps h hc _
theorem seal_keeps {s : SSt} (h : s.d.free) (hc : s.d.clean) (l : Int) : (s.seal l).2.d.free ∧ (s.seal l).2.d.clean := by
  unfold SSt.seal
  repeat' split
  all_goals first
    | exact ⟨h, hc⟩
    | exact record_keeps h hc _
theorem new_free (n : Nat) : (newD n).free ∧ (newD n).clean ∧ ∀ x ∈ (newD n).bs, x = b0 := by
  have h : ∀ x ∈ (newD n).bs, x = b0 := fun x hx => (List.mem_replicate.1 hx).2
  exact ⟨⟨rfl, rfl⟩, fun x hx => by rw [h x hx]; rfl, h⟩
/-- A store that can be written, all of whose blocks lie from N on. -/
def SA (N : Nat) (w : World) (S : Nat) (s : SSt) : Prop := (∃ FD G D X Y fx fy A, SPic w FD G S D X Y fx fy A s ∧ (∀ g ∈ FD, N ≤ g) ∧ (∀ g ∈ G, N ≤ g)) ∧ s.d.free ∧ s.d.clean
variable {w w' : World} {N S : Nat} {s : SSt}
theorem SA.later (h : SA N w S s) (hb : Below w.heap.size w w') : SA N w' S s := by
  obtain ⟨⟨FD, G, D, X, Y, fx, fy, A, hp, h1, h2⟩, h3⟩ := h
  exact ⟨⟨FD, G, D, X, Y, fx, fy, A, hp.below hb, h1, h2⟩, h3⟩
theorem SPost.sa {FD G : List Nat} {D X Y : Nat} {r : Int × SSt} {x : Ending} (h : SPost w FD G S D X Y r x w') (h1 : ∀ g ∈ FD, N ≤ g) (h2 : ∀ g ∈ G, N ≤ g) (hN : N ≤ w.heap.size) (hf : r.2.d.free ∧ r.2.d.clean) : x = .returned (.int .i64 r.1) ∧ SA N w' S r.2 ∧ Below N w w' := by
  obtain ⟨rfl, FD', G', fx', fy', A', hp, k1, k2, hc⟩ := h
  exact ⟨rfl, ⟨⟨FD', G', D, X, Y, fx', fy', A', hp, fun g hg => (k1 g hg).elim (h1 g) (fun h => Nat.le_trans hN h), fun g hg => (k2 g hg).elim (h2 g) (fun h => Nat.le_trans hN h)⟩, hf⟩, hc.below (fun g hg => (List.mem_append.1 hg).elim (h2 g) (h1 g)) hN⟩
theorem SA.put (h : SA N w S s) (hN : N ≤ w.heap.size) (l p : Int) (hl1 : -9223372036854775808 ≤ l) (hl2 : l ≤ 9223372036854775807) (ad : Option Addr) (len cap : Nat) (data : List Nat) (hda : Part.ok w ⟨ad, len, cap, data⟩) (hlen : len ≤ 1000000000000) (repair : Bool) :
    Calls Tryz.prog 15 #[.pointer (some ⟨S, 0, none⟩), .int .i64 l, .int .i64 p, .slice ad len cap, .bool repair] w fun x w' => x = .returned (.int .i64 (s.put l p data repair).1) ∧ SA N w' S (s.put l p data repair).2 ∧ Below N w w' := by
  obtain ⟨⟨FD, G, D, X, Y, fx, fy, A, hp, h1, h2⟩, h3, h4⟩ := h
  refine (put_pic hp l p hl1 hl2 ad len cap data hda hlen repair (fun x hx => by rw [h4 x hx]; simp)).mono ?_
  intro x w' hx
  exact hx.sa h1 h2 hN (put_keeps h3 h4 l p data repair)
theorem SA.seal (h : SA N w S s) (hN : N ≤ w.heap.size) (l : Int) (hl1 : -9223372036854775808 ≤ l) (hl2 : l ≤ 9223372036854775807) :
    Calls Tryz.prog 16 #[.pointer (some ⟨S, 0, none⟩), .int .i64 l] w fun x w' => x = .returned (.int .i64 (s.seal l).1) ∧ SA N w' S (s.seal l).2 ∧ Below N w w' := by
  obtain ⟨⟨FD, G, D, X, Y, fx, fy, A, hp, h1, h2⟩, h3, h4⟩ := h
  refine (seal_pic hp l hl1 hl2 (fun x hx => by rw [h4 x hx]; simp)).mono ?_
  intro x w' hx
  exact hx.sa h1 h2 hN (seal_keeps h3 h4 l)
theorem SA.freeC (h : SA N w S s) : Calls Tryz.prog 21 #[.pointer (some ⟨S, 0, none⟩)] w fun x w' => x = .returned (.int .i64 ((s.d.bs.length : Int) - (s.fin : Int))) ∧ Below w.heap.size w w' := by
  obtain ⟨⟨FD, G, D, X, Y, fx, fy, A, hp, h1, h2⟩, h3, h4⟩ := h
  refine (free_pic hp).mono ?_
  rintro x w' ⟨rfl, m, rfl⟩
  exact ⟨rfl, below_drewN' (Below.refl _ _) m⟩
theorem SA.tailC (h : SA N w S s) (i : Int) (h1 : -9223372036854775808 ≤ i) (h2 : i ≤ 9223372036854775807) : Calls Tryz.prog 18 #[.pointer (some ⟨S, 0, none⟩), .int .i64 i] w fun x w' => x = .returned (.int .i64 ((s.look i).tail : Nat)) ∧ Below w.heap.size w w' := by
  obtain ⟨⟨FD, G, D, X, Y, fx, fy, A, hp, _, _⟩, h3, h4⟩ := h
  exact tail_pic hp i h1 h2
theorem SA.open {D : Nat} {FD : List Nat} {n : Nat} (hd : Dk w FD D (newD n)) (hF : ∀ g ∈ FD, N ≤ g) (hN : N ≤ w.heap.size) : Calls Tryz.prog 12 #[.pointer (some ⟨D, 0, none⟩)] w fun x w' => ∃ S, x = .returned (.tuple #[.pointer (some ⟨S, 0, none⟩), .int .i64 0]) ∧ SA N w' S (sst0 (newD n)) ∧ Below N w w' := by
  obtain ⟨f1, f2, f3⟩ := new_free n
  refine (open_new hd f1.on f3).mono ?_
  rintro x w' ⟨S, rfl, FD', G, X, Y, fx, fy, A, hp, k1, k2, hc⟩
  exact ⟨S, rfl, ⟨⟨FD', G, D, X, Y, fx, fy, A, hp, fun g hg => (k1 g hg).elim (hF g) (fun h => Nat.le_trans hN h), fun g hg => Nat.le_trans hN (k2 g hg)⟩, f1, f2⟩, hc.below hF hN⟩
end Go.Proofs.YtoopnafdpenofaaGreat

/- What the statements' knows must come to, over plain data. -/
namespace Go.Proofs.YtoopnafdpenofaaGreat
open Go.RowKit Go.Shelf

theorem knowsM : ∃ s1 s2 s3 : SSt, (sst0 (newD 8)).put 1 0 [97] false = (0, s1) ∧ s1.put 1 0 [98] false = (31, s1) ∧ s1.seal 1 = (0, s2) ∧ s2.put 1 1 [99] false = (30, s2) ∧ s2.put 1 1 [99] true = (0, s3) ∧ (s3.d.bs.length : Int) - (s3.fin : Int) = 5 ∧ (s3.look 1).tail = 2 := by
  obtain ⟨f0, c0, _⟩ := new_free 8
  have n8 : (newD 8).bs.length = 8 := List.length_replicate
  obtain ⟨d1, r1, f1, c1, l1⟩ := record_free (s := sst0 (newD 8)) f0 c0 ⟨1, 1, 0, [97]⟩ (by show 0 + partsN 14 ≤ (newD 8).bs.length; rw [n8]; decide)
  have e1 : ({ sst0 (newD 8) with d := d1 } : SSt).takeE ⟨1, 1, 0, [97]⟩ = ⟨d1, fun i q => if i = 1 ∧ q = 0 then some [97] else none, fun j => if j = 1 then some ⟨1, 0, false⟩ else none, 1, 1, false⟩ := by
    simp [SSt.takeE, SSt.doE, SSt.fill, sst0, SSt.log, l0, SSt.setLog, SSt.setSlot, Ent.parts, partsN]
  rw [e1] at r1
  have l1' : d1.bs.length = 8 := by rw [l1]; exact n8
  obtain ⟨d2, r2, f2, c2, l2⟩ := record_free (s := ⟨d1, fun i q => if i = 1 ∧ q = 0 then some [97] else none, fun j => if j = 1 then some ⟨1, 0, false⟩ else none, 1, 1, false⟩) f1 c1 ⟨2, 1, 0, []⟩ (by show 1 + partsN 13 ≤ d1.bs.length; rw [l1']; decide)
  have e2 : ({ d := d2, slots := fun i q => if i = 1 ∧ q = 0 then some [97] else none, logs := fun j => if j = 1 then some ⟨1, 0, false⟩ else none, num := 1, fin := 1, fallen := false } : SSt).takeE ⟨2, 1, 0, []⟩ = ⟨d2, fun i q => if i = 1 ∧ q = 0 then some [97] else none, fun j => if j = 1 then some ⟨1, 0, true⟩ else none, 2, 2, false⟩ := by
    simp [SSt.takeE, SSt.doE, SSt.sealL, SSt.log, SSt.setLog, Ent.parts, partsN]
    funext j
    split <;> rfl
  have r2' : (⟨d1, fun i q => if i = 1 ∧ q = 0 then some [97] else none, fun j => if j = 1 then some ⟨1, 0, false⟩ else none, 1, 1, false⟩ : SSt).record ⟨2, 1, 0, []⟩ = (0, ⟨d2, fun i q => if i = 1 ∧ q = 0 then some [97] else none, fun j => if j = 1 then some ⟨1, 0, true⟩ else none, 2, 2, false⟩) := by rw [← e2]; exact r2
  have l2' : d2.bs.length = 8 := by rw [l2]; exact l1'
  obtain ⟨d3, r3, f3, c3, l3⟩ := record_free (s := ⟨d2, fun i q => if i = 1 ∧ q = 0 then some [97] else none, fun j => if j = 1 then some ⟨1, 0, true⟩ else none, 2, 2, false⟩) f2 c2 ⟨1, 1, 1, [99]⟩ (by show 2 + partsN 14 ≤ d2.bs.length; rw [l2']; decide)
  have l3' : d3.bs.length = 8 := by rw [l3]; exact l2'
  refine ⟨⟨d1, fun i q => if i = 1 ∧ q = 0 then some [97] else none, fun j => if j = 1 then some ⟨1, 0, false⟩ else none, 1, 1, false⟩, ⟨d2, fun i q => if i = 1 ∧ q = 0 then some [97] else none, fun j => if j = 1 then some ⟨1, 0, true⟩ else none, 2, 2, false⟩, ({ d := d3, slots := fun i q => if i = 1 ∧ q = 0 then some [97] else none, logs := fun j => if j = 1 then some ⟨1, 0, true⟩ else none, num := 2, fin := 2, fallen := false } : SSt).takeE ⟨1, 1, 1, [99]⟩, ?_, ?_, ?_, ?_, ?_, ?_, ?_⟩
  · rw [← r1]
    simp [SSt.put, isLogletN, isPlaceN, SSt.down, sst0, SSt.log, l0, newD]
  · simp [SSt.put, isLogletN, isPlaceN, SSt.down, SSt.log, f1.on]
  · rw [← r2']
    simp [SSt.seal, isLogletN, SSt.down, SSt.log, f1.on]
  · simp [SSt.put, isLogletN, isPlaceN, SSt.down, SSt.log, f2.on]
  · rw [← r3]
    simp [SSt.put, isLogletN, isPlaceN, SSt.down, SSt.log, f2.on]
  · rw [takeE_d]
    show (d3.bs.length : Int) - _ = 5
    rw [l3']
    rfl
  · simp [SSt.takeE, SSt.doE, SSt.fill, SSt.look, SSt.log, SSt.setLog, SSt.setSlot]
end Go.Proofs.YtoopnafdpenofaaGreat

/- knows of the statements of layer 4. -/
namespace Go.Proofs.YtoopnafdpenofaaGreat
open Go.RowKit Go.Shelf

set_option maxRecDepth 100000 in
theorem num4_any (n : Int) (w : World) : Calls Tryz.prog 13 #[.int .i64 n] w fun e w' => e = .returned (.int .i64 n) ∧ w' = w := by
  go_enter Tryz.func13, Tryz.ntmps13
  go_wp2
  go_ret
  exact ⟨rfl, rfl⟩
/-- The world behind '[]byte("x")': a new byte, whose row's end is marked. -/
def litW (W : World) (v : Value) : World := (W.alloc (.cells #[v] 5)).freeze ⟨W.heap.size, 1, none⟩ 1
theorem lit_conv (W : World) (v : Value) : (convert 28 28 (.slice (some ⟨W.heap.size, 0, none⟩) 1 1)).run Tryz.prog (W.alloc (.cells #[v] 5)) = .ok (.slice (some ⟨W.heap.size, 0, none⟩) 1 1) (litW W v) := by
  have h1 : (W.alloc (.cells #[v] 5)).shape? W.heap.size = some (5, 1) := by
    unfold World.shape?
    rw [heap_alloc_last]
    rfl
  simp [convert, markStringish, run_underlying Tryz.underlying28, run_underlying Tryz.underlying5, Result.andThen, h1, litW]
theorem litW_heap (W : World) (v : Value) : (litW W v).heap.size = W.heap.size + 1 ∧ (∃ fr, (litW W v).heap[W.heap.size]? = some (.cells #[v] 5 fr)) ∧ Below W.heap.size W (litW W v) := by
  have hs : (litW W v).heap = (W.alloc (.cells #[v] 5)).heap.modify W.heap.size (fun
      | .cells c elem (lo, hi) => .cells c elem (if lo == hi then (1, 1 + 1) else (min lo 1, max hi (1 + 1)))
      | o => o) := rfl
  have h1 : (litW W v).heap.size = W.heap.size + 1 := by rw [hs, Array.size_modify]; simp
  refine ⟨h1, ⟨(1, 2), ?_⟩, rfl, rfl, rfl, by omega, fun k hk => ?_⟩
  · rw [hs, Array.getElem?_modify, if_pos rfl, heap_alloc_last]
    rfl
  · rw [hs, Array.getElem?_modify, if_neg (by omega)]
    exact Below.heap_alloc W _ k hk
theorem lit_ok (W : World) (x : Nat) (z : Int) (hz : z = x) (hx : x < 256) : Part.ok (litW W (.int .u8 z)) ⟨some ⟨W.heap.size, 0, none⟩, 1, 1, [x]⟩ := by
  subst hz
  obtain ⟨h1, ⟨fr, h2⟩, -⟩ := litW_heap W (.int .u8 (x : Int))
  refine ⟨rfl, fun e => (by cases e), fun y hy => by simp at hy; omega, Or.inr ⟨W.heap.size, 0, rfl, by omega, fun i hi => ?_⟩⟩
  have hi0 : i = 0 := by simpa using hi
  subst hi0
  exact cell_of_row _ _ _ _ _ _ h2
set_option maxRecDepth 100000 in
set_option maxHeartbeats 1000000 in
theorem knows4 (w : World) : Calls Tryz.prog 9 #[] w fun e w' => e = .returned (.bool true) ∧ Below w.heap.size w w' := by
  obtain ⟨s1, s2, s3, p1, p2, p3, p4, p5, p6, p7⟩ := knowsM
  have hnew := new_ok 8 w (by omega) (by omega)
  have HOp : Hid (∀ (w1 : World) (F : List Nat) (D : Nat), Dk w1 F D (newD (8 : Int).toNat) → (∀ g ∈ F, w.heap.size ≤ g) → Below w.heap.size w w1 → Calls Tryz.prog 12 #[.pointer (some ⟨D, 0, none⟩)] w1 fun x w2 => ∃ S, x = .returned (.tuple #[.pointer (some ⟨S, 0, none⟩), .int .i64 0]) ∧ Hid (SA w.heap.size w2 S (sst0 (newD 8)) ∧ Below w.heap.size w w2)) := fun w1 F D hd hF hb => by
    refine (SA.open hd hF hb.size).mono ?_
    rintro x w2 ⟨S, rfl, h1, h2⟩
    exact ⟨S, rfl, h1, hb.trans h2⟩
  have HPut : Hid (∀ (S : Nat) (s t : SSt) (z p : Int) (x : Nat) (q : Int) (r : Bool), q = x → x < 256 → s.put 1 p [x] r = (z, t) → ∀ W, (SA w.heap.size W S s ∧ Below w.heap.size w W) → Calls Tryz.prog 15 #[.pointer (some ⟨S, 0, none⟩), .int .i64 1, .int .i64 p, .slice (some ⟨W.heap.size, 0, none⟩) 1 1, .bool r] (litW W (.int .u8 q)) fun e W' => e = .returned (.int .i64 z) ∧ Hid (SA w.heap.size W' S t ∧ Below w.heap.size w W')) := fun S s t z p x q r hq hx hpt W ⟨h1, h2⟩ => by
    have hb : Below W.heap.size W (litW W (.int .u8 q)) := (litW_heap W _).2.2
    have hb2 := h2.trans (hb.mono h2.size)
    refine ((h1.later hb).put hb2.size 1 p (by omega) (by omega) _ 1 1 [x] (lit_ok W x q hq hx) (by omega) r).mono ?_
    rintro e W' ⟨rfl, h3, h4⟩
    rw [hpt] at h3 ⊢
    exact ⟨rfl, h3, hb2.trans h4⟩
  have HP1 := hide (fun S => HPut.out S _ s1 0 0 97 97 false rfl (by omega) p1)
  have HP2 := hide (fun S => HPut.out S _ s1 31 0 98 98 false rfl (by omega) p2)
  have HP4 := hide (fun S => HPut.out S _ s2 30 1 99 99 false rfl (by omega) p4)
  have HP5 := hide (fun S => HPut.out S _ s3 0 1 99 99 true rfl (by omega) p5)
  have HSe : Hid (∀ (S : Nat) W, (SA w.heap.size W S s1 ∧ Below w.heap.size w W) → Calls Tryz.prog 16 #[.pointer (some ⟨S, 0, none⟩), .int .i64 1] W fun e W' => e = .returned (.int .i64 0) ∧ Hid (SA w.heap.size W' S s2 ∧ Below w.heap.size w W')) := fun S W ⟨h1, h2⟩ => by
    refine (h1.seal h2.size 1 (by omega) (by omega)).mono ?_
    rintro e W' ⟨rfl, h3, h4⟩
    rw [p3] at h3 ⊢
    exact ⟨rfl, h3, h2.trans h4⟩
  have HFr : Hid (∀ (S : Nat) W, (SA w.heap.size W S s3 ∧ Below w.heap.size w W) → Calls Tryz.prog 21 #[.pointer (some ⟨S, 0, none⟩)] W fun e W' => e = .returned (.int .i64 5) ∧ Hid (SA w.heap.size W' S s3 ∧ Below w.heap.size w W')) := fun S W ⟨h1, h2⟩ => by
    refine h1.freeC.mono ?_
    rintro e W' ⟨rfl, h4⟩
    rw [p6]
    exact ⟨rfl, h1.later h4, h2.trans (h4.mono h2.size)⟩
  have HTa : Hid (∀ (S : Nat) W, (SA w.heap.size W S s3 ∧ Below w.heap.size w W) → Calls Tryz.prog 18 #[.pointer (some ⟨S, 0, none⟩), .int .i64 1] W fun e W' => e = .returned (.int .i64 2) ∧ Hid (Below w.heap.size w W')) := fun S W ⟨h1, h2⟩ => by
    refine (h1.tailC 1 (by omega) (by omega)).mono ?_
    rintro e W' ⟨rfl, h4⟩
    rw [p7]
    exact ⟨rfl, h2.trans (h4.mono h2.size)⟩
  clear p1 p2 p3 p4 p5 p6 p7 HPut
  have hcv := lit_conv
  go_enter Tryz.func9, Tryz.ntmps9
  go_wp2_with (first
    | (go_at_call 23; refine hnew.mono ?_; rintro e w1 ⟨F, D, rfl, hd, hF, hb⟩; have HO := hide (HOp.out w1 F D hd hF hb); clear hd hF hb hnew)
    | (go_at_call 12; (with_reducible_and_instances (refine HO.out.mono ?_)); rintro e w2 ⟨S, rfl, H0⟩; clear HO HOp)
    | (go_at_call 13; refine (num4_any _ _).mono ?_; rintro e w' ⟨rfl, hw'⟩; obtain rfl := hw'.symm)
    | (go_at_call 15; (with_reducible_and_instances (refine (HP1.out S w2 H0.out).mono ?_)); rintro e w3 ⟨rfl, H1⟩; clear HP1 H0)
    | (go_at_call 15; (with_reducible_and_instances (refine (HP2.out S w3 H1.out).mono ?_)); rintro e w4 ⟨rfl, H2⟩; clear HP2 H1)
    | (go_at_call 16; (with_reducible_and_instances (refine (HSe.out S w4 H2.out).mono ?_)); rintro e w5 ⟨rfl, H3⟩; clear HSe H2)
    | (go_at_call 15; (with_reducible_and_instances (refine (HP4.out S w5 H3.out).mono ?_)); rintro e w6 ⟨rfl, H4⟩; clear HP4 H3)
    | (go_at_call 15; (with_reducible_and_instances (refine (HP5.out S w6 H4.out).mono ?_)); rintro e w7 ⟨rfl, H5⟩; clear HP5 H4)
    | (go_at_call 21; (with_reducible_and_instances (refine (HFr.out S w7 H5.out).mono ?_)); rintro e w8 ⟨rfl, H6⟩; clear HFr H5)
    | (go_at_call 18; (with_reducible_and_instances (refine (HTa.out S w8 H6.out).mono ?_)); rintro e w9 ⟨rfl, H7⟩; clear HTa H6))
  go_ret
  exact ⟨rfl, H7.out⟩
end Go.Proofs.YtoopnafdpenofaaGreat
