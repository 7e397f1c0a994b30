/- A net, and beside it a slice of what was sent: both are kept, whatever is called. -/
import Derived.Test.YtgbjlkaaniaaaaaDoorOpenOps6
import Derived.Test.YtgbjlkaaniaaaaaDoorNKnows
namespace Go.Proofs.YtgbjlkaaniaaaaaDoor
open Go.RowKit

/-- A message that was sent: whether it may still come late. -/
structure Snt where
  m : Msg
  live : Bool
abbrev TS : TypeId := 53
theorem Tryd.infoS : (Tryd.prog.info? TS).map (fun i => (i.zero, i.size, i.bytes)) = some (some (.agg #[.int .i64 0, .int .i64 0, .string ⟨#[]⟩]), 3, 32) := by kernel_rfl
def liveN (x : Snt) : Int := if x.live then 1 else 0
def sntV (x : Snt) : List Value := [.int .i64 x.m.to, .int .i64 (liveN x), .string (bstr x.m.b)]
def allV (l : List Snt) : List Value := l.flatMap sntV
theorem allV_len (l : List Snt) : (allV l).length = l.length * 3 := by
  induction l with
  | nil => rfl
  | cons a l ih => unfold allV at *; rw [List.flatMap_cons, List.length_append, ih]; simp [sntV]; omega
theorem allV_app (a b : List Snt) : allV (a ++ b) = allV a ++ allV b := by unfold allV; rw [List.flatMap_append]
theorem allV_one (l : List Snt) : ∀ u ∈ allV l, u.oneCell' = true := by
  intro u hu
  obtain ⟨m, _, h⟩ := List.mem_flatMap.1 hu
  simp [sntV] at h
  rcases h with rfl | rfl | rfl <;> rfl
theorem allV_cons (a : Snt) (l : List Snt) : allV (a :: l) = .int .i64 a.m.to :: .int .i64 (liveN a) :: .string (bstr a.m.b) :: allV l := rfl
theorem allV_get (l : List Snt) (k : Nat) (h : k < l.length) : (allV l)[k * 3]? = some (.int .i64 l[k].m.to) ∧ (allV l)[k * 3 + 1]? = some (.int .i64 (liveN l[k])) ∧ (allV l)[k * 3 + 2]? = some (.string (bstr l[k].m.b)) := by
  induction l generalizing k with
  | nil => simp at h
  | cons a l ih =>
    cases k with
    | zero => rw [allV_cons]; exact ⟨rfl, rfl, rfl⟩
    | succ k =>
      have := ih k (by simpa using h)
      rw [allV_cons, show (k + 1) * 3 = k * 3 + 1 + 1 + 1 by omega]
      simpa using this
/-- The one at k is dead from now on. -/
def kill (l : List Snt) (k : Nat) : List Snt := l.modify k (fun x => ⟨x.m, false⟩)
theorem kill_len (l : List Snt) (k : Nat) : (kill l k).length = l.length := by simp [kill]
theorem allV_kill (l : List Snt) (k : Nat) (h : k < l.length) : allV (kill l k) = (allV l).set (k * 3 + 1) (.int .i64 0) := by
  induction l generalizing k with
  | nil => simp at h
  | cons a l ih =>
    cases k with
    | zero =>
      show allV (⟨a.m, false⟩ :: l) = _
      rw [allV_cons, allV_cons]
      rfl
    | succ k =>
      have := ih k (by simpa using h)
      have e : kill (a :: l) (k + 1) = a :: kill l k := by simp [kill]
      rw [e, allV_cons, allV_cons, this, show (k + 1) * 3 + 1 = k * 3 + 1 + 1 + 1 + 1 by omega]
      rfl
/-- The messages that may still come late. -/
def lives (l : List Snt) : List Msg := (l.filter (·.live)).map (·.m)
theorem lives_cons (a : Snt) (l : List Snt) : lives (a :: l) = if a.live then a.m :: lives l else lives l := by
  unfold lives
  rw [List.filter_cons]
  split <;> rfl
theorem lives_app (a b : List Snt) : lives (a ++ b) = lives a ++ lives b := by unfold lives; rw [List.filter_append, List.map_append]
theorem lives_kill (l : List Snt) (k : Nat) (h : k < l.length) (hl : l[k].live = true) : (l[k].m :: lives (kill l k)).Perm (lives l) := by
  induction l generalizing k with
  | nil => simp at h
  | cons a l ih =>
    cases k with
    | zero =>
      have e : kill (a :: l) 0 = ⟨a.m, false⟩ :: l := rfl
      have hl2 : a.live = true := hl
      rw [e, lives_cons, lives_cons, hl2]
      exact List.Perm.refl _
    | succ k =>
      have hk : k < l.length := by simpa using h
      have := ih k hk hl
      have e : kill (a :: l) (k + 1) = a :: kill l k := by simp [kill]
      rw [e, lives_cons, lives_cons]
      show List.Perm (l[k].m :: _) _
      split
      · exact (List.Perm.swap _ _ _).trans (this.cons _)
      · exact this
theorem lives_mem {l : List Snt} {m : Msg} (h : m ∈ lives l) : ∃ (k : Nat) (hk : k < l.length), l[k].live = true ∧ l[k].m = m := by
  unfold lives at h
  obtain ⟨x, hx, rfl⟩ := List.mem_map.1 h
  rw [List.mem_filter] at hx
  obtain ⟨k, hk, rfl⟩ := List.mem_iff_getElem.1 hx.1
  exact ⟨k, hk, by simpa using hx.2, rfl⟩
variable {w w1 w' : World} {N D : Nat} {s : NSt} {v : Value} {A : List Snt} {Z : List (Nat × Array Value)}
abbrev TO : TypeId := 34
/-- The net, the slice of what was sent, and boxes of Ops. -/
def Side (w0 w : World) (D : Nat) (s : NSt) (v : Value) (A : List Snt) (Z : List (Nat × Array Value)) : Prop :=
  ∃ F, Nk w F D s ∧ (∀ g ∈ F, w0.heap.size ≤ g) ∧ OffRow w TS 3 v A.length (allV A) ∧ (∀ g, v.ownBlock = some g → w0.heap.size ≤ g ∧ g ∉ F) ∧ Below w0.heap.size w0 w ∧ ∀ z ∈ Z, Blk w z.1 z.2 TO ∧ z.1 ∉ F
variable {w0 : World}
theorem Side.below (h : Side w0 w D s v A Z) : Below w0.heap.size w0 w := by
  obtain ⟨F, _, _, _, _, h, _⟩ := h
  exact h
theorem Side.ok (h : Side w0 w D s v A Z) : s.ok := by
  obtain ⟨F, h, _⟩ := h
  exact h.ok
theorem Side.bare (h : Side w0 w D s v A Z) : Side w0 w D s v A [] := by
  obtain ⟨F, h1, h2, h3, h4, h5, h6⟩ := h
  exact ⟨F, h1, h2, h3, h4, h5, fun z hz => by cases hz⟩
theorem Side.later (h : Side w0 w D s v A Z) (hb : Below w.heap.size w w') : Side w0 w' D s v A Z := by
  obtain ⟨F, h1, h2, h3, h4, h5, h6⟩ := h
  exact ⟨F, h1.below hb, h2, h3.below hb, h4, h5.trans (hb.mono h5.size), fun z hz => ⟨(h6 z hz).1.later hb, (h6 z hz).2⟩⟩
/-- An Op in its box. -/
theorem Side.box (h : Side w0 w D s v A []) (cs : Array Value) : Side w0 (w.alloc (.cells cs TO)) D s v A [(w.heap.size, cs)] := by
  obtain ⟨F, h1, h2, h3, h4, h5, -⟩ := h
  have hb : Below w.heap.size w (w.alloc (.cells cs TO)) := (Below.refl _ w).alloc (Nat.le_refl _) _
  refine ⟨F, h1.below hb, h2, h3.below hb, h4, h5.trans (hb.mono h5.size), fun z hz => ?_⟩
  simp at hz
  subst hz
  exact ⟨heap_alloc_last w _, fun hm => by have := h1.lt _ hm; simp at this⟩
theorem Side.cellZ (h : Side w0 w D s v A Z) {x : Nat} {cs : Array Value} (hz : (x, cs) ∈ Z) (i : Nat) : w.cell? ⟨x, i, none⟩ = cs[i]? := by
  obtain ⟨F, h1, h2, h3, h4, h5, h6⟩ := h
  exact (h6 _ hz).1.cell i
theorem Side.moved {F : List Nat} {s' : NSt} (h2 : ∀ g ∈ F, w0.heap.size ≤ g) (h3 : OffRow w TS 3 v A.length (allV A)) (h4 : ∀ g, v.ownBlock = some g → w0.heap.size ≤ g ∧ g ∉ F) (h5 : Below w0.heap.size w0 w) (h6 : ∀ z ∈ Z, Blk w z.1 z.2 TO ∧ z.1 ∉ F) (hm : NMoved F D s' w w') : Side w0 w' D s' v A Z := by
  obtain ⟨F', n1, n2⟩ := hm.net
  have hno : ∀ g, g < w.heap.size → g ∉ F → g ∉ F' := fun g hg hF hF' => by
    rcases n2 g hF' with h | h
    · exact hF h
    · omega
  exact ⟨F', n1, fun g hg => (n2 g hg).elim (h2 g) (fun h => Nat.le_trans h5.size h), h3.chg hm.chg (fun g hg => (h4 g hg).2), fun g hg => ⟨(h4 g hg).1, hno g (h3.lt g hg) (h4 g hg).2⟩, h5.trans (hm.chg.below h2 h5.size), fun z hz => ⟨(h6 z hz).1.chg hm.chg (h6 z hz).2, hno _ (h6 z hz).1.lt (h6 z hz).2⟩⟩
theorem Side.luckC (h : Side w0 w D s v A Z) (ad : Option Addr) (m c : Nat) (l : List Int) (hl : l.length = m) (hf : ∀ x ∈ l, fits x) (hs : Src w ad m (l.map intV)) (hb : s.luck.length + m ≤ 17592186044416) :
    Calls Tryd.prog 11 #[.pointer (some ⟨D, 0, none⟩), .slice ad m c] w fun e w' => e = .returned (.tuple #[]) ∧ Side w0 w' D (luckD s l) v A Z := by
  obtain ⟨F, ⟨v1, v2, h1⟩, h2, h3, h4, h5, h6⟩ := h
  refine (luck_pic h1 ad m c l hl hf hs hb).mono ?_
  rintro e w' ⟨rfl, hm⟩
  exact ⟨rfl, Side.moved h2 h3 h4 h5 h6 hm⟩
theorem Side.sendC (h : Side w0 w D s v A Z) (hb : Below w.heap.size w w1) (hT : Tab w0) (to : Int) (hto : fits to) (ad : Option Addr) (len cap : Nat) (l : List Nat) (hp : Part.ok w1 ⟨ad, len, cap, l⟩) (hn0 : ∀ b off, ad = some ⟨b, off, none⟩ → w.heap.size ≤ b) (hl : s.late.length + 1 ≤ 4398046511104) :
    Calls Tryd.prog 12 #[.pointer (some ⟨D, 0, none⟩), .int .i64 to, .slice ad len cap] w1 fun e w' => e = .returned (.tuple #[.int .i64 (timesN (fateD s)), .bool (replyN (fateD s))]) ∧ Side w0 w' D (sendD s to l) v A Z := by
  obtain ⟨F, ⟨v1, v2, h1⟩, h2, h3, h4, h5, h6⟩ := h
  have h5' := h5.trans (hb.mono h5.size)
  refine (send_pic (h1.below hb) (hT.low hT.1 h5') (fun hm => by have := h2 0 hm; have := hT.1; omega) to hto ad len cap l hp (fun b off e _ hm => ?_) hl).mono ?_
  · have q1 := h1.lt b hm
    have q2 := hn0 b off e
    omega
  · rintro e w' ⟨rfl, hm⟩
    exact ⟨rfl, Side.moved h2 (h3.below hb) h4 h5' (fun z hz => ⟨(h6 z hz).1.later hb, (h6 z hz).2⟩) hm⟩
theorem Side.messageC (h : Side w0 w D s v A Z) (k : Int) : Calls Tryd.prog 13 #[.pointer (some ⟨D, 0, none⟩), .int .i64 k] w fun e w' => Tells w w' s k e ∧ Side w0 w' D s v A Z ∧ Below w.heap.size w w' := by
  have h0 := h
  obtain ⟨F, ⟨v1, v2, h1⟩, h2, h3, h4, h5, h6⟩ := h
  refine (message_pic h1 k).mono ?_
  rintro e w' ⟨he, hb⟩
  exact ⟨he, h0.later hb, hb⟩
theorem Side.takeC (h : Side w0 w D s v A Z) (k : Int) : Calls Tryd.prog 14 #[.pointer (some ⟨D, 0, none⟩), .int .i64 k] w fun e w' => Tells w w' s k e ∧ Side w0 w' D (takeD s k) v A Z := by
  obtain ⟨F, ⟨v1, v2, h1⟩, h2, h3, h4, h5, h6⟩ := h
  refine (take_pic h1 k).mono ?_
  rintro e w' ⟨he, hm⟩
  exact ⟨he, Side.moved h2 h3 h4 h5 h6 hm⟩
/-- Double leaves as it was what is no block of the net's: bytes that a call made. -/
theorem Side.doubleC (k : Int) (hb : s.late.length + 1 ≤ 4398046511104) {Q : Part} {wq : World} (hq : Q.ok w) (hq2 : ∀ b off, Q.ad = some ⟨b, off, none⟩ → wq.heap.size ≤ b) (hw : Side w0 wq D s v A Z) (hwb : Below wq.heap.size wq w) : Calls Tryd.prog 15 #[.pointer (some ⟨D, 0, none⟩), .int .i64 k] w fun e w' => e = .returned (.bool (hasD s k)) ∧ Side w0 w' D (doubleD s k) v A Z ∧ Q.ok w' := by
  obtain ⟨G, ⟨u1, u2, g1⟩, g2, g3, g4, g5, g6⟩ := hw
  have n1 := g1.below hwb
  refine (double_pic n1 k hb).mono ?_
  rintro e w' ⟨rfl, hm⟩
  refine ⟨rfl, Side.moved g2 (g3.below hwb) g4 (g5.trans (hwb.mono g5.size)) (fun z hz => ⟨(g6 z hz).1.later hwb, (g6 z hz).2⟩) hm, hq.chg hm.chg (fun b off e _ hF => ?_)⟩
  have q1 := g1.lt b hF
  have q2 := hq2 b off e
  omega
theorem Side.lateC (h : Side w0 w D s v A Z) : Calls Tryd.prog 16 #[.pointer (some ⟨D, 0, none⟩)] w fun e w' => e = .returned (.int .i64 (s.late.length : Nat)) ∧ w' = w := by
  obtain ⟨F, ⟨v1, v2, h1⟩, h2, h3, h4, h5, h6⟩ := h
  exact late_pic h1
theorem Side.form (h : Side w0 w D s v A Z) : ∃ p c, v = .slice p A.length c ∧ A.length ≤ c ∧ c ≤ maxLen := by
  obtain ⟨F, _, _, h3, _⟩ := h
  exact h3.form
theorem Side.row (h : Side w0 w D s v A Z) : OffRow w TS 3 v A.length (allV A) := by
  obtain ⟨F, _, _, h3, _⟩ := h
  exact h3
/-- One more behind what was sent. -/
theorem Side.grow (h : Side w0 w D s v A Z) (hb : Below w.heap.size w w1) {v' : Value} {x : Snt} (hr : OffRow w' TS 3 v' (A.length + 1) (allV A ++ allV [x])) (hg : w1.grownBy w' v.ownBlock) (hu : ∀ g, v'.ownBlock = some g → v.ownBlock = some g ∨ w1.heap.size ≤ g) : Side w0 w' D s v' (A ++ [x]) Z := by
  obtain ⟨F, h1, h2, h3, h4, h5, h6⟩ := h
  have n1 := h1.below hb
  have n5 := h5.trans (hb.mono h5.size)
  refine ⟨F, n1.keep (fun g hF => hg.block g (n1.lt g hF) (fun e => (h4 g e.symm).2 hF)) hg.size, h2, ?_, fun g hg' => ?_, n5.grown hg n5.size (fun k hk => (h4 k hk).1), fun z hz => ?_⟩
  · rw [allV_app, List.length_append]; exact hr
  · rcases hu g hg' with h | h
    · exact h4 g h
    · exact ⟨Nat.le_trans n5.size h, fun hF => by have := n1.lt g hF; omega⟩
  · have z1 := (h6 z hz).1.later hb
    exact ⟨(hg.block z.1 z1.lt (fun e => (h3.ne (h6 z hz).1 (by decide)) e.symm)).trans z1, (h6 z hz).2⟩
/-- The one at k killed. -/
theorem Side.killC {g o cap : Nat} {n : Nat} (h : Side w0 w D s (.slice (some ⟨g, o, none⟩) n cap) A Z) (k : Nat) (hk : k < A.length) : Side w0 (w.setCell ⟨g, o + k * 3 + 1, none⟩ (.int .i64 0)) D s (.slice (some ⟨g, o, none⟩) n cap) (kill A k) Z := by
  obtain ⟨F, h1, h2, h3, h4, h5, h6⟩ := h
  obtain ⟨q1, q2⟩ := h4 g rfl
  have hne : ∀ z ∈ Z, z.1 ≠ g := fun z hz e => h3.ne (h6 z hz).1 (by decide) (by rw [e]; rfl)
  rcases h3.2 with ⟨h, _⟩ | ⟨g', o', cap', cur, hv, hb, r1, r2, r3, r4⟩
  · cases h
  · cases hv
    refine ⟨F, h1.keep (fun x hx => Below.heap_setCell _ _ _ _ (fun e => q2 (by have e2 : x = g := e; rw [← e2]; exact hx))) (by simp [World.setCell]), h2, ⟨by rw [allV_len], Or.inr ⟨g, o, cap, _, by rw [kill_len], heap_setCell_same w g _ _ TS _ hb, by rw [kill_len]; exact r1, r2, by simpa using r3, ?_⟩⟩, h4, h5.setCell q1 _, fun z hz => ⟨(h6 z hz).1.other (hne z hz) _ _, (h6 z hz).2⟩⟩
    intro j hj
    rw [kill_len] at hj
    rw [allV_kill A k hk, List.getElem?_set, Array.getElem?_setIfInBounds]
    have hsz : A.length * 3 ≤ cap * 3 := Nat.mul_le_mul_right _ r1
    by_cases hjk : k * 3 + 1 = j
    · rw [if_pos hjk, if_pos (by omega), if_pos (by omega), if_pos (by rw [allV_len]; omega)]
    · rw [if_neg hjk, if_neg (by omega)]
      exact r4 j hj
/-- What lies at k. -/
theorem Side.cell (h : Side w0 w D s v A Z) (k : Nat) (hk : k < A.length) : ∃ g o cap, v = .slice (some ⟨g, o, none⟩) A.length cap ∧ A.length ≤ cap ∧ cap ≤ maxLen ∧ w.cell? ⟨g, o + k * 3, none⟩ = some (.int .i64 A[k].m.to) ∧ w.cell? ⟨g, o + k * 3 + 1, none⟩ = some (.int .i64 (liveN A[k])) ∧ w.cell? ⟨g, o + k * 3 + 2, none⟩ = some (.string (bstr A[k].m.b)) ∧ w.frozen? ⟨g, o + k * 3 + 1, none⟩ = false := by
  obtain ⟨F, _, _, h3, _⟩ := h
  obtain ⟨g, o, cap, cur, hv, hg, hn, hm, hs, hx, hc⟩ := h3.cells (by omega)
  obtain ⟨a1, a2, a3⟩ := allV_get A k hk
  refine ⟨g, o, cap, hv, hn, hm, ?_, ?_, ?_, by simp [World.frozen?, hg]⟩
  · rw [hc _ (by omega)]; exact a1
  · rw [Nat.add_assoc, hc _ (by omega)]; exact a2
  · rw [Nat.add_assoc, hc _ (by omega)]; exact a3
end Go.Proofs.YtgbjlkaaniaaaaaDoor
