/- Chapter 3 as functions over plain lists: a disk's blocks, its power, its fuse (P302 to P305), and what follows of them (P306 to P308). -/
import Derived.Test.YtikomnbhmmjfnaaGreatFoot
namespace Go.Proofs.YtikomnbhmmjfnaaGreat
open Go.RowKit

/-- A block: its durable text (none: unreadable), its versions. -/
structure DBlock where
  dur : Option (List Nat)
  vs : List (List Nat)
/-- A disk: its blocks, whether the power is gone, its fuse (below 0: none). -/
structure DSt where
  bs : List DBlock
  off : Bool
  fuse : Int
def zeros : List Nat := List.replicate 256 0
def fullN (c : Nat) : List Nat := List.replicate 256 c
def b0 : DBlock := ⟨some zeros, []⟩
def newD (n : Nat) : DSt := ⟨List.replicate n b0, false, -1⟩
/-- May an operation be done, and the disk behind it. -/
def opD (s : DSt) : Bool × DSt :=
  if s.off then (false, s)
  else if s.fuse = 0 then (false, ⟨s.bs, true, -1⟩)
  else if 0 < s.fuse then (true, ⟨s.bs, false, s.fuse - 1⟩)
  else (true, s)
def DBlock.add (x : DBlock) (b : List Nat) : DBlock := ⟨x.dur, x.vs ++ [b]⟩
def DSt.setB (s : DSt) (i : Nat) (x : DBlock) : DSt := ⟨s.bs.set i x, s.off, s.fuse⟩
def DSt.at (s : DSt) (i : Nat) : DBlock := s.bs.getD i b0
def DSt.has (s : DSt) (i : Int) : Bool := decide (0 ≤ i) && decide (i < s.bs.length)
/-- P303, Write. -/
def writeD (s : DSt) (i : Int) (b : List Nat) : Int × DSt :=
  if s.has i && b.length == 256 then
    (if (opD s).1 then (0, (opD s).2.setB i.toNat (((opD s).2.at i.toNat).add b)) else (8, (opD s).2))
  else (1, s)
def DBlock.sync (x : DBlock) : DBlock := if x.vs = [] then x else ⟨x.vs.getLast?, []⟩
/-- P303, Sync. -/
def syncD (s : DSt) : Int × DSt :=
  if (opD s).1 then (0, ⟨(opD s).2.bs.map DBlock.sync, (opD s).2.off, (opD s).2.fuse⟩) else (8, (opD s).2)
/-- P303, Cut. -/
def cutD (s : DSt) (n : Int) : DSt := if s.off then s else ⟨s.bs, false, if n < 0 then -1 else n⟩
/-- The present text. -/
def DBlock.now (x : DBlock) : Option (List Nat) := if x.vs = [] then x.dur else x.vs.getLast?
/-- P304, Read. -/
def readD (s : DSt) (i : Int) : List Nat × Int :=
  if s.has i then
    (if s.off then ([], 8) else match (s.at i.toNat).now with
      | some t => (t, 0)
      | none => ([], 22))
  else ([], 1)
def dirtyBs : List DBlock → Nat
  | [] => 0
  | x :: xs => (if x.vs = [] then 0 else 1) + dirtyBs xs
def dirtyD (s : DSt) : Nat := dirtyBs s.bs
def DBlock.crash (x : DBlock) (c : Int) : DBlock :=
  if c = 0 then ⟨x.dur, []⟩ else if 0 < c ∧ c ≤ x.vs.length then ⟨some (x.vs.getD (c.toNat - 1) []), []⟩ else ⟨none, []⟩
def crashBs : List DBlock → List Int → List DBlock
  | [], _ => []
  | x :: xs, cs => if x.vs = [] then x :: crashBs xs cs else x.crash (cs.headD 0) :: crashBs xs cs.tail
/-- P305. -/
def crashD (s : DSt) (cs : List Int) : DSt := ⟨crashBs s.bs cs, false, -1⟩
/-- Texts are of 256 bytes; a fuse is -1 or more; no power: no fuse. -/
structure DSt.ok (s : DSt) : Prop where
  dur : ∀ x ∈ s.bs, ∀ t, x.dur = some t → t.length = 256 ∧ ∀ y ∈ t, y < 256
  vs : ∀ x ∈ s.bs, ∀ t ∈ x.vs, t.length = 256 ∧ ∀ y ∈ t, y < 256
  fuse : -1 ≤ s.fuse
theorem zeros_ok : zeros.length = 256 ∧ ∀ y ∈ zeros, y < 256 := ⟨List.length_replicate, fun y hy => by rw [zeros, List.mem_replicate] at hy; omega⟩
theorem fullN_ok (c : Nat) (h : c < 256) : (fullN c).length = 256 ∧ ∀ y ∈ fullN c, y < 256 := ⟨List.length_replicate, fun y hy => by rw [fullN, List.mem_replicate] at hy; omega⟩
theorem newD_ok (n : Nat) : (newD n).ok := by
  refine ⟨?_, ?_, by simp [newD]⟩
  · intro x hx t ht
    rw [newD, List.mem_replicate] at hx
    rw [hx.2] at ht
    cases ht
    exact zeros_ok
  · intro x hx t ht
    rw [newD, List.mem_replicate] at hx
    rw [hx.2] at ht
    cases ht
theorem opD_bs (s : DSt) : (opD s).2.bs = s.bs := by
  unfold opD
  split
  · rfl
  · split
    · rfl
    · split <;> rfl
theorem opD_ok {s : DSt} (h : s.ok) : (opD s).2.ok := by
  refine ⟨by rw [opD_bs]; exact h.1, by rw [opD_bs]; exact h.2, ?_⟩
  have := h.fuse
  unfold opD
  split
  · exact h.fuse
  · split
    · simp
    · split
      · simp; omega
      · exact h.fuse
theorem mem_set {α : Type} {l : List α} {i : Nat} {a x : α} (h : x ∈ l.set i a) : x = a ∨ x ∈ l := by
  rcases List.mem_or_eq_of_mem_set h with h | h
  · exact Or.inr h
  · exact Or.inl h
theorem at_mem {s : DSt} {i : Nat} (h : i < s.bs.length) : s.at i ∈ s.bs := by
  rw [DSt.at, List.getD_eq_getElem?_getD, List.getElem?_eq_getElem h]; exact List.getElem_mem h
theorem has_lt {s : DSt} {i : Int} (h : s.has i = true) : 0 ≤ i ∧ i.toNat < s.bs.length := by
  simp only [DSt.has, Bool.and_eq_true, decide_eq_true_eq] at h; omega
theorem writeD_ok {s : DSt} (h : s.ok) (i : Int) (b : List Nat) (hb : ∀ y ∈ b, y < 256) : (writeD s i b).2.ok := by
  unfold writeD
  split
  · rename_i hc
    simp only [Bool.and_eq_true, beq_iff_eq] at hc
    have ho := opD_ok h
    split
    · have hl : i.toNat < (opD s).2.bs.length := by rw [opD_bs]; exact (has_lt hc.1).2
      refine ⟨?_, ?_, ho.fuse⟩
      · intro x hx t ht
        rcases mem_set hx with rfl | hx
        · exact ho.dur _ (at_mem hl) t ht
        · exact ho.dur x hx t ht
      · intro x hx t ht
        rcases mem_set hx with rfl | hx
        · rw [DBlock.add, List.mem_append] at ht
          rcases ht with ht | ht
          · exact ho.vs _ (at_mem hl) t ht
          · simp at ht; rw [ht]; exact ⟨hc.2, hb⟩
        · exact ho.vs x hx t ht
    · exact ho
  · exact h
theorem getLast_mem {l : List (List Nat)} {t : List Nat} (h : l.getLast? = some t) : t ∈ l := List.mem_of_getLast? h
theorem syncD_ok {s : DSt} (h : s.ok) : (syncD s).2.ok := by
  have ho := opD_ok h
  unfold syncD
  split
  · refine ⟨?_, ?_, ho.fuse⟩
    · intro x hx t ht
      obtain ⟨y, hy, rfl⟩ := List.mem_map.1 hx
      unfold DBlock.sync at ht
      split at ht
      · exact ho.dur y hy t ht
      · exact ho.vs y hy t (getLast_mem ht)
    · intro x hx t ht
      obtain ⟨y, hy, rfl⟩ := List.mem_map.1 hx
      unfold DBlock.sync at ht
      split at ht
      · rename_i h0; rw [h0] at ht; cases ht
      · cases ht
  · exact ho
theorem cutD_ok {s : DSt} (h : s.ok) (n : Int) : (cutD s n).ok := by
  unfold cutD
  split
  · exact h
  · exact ⟨h.1, h.2, by simp only; split <;> omega⟩
theorem crash_ok {x : DBlock} (c : Int) (h1 : ∀ t, x.dur = some t → t.length = 256 ∧ ∀ y ∈ t, y < 256) (h2 : ∀ t ∈ x.vs, t.length = 256 ∧ ∀ y ∈ t, y < 256) :
    (∀ t, (x.crash c).dur = some t → t.length = 256 ∧ ∀ y ∈ t, y < 256) ∧ (x.crash c).vs = [] := by
  unfold DBlock.crash
  split
  · exact ⟨h1, rfl⟩
  · split
    · rename_i hc
      refine ⟨fun t ht => ?_, rfl⟩
      cases ht
      rw [List.getD_eq_getElem?_getD, List.getElem?_eq_getElem (by omega)]
      exact h2 _ (List.getElem_mem _)
    · exact ⟨fun t ht => (by cases ht), rfl⟩
theorem crashBs_mem (bs : List DBlock) : ∀ (cs : List Int), ∀ x ∈ crashBs bs cs, x ∈ bs ∨ ∃ y ∈ bs, ∃ c, x = y.crash c := by
  induction bs with
  | nil => intro cs x hx; cases hx
  | cons b bs ih =>
    intro cs x hx
    rw [crashBs] at hx
    split at hx
    · rcases List.mem_cons.1 hx with rfl | hx
      · exact Or.inl (by simp)
      · rcases ih cs x hx with h | ⟨y, hy, c, hc⟩
        · exact Or.inl (by simp [h])
        · exact Or.inr ⟨y, by simp [hy], c, hc⟩
    · rcases List.mem_cons.1 hx with rfl | hx
      · exact Or.inr ⟨b, by simp, _, rfl⟩
      · rcases ih cs.tail x hx with h | ⟨y, hy, c, hc⟩
        · exact Or.inl (by simp [h])
        · exact Or.inr ⟨y, by simp [hy], c, hc⟩
theorem crashD_ok {s : DSt} (h : s.ok) (cs : List Int) : (crashD s cs).ok := by
  refine ⟨?_, ?_, by simp [crashD]⟩
  · intro x hx t ht
    rcases crashBs_mem _ _ x hx with h1 | ⟨y, hy, c, rfl⟩
    · exact h.dur x h1 t ht
    · exact (crash_ok c (h.dur y hy) (h.vs y hy)).1 t ht
  · intro x hx t ht
    rcases crashBs_mem _ _ x hx with h1 | ⟨y, hy, c, rfl⟩
    · exact h.vs x h1 t ht
    · rw [(crash_ok c (h.dur y hy) (h.vs y hy)).2] at ht; cases ht
theorem crashBs_length (bs : List DBlock) : ∀ cs : List Int, (crashBs bs cs).length = bs.length := by
  induction bs with
  | nil => intro cs; rfl
  | cons b bs ih =>
    intro cs
    rw [crashBs]
    split <;> simp [ih]
/-- P308: behind a Crash nothing is dirty. -/
theorem crashBs_clean (bs : List DBlock) : ∀ cs : List Int, ∀ x ∈ crashBs bs cs, x.vs = [] := by
  induction bs with
  | nil => intro cs x hx; cases hx
  | cons b bs ih =>
    intro cs x hx
    rw [crashBs] at hx
    split at hx
    · rename_i h0
      rcases List.mem_cons.1 hx with rfl | hx
      · exact h0
      · exact ih cs x hx
    · rcases List.mem_cons.1 hx with rfl | hx
      · unfold DBlock.crash; split
        · rfl
        · split <;> rfl
      · exact ih _ x hx
theorem crashBs_id (bs : List DBlock) (h : ∀ x ∈ bs, x.vs = []) : ∀ cs : List Int, crashBs bs cs = bs := by
  induction bs with
  | nil => intro cs; rfl
  | cons b bs ih =>
    intro cs
    rw [crashBs, if_pos (h b (by simp)), ih (fun x hx => h x (by simp [hx]))]
/-- P308: a second Crash changes nothing. -/
theorem crash_twice (s : DSt) (cs ds : List Int) : crashD (crashD s cs) ds = crashD s cs := by
  unfold crashD
  rw [crashBs_id _ (crashBs_clean _ _)]
theorem dirty_zero (bs : List DBlock) (h : ∀ x ∈ bs, x.vs = []) : dirtyBs bs = 0 := by
  induction bs with
  | nil => rfl
  | cons b bs ih => rw [dirtyBs, if_pos (h b (by simp)), ih (fun x hx => h x (by simp [hx]))]
theorem crash_dirty (s : DSt) (cs : List Int) : dirtyD (crashD s cs) = 0 := dirty_zero _ (crashBs_clean _ _)
/-- A block that is not dirty stays as it is. -/
theorem crashBs_at (bs : List DBlock) : ∀ (cs : List Int) (i : Nat), (bs.getD i b0).vs = [] → (crashBs bs cs).getD i b0 = bs.getD i b0 := by
  induction bs with
  | nil => intro cs i _; rfl
  | cons b bs ih =>
    intro cs i h
    rw [crashBs]
    cases i with
    | zero =>
      simp at h
      rw [if_pos h]; simp
    | succ i =>
      simp at h
      split
      · simpa using ih cs i (by simpa using h)
      · simpa using ih cs.tail i (by simpa using h)
theorem opD_has (s : DSt) (i : Int) : (opD s).2.has i = s.has i := by unfold DSt.has; rw [opD_bs]
theorem opD_at (s : DSt) (i : Nat) : (opD s).2.at i = s.at i := by unfold DSt.at; rw [opD_bs]
theorem writeD_length (s : DSt) (i : Int) (b : List Nat) : (writeD s i b).2.bs.length = s.bs.length := by
  unfold writeD
  split
  · split
    · simp [DSt.setB, opD_bs]
    · rw [opD_bs]
  · rfl
theorem syncD_length (s : DSt) : (syncD s).2.bs.length = s.bs.length := by
  unfold syncD
  split
  · simp [opD_bs]
  · rw [opD_bs]
/-- With power and no fuse. -/
structure DSt.free (s : DSt) : Prop where
  on : s.off = false
  none : s.fuse = -1
theorem opD_free {s : DSt} (h : s.free) : opD s = (true, s) := by
  unfold opD
  rw [h.on, h.none]
  simp
theorem writeD_free {s : DSt} (h : s.free) {i : Nat} (hi : i < s.bs.length) {b : List Nat} (hb : b.length = 256) : writeD s i b = (0, s.setB i ((s.at i).add b)) := by
  unfold writeD
  rw [opD_free h]
  have h1 : s.has (i : Nat) = true := by simp [DSt.has]; omega
  rw [h1, hb]
  simp
theorem syncD_free {s : DSt} (h : s.free) : syncD s = (0, ⟨s.bs.map DBlock.sync, s.off, s.fuse⟩) := by
  unfold syncD
  rw [opD_free h]
  simp
theorem setB_at (s : DSt) (i j : Nat) (x : DBlock) (hi : i < s.bs.length) : (s.setB i x).at j = if j = i then x else s.at j := by
  unfold DSt.setB DSt.at
  simp only
  rw [List.getD_eq_getElem?_getD, List.getD_eq_getElem?_getD, List.getElem?_set]
  by_cases h : j = i
  · subst h; simp [hi]
  · rw [if_neg (fun e => h e.symm), if_neg h]
theorem sync_at (s : DSt) (j : Nat) : (⟨s.bs.map DBlock.sync, s.off, s.fuse⟩ : DSt).at j = (s.at j).sync := by
  unfold DSt.at
  simp only
  rw [List.getD_eq_getElem?_getD, List.getD_eq_getElem?_getD, List.getElem?_map]
  cases s.bs[j]? with
  | none => rfl
  | some x => rfl
theorem sync_now (x : DBlock) : x.sync.now = x.now := by
  unfold DBlock.sync DBlock.now
  by_cases h : x.vs = []
  · simp [h]
  · simp [h]
theorem sync_vs (x : DBlock) : x.sync.vs = [] := by
  unfold DBlock.sync
  split
  · assumption
  · rfl
theorem add_now (x : DBlock) (b : List Nat) : (x.add b).now = some b := by
  unfold DBlock.add DBlock.now
  simp
theorem readD_free {s : DSt} (h : s.off = false) {i : Nat} (hi : i < s.bs.length) {t : List Nat} (ht : (s.at i).now = some t) : readD s i = (t, 0) := by
  unfold readD
  have h1 : s.has (i : Nat) = true := by simp [DSt.has]; omega
  rw [h1, h]
  simp [ht]
end Go.Proofs.YtikomnbhmmjfnaaGreat
