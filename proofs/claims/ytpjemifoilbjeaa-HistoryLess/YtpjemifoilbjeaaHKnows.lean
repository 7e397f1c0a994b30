/- num and knows of the statements of layer 20: what must come. -/
import Derived.Test.YtpjemifoilbjeaaHCheck
namespace Go.Proofs.Ytpjemifoilbjeaa
open Go.RowKit Hy
variable {w w' W : World}

theorem num20_any (x : Int) (w : World) : Calls Try.prog 11 #[.int .i64 x] w fun e w' => e = .returned (.int .i64 x) ∧ w' = w := by
  go_enter Try.func11, Try.ntmps11
  go_wp2_with fail
  go_ret
  exact ⟨rfl, rfl⟩
def kA : Hc := ⟨false, true, 0, 1, 0, [97], []⟩
def kB : Hc := ⟨true, true, 2, 3, 0, [], [[97]]⟩
def kE : Hc := ⟨true, true, 2, 3, 0, [], []⟩
def kD : Hc := ⟨false, true, 0, 1, 0, [98], []⟩
theorem two_of {α : Type} {x y : α} {l : List α} (h : l.Perm [x, y]) : l = [x, y] ∨ l = [y, x] := by
  have hl := h.length_eq
  match l, hl with
  | [u, v], _ =>
    have hu : u ∈ [x, y] := h.mem_iff.1 (by simp)
    rcases List.mem_cons.1 hu with rfl | hu
    · have := (List.perm_cons u).1 h
      have := List.perm_singleton.1 this
      injection this with this
      left; rw [this]
    · have hu : u = y := by simpa using hu
      subst hu
      have h2 : [u, v].Perm [u, x] := h.trans (List.Perm.swap _ _ _)
      have := (List.perm_cons u).1 h2
      have := List.perm_singleton.1 this
      injection this with this
      right; rw [this]
theorem right_ab : Right [kA, kB] := ⟨by decide, fun c hc => by simp at hc; rcases hc with rfl | rfl <;> decide, by decide⟩
theorem right_ae : Right [kA, kE] := ⟨by decide, fun c hc => by simp at hc; rcases hc with rfl | rfl <;> decide, by decide⟩
theorem right_ad : Right [kA, kD] := ⟨by decide, fun c hc => by simp at hc; rcases hc with rfl | rfl <;> decide, by decide⟩
theorem right_a : Right [kA] := ⟨by decide, fun c hc => by simp at hc; subst hc; decide, by decide⟩
theorem ok_ab : HOk [kA, kB] := by
  refine ⟨[kA, kB], [], by simp, fun c h => (by cases h), ?_, ⟨fun _ => rfl, rfl, trivial⟩, ?_⟩
  · intro c hc _
    have : c = kA ∨ c = kB := by simpa using hc
    rcases this with rfl | rfl <;> rfl
  · refine List.pairwise_cons.2 ⟨fun b hb => ?_, by simp⟩
    have : b = kB := by simpa using hb
    subst this
    intro _
    decide
/-- Where all is done the order holds all. -/
theorem all_done {l : List Hc} (hd : ∀ c ∈ l, c.dn = true) (h : HOk l) : ∃ ord : List Hc, ord.Perm l ∧ plays [] ord ∧ ord.Pairwise Tm := by
  obtain ⟨ord, rest, hp, hr, -, h1, h2⟩ := h
  have : rest = [] := by
    cases rest with
    | nil => rfl
    | cons c r =>
      have h3 := hr c (by simp)
      have h4 := hd c (hp.mem_iff.1 (by simp))
      rw [h3] at h4; cases h4
  subst this
  exact ⟨ord, by simpa using hp, h1, h2⟩
theorem no_ae : ¬ HOk [kA, kE] := fun h => by
  obtain ⟨ord, hp, h1, h2⟩ := all_done (fun c hc => by simp at hc; rcases hc with rfl | rfl <;> rfl) h
  rcases two_of hp with rfl | rfl
  · exact absurd h1.2.1 (by decide)
  · exact absurd ((List.pairwise_cons.1 h2).1 kA (by simp) rfl) (by decide)
theorem no_ad : ¬ HOk [kA, kD] := fun h => by
  obtain ⟨ord, hp, h1, h2⟩ := all_done (fun c hc => by simp at hc; rcases hc with rfl | rfl <;> rfl) h
  rcases two_of hp with rfl | rfl
  · exact absurd (h1.2.1 rfl) (by decide)
  · exact absurd (h1.2.1 rfl) (by decide)
/-- A slice of two calls, as it is built. -/
theorem HV.two (W : World) (x y : HcA) (hx : ArgK kS W x.1.vals x.2.ad x.2.m x.2.c) (hy : ArgK kS W y.1.vals y.2.ad y.2.m y.2.c) (sx : Small x.1) (sy : Small y.1) :
    HV kC (W.alloc (.cells #[.bool x.1.rd, .bool x.1.dn, .int .i64 x.1.bg, .int .i64 x.1.en, .int .i64 x.1.off, .string (nmS x.1.val), .slice x.2.ad x.2.m x.2.c, .bool y.1.rd, .bool y.1.dn, .int .i64 y.1.bg, .int .i64 y.1.en, .int .i64 y.1.off, .string (nmS y.1.val), .slice y.2.ad y.2.m y.2.c] 34)) [x, y] (some ⟨W.heap.size, 0, none⟩) 2 2 := by
  have hb : RowKit.Below W.heap.size W (W.alloc (.cells #[.bool x.1.rd, .bool x.1.dn, .int .i64 x.1.bg, .int .i64 x.1.en, .int .i64 x.1.off, .string (nmS x.1.val), .slice x.2.ad x.2.m x.2.c, .bool y.1.rd, .bool y.1.dn, .int .i64 y.1.bg, .int .i64 y.1.en, .int .i64 y.1.off, .string (nmS y.1.val), .slice y.2.ad y.2.m y.2.c] 34)) := (Below.refl _ _).alloc (Nat.le_refl _) _
  have hn := heap_alloc_new W (.cells #[.bool x.1.rd, .bool x.1.dn, .int .i64 x.1.bg, .int .i64 x.1.en, .int .i64 x.1.off, .string (nmS x.1.val), .slice x.2.ad x.2.m x.2.c, .bool y.1.rd, .bool y.1.dn, .int .i64 y.1.bg, .int .i64 y.1.en, .int .i64 y.1.off, .string (nmS y.1.val), .slice y.2.ad y.2.m y.2.c] 34)
  have hB : Blk (W.alloc (.cells #[.bool x.1.rd, .bool x.1.dn, .int .i64 x.1.bg, .int .i64 x.1.en, .int .i64 x.1.off, .string (nmS x.1.val), .slice x.2.ad x.2.m x.2.c, .bool y.1.rd, .bool y.1.dn, .int .i64 y.1.bg, .int .i64 y.1.en, .int .i64 y.1.off, .string (nmS y.1.val), .slice y.2.ad y.2.m y.2.c] 34)) W.heap.size _ _ := hn
  refine ⟨⟨rfl, (fun e => by cases e), Nat.le_refl _, by unfold maxLen; omega, Or.inr ⟨W.heap.size, 0, rfl, hB.lt, fun i hi c hc => ?_⟩⟩, fun i hi => ?_, fun i hi => ?_⟩
  · have h7 : kC.sz = 7 := rfl
    have hi2 : i < 2 := hi
    rcases (show i = 0 ∨ i = 1 by omega) with rfl | rfl
    · rcases (show c = 0 ∨ c = 1 ∨ c = 2 ∨ c = 3 ∨ c = 4 ∨ c = 5 ∨ c = 6 by omega) with rfl | rfl | rfl | rfl | rfl | rfl | rfl
      · exact hB.cell 0
      · exact hB.cell 1
      · exact hB.cell 2
      · exact hB.cell 3
      · exact hB.cell 4
      · exact hB.cell 5
      · exact hB.cell 6
    · rcases (show c = 0 ∨ c = 1 ∨ c = 2 ∨ c = 3 ∨ c = 4 ∨ c = 5 ∨ c = 6 by omega) with rfl | rfl | rfl | rfl | rfl | rfl | rfl
      · exact hB.cell 7
      · exact hB.cell 8
      · exact hB.cell 9
      · exact hB.cell 10
      · exact hB.cell 11
      · exact hB.cell 12
      · exact hB.cell 13
  · rcases (show i = 0 ∨ i = 1 by omega) with rfl | rfl
    · exact hx.later hb
    · exact hy.later hb
  · rcases (show i = 0 ∨ i = 1 by omega) with rfl | rfl
    · exact sx
    · exact sy
theorem small_of {c : Hc} (h1 : c.val.length ≤ 1) (h2 : ∀ v ∈ c.vals, v.length ≤ 1) : Small c := ⟨by unfold maxLen; omega, fun v hv => by have := h2 v hv; unfold maxLen; omega⟩
theorem sA : Small kA := small_of (by decide) (by decide)
theorem sB : Small kB := small_of (by decide) (by decide)
theorem sE : Small kE := small_of (by decide) (by decide)
theorem sD : Small kD := small_of (by decide) (by decide)
theorem none_arg (W : World) : ArgK kS W [] none 0 0 := ⟨rfl, fun _ => ⟨rfl, rfl⟩, Nat.le_refl _, by unfold maxLen; omega, Or.inl rfl⟩
abbrev cA : Array Value := #[.bool false, .bool true, .int .i64 0, .int .i64 1, .int .i64 0, .string ⟨#[97]⟩, .slice none 0 0]
abbrev cB (n : Nat) : Array Value := #[.bool true, .bool true, .int .i64 2, .int .i64 3, .int .i64 0, .string ⟨#[]⟩, .slice (some ⟨n, 0, none⟩) 1 1]
abbrev cE : Array Value := #[.bool true, .bool true, .int .i64 2, .int .i64 3, .int .i64 0, .string ⟨#[]⟩, .slice none 0 0]
abbrev cD : Array Value := #[.bool false, .bool true, .int .i64 0, .int .i64 1, .int .i64 0, .string ⟨#[98]⟩, .slice none 0 0]
abbrev w5 (w : World) : World := ((((w.alloc (.cells cA 34)).alloc (.cells #[.string ⟨#[97]⟩] 9)).alloc (.cells (cB (w.heap.size + 1)) 34)).alloc (.cells cE 34)).alloc (.cells cD 34)
abbrev cAB (n : Nat) : Obj := .cells #[.bool false, .bool true, .int .i64 0, .int .i64 1, .int .i64 0, .string ⟨#[97]⟩, .slice none 0 0, .bool true, .bool true, .int .i64 2, .int .i64 3, .int .i64 0, .string ⟨#[]⟩, .slice (some ⟨n, 0, none⟩) 1 1] 34
abbrev cAE : Obj := .cells #[.bool false, .bool true, .int .i64 0, .int .i64 1, .int .i64 0, .string ⟨#[97]⟩, .slice none 0 0, .bool true, .bool true, .int .i64 2, .int .i64 3, .int .i64 0, .string ⟨#[]⟩, .slice none 0 0] 34
abbrev cAD : Obj := .cells #[.bool false, .bool true, .int .i64 0, .int .i64 1, .int .i64 0, .string ⟨#[97]⟩, .slice none 0 0, .bool false, .bool true, .int .i64 0, .int .i64 1, .int .i64 0, .string ⟨#[98]⟩, .slice none 0 0] 34
theorem w5_arg (w : World) : ArgK kS (w5 w) [[97]] (some ⟨w.heap.size + 1, 0, none⟩) 1 1 := by
  have h1 : ((w.alloc (.cells cA 34)).alloc (.cells #[.string ⟨#[97]⟩] 9)).heap[w.heap.size + 1]? = some (.cells #[.string ⟨#[97]⟩] 9) := by
    have := heap_alloc_new (w.alloc (.cells cA 34)) (.cells #[.string ⟨#[97]⟩] 9)
    simpa using this
  have h2 : Below ((w.alloc (.cells cA 34)).alloc (.cells #[.string ⟨#[97]⟩] 9)).heap.size ((w.alloc (.cells cA 34)).alloc (.cells #[.string ⟨#[97]⟩] 9)) (w5 w) := (((Below.refl _ _).alloc (Nat.le_refl _) _).alloc (by simp) _).alloc (by simp) _
  have h3 : ArgK kS ((w.alloc (.cells cA 34)).alloc (.cells #[.string ⟨#[97]⟩] 9)) [[97]] (some ⟨w.heap.size + 1, 0, none⟩) 1 1 := by
    refine ⟨rfl, (fun e => by cases e), Nat.le_refl _, (by unfold maxLen; omega), Or.inr ⟨_, 0, rfl, (by simp), fun i hi c hc => ?_⟩⟩
    have : i = 0 := by simp at hi; omega
    subst this
    have : c = 0 := by have : kS.sz = 1 := rfl; omega
    subst this
    simp only [World.cell?]
    simp only [h1]; rfl
  exact h3.later h2
variable {n : Nat}
theorem k_ab (h : RowKit.Below (w5 w).heap.size (w5 w) W) (hn : n = W.heap.size) : Calls Try.prog 12 #[.slice (some ⟨n, 0, none⟩) 2 2] (W.alloc (cAB (w.heap.size + 1))) fun e w' => e = .returned (.int .i64 0) ∧ RowKit.Below (W.alloc (cAB (w.heap.size + 1))).heap.size (W.alloc (cAB (w.heap.size + 1))) w' := by
  subst hn
  have := Check_any (HV.two W (kA, sl0) (kB, ⟨some ⟨w.heap.size + 1, 0, none⟩, 1, 1⟩) (none_arg _) ((w5_arg w).later h) sA sB)
  rw [show cls [(kA, sl0), (kB, ⟨some ⟨w.heap.size + 1, 0, none⟩, 1, 1⟩)] = [kA, kB] from rfl, chkN_yes right_ab ok_ab] at this
  exact this
theorem k_ae (W : World) (hn : n = W.heap.size) : Calls Try.prog 12 #[.slice (some ⟨n, 0, none⟩) 2 2] (W.alloc cAE) fun e w' => e = .returned (.int .i64 51) ∧ RowKit.Below (W.alloc cAE).heap.size (W.alloc cAE) w' := by
  subst hn
  have := Check_any (HV.two W (kA, sl0) (kE, sl0) (none_arg _) (none_arg _) sA sE)
  rw [show cls [(kA, sl0), (kE, sl0)] = [kA, kE] from rfl, chkN_no right_ae no_ae] at this
  exact this
theorem k_ad (W : World) (hn : n = W.heap.size) : Calls Try.prog 12 #[.slice (some ⟨n, 0, none⟩) 2 2] (W.alloc cAD) fun e w' => e = .returned (.int .i64 51) ∧ RowKit.Below (W.alloc cAD).heap.size (W.alloc cAD) w' := by
  subst hn
  have := Check_any (HV.two W (kA, sl0) (kD, sl0) (none_arg _) (none_arg _) sA sD)
  rw [show cls [(kA, sl0), (kD, sl0)] = [kA, kD] from rfl, chkN_no right_ad no_ad] at this
  exact this
theorem shown_ab : shownN [kA, kB] = 1 := by decide
theorem k_sh (h : RowKit.Below (w5 w).heap.size (w5 w) W) (hn : n = W.heap.size) : Calls Try.prog 14 #[.slice (some ⟨n, 0, none⟩) 2 2] (W.alloc (cAB (w.heap.size + 1))) fun e w' => e = .returned (.int .i64 1) ∧ RowKit.Below (W.alloc (cAB (w.heap.size + 1))).heap.size (W.alloc (cAB (w.heap.size + 1))) w' := by
  subst hn
  have h1 := HV.two W (kA, sl0) (kB, ⟨some ⟨w.heap.size + 1, 0, none⟩, 1, 1⟩) (none_arg _) ((w5_arg w).later h) sA sB
  have h2 := Right_any h1
  rw [rightB_yes (show Right (cls [(kA, sl0), (kB, ⟨some ⟨w.heap.size + 1, 0, none⟩, 1, 1⟩)]) from right_ab)] at h2
  have h3 := Shown_right h1 right_ab h2
  rw [show shownN (cls [(kA, sl0), (kB, ⟨some ⟨w.heap.size + 1, 0, none⟩, 1, 1⟩)]) = 1 from shown_ab] at h3
  exact h3
theorem HV.one (W : World) : HV kC (W.alloc (.cells cA 34)) [(kA, sl0)] (some ⟨W.heap.size, 0, none⟩) 1 1 := by
  have hB : Blk (W.alloc (.cells cA 34)) W.heap.size _ _ := heap_alloc_new W (.cells cA 34)
  refine ⟨⟨rfl, (fun e => by cases e), Nat.le_refl _, by unfold maxLen; omega, Or.inr ⟨W.heap.size, 0, rfl, hB.lt, fun i hi c hc => ?_⟩⟩, fun i hi => ?_, fun i hi => ?_⟩
  · have h7 : kC.sz = 7 := rfl
    obtain rfl : i = 0 := by simp at hi; omega
    rcases (show c = 0 ∨ c = 1 ∨ c = 2 ∨ c = 3 ∨ c = 4 ∨ c = 5 ∨ c = 6 by omega) with rfl | rfl | rfl | rfl | rfl | rfl | rfl
    · exact hB.cell 0
    · exact hB.cell 1
    · exact hB.cell 2
    · exact hB.cell 3
    · exact hB.cell 4
    · exact hB.cell 5
    · exact hB.cell 6
  · obtain rfl : i = 0 := by omega
    exact none_arg _
  · obtain rfl : i = 0 := by omega
    exact sA
theorem k_ra (W : World) (hn : n = W.heap.size) : Calls Try.prog 9 #[.slice (some ⟨n, 0, none⟩) 1 1] (W.alloc (.cells cA 34)) fun e w' => e = .returned (.bool true) ∧ RowKit.Below (W.alloc (.cells cA 34)).heap.size (W.alloc (.cells cA 34)) w' := by
  subst hn
  have h2 := Right_any (HV.one W)
  rw [rightB_yes (show Right (cls [(kA, sl0)]) from right_a)] at h2
  exact h2
/-- What the walk of knows reads. -/
structure Four (w W : World) : Prop where
  a : W.heap[w.heap.size]? = some (.cells cA 34)
  b : W.heap[w.heap.size + 1 + 1]? = some (.cells (cB (w.heap.size + 1)) 34)
  e : W.heap[w.heap.size + 1 + 1 + 1]? = some (.cells cE 34)
  d : W.heap[w.heap.size + 1 + 1 + 1 + 1]? = some (.cells cD 34)
theorem four (h : RowKit.Below (w5 w).heap.size (w5 w) W) : Four w W := by
  have a0 : Blk (w.alloc (.cells cA 34)) w.heap.size cA 34 := heap_alloc_new _ _
  generalize hw1 : w.alloc (.cells cA 34) = w1 at *
  have s1 : w1.heap.size = w.heap.size + 1 := by rw [← hw1]; simp
  have hb1 : Below w1.heap.size w1 (w1.alloc (.cells #[.string ⟨#[97]⟩] 9)) := (Below.refl _ _).alloc (Nat.le_refl _) _
  generalize hw2 : w1.alloc (.cells #[.string ⟨#[97]⟩] 9) = w2 at *
  have s2 : w2.heap.size = w.heap.size + 1 + 1 := by rw [← hw2]; simp [s1]
  have b0 : Blk (w2.alloc (.cells (cB (w.heap.size + 1)) 34)) w2.heap.size (cB (w.heap.size + 1)) 34 := heap_alloc_new _ _
  have hb2 : Below w2.heap.size w2 (w2.alloc (.cells (cB (w.heap.size + 1)) 34)) := (Below.refl _ _).alloc (Nat.le_refl _) _
  generalize hw3 : w2.alloc (.cells (cB (w.heap.size + 1)) 34) = w3 at *
  have s3 : w3.heap.size = w.heap.size + 1 + 1 + 1 := by rw [← hw3]; simp [s2]
  have e0 : Blk (w3.alloc (.cells cE 34)) w3.heap.size cE 34 := heap_alloc_new _ _
  have hb3 : Below w3.heap.size w3 (w3.alloc (.cells cE 34)) := (Below.refl _ _).alloc (Nat.le_refl _) _
  generalize hw4 : w3.alloc (.cells cE 34) = w4 at *
  have s4 : w4.heap.size = w.heap.size + 1 + 1 + 1 + 1 := by rw [← hw4]; simp [s3]
  have d0 : Blk (w4.alloc (.cells cD 34)) w4.heap.size cD 34 := heap_alloc_new _ _
  have hb4 : Below w4.heap.size w4 (w4.alloc (.cells cD 34)) := (Below.refl _ _).alloc (Nat.le_refl _) _
  have hh : w5 w = w4.alloc (.cells cD 34) := by rw [← hw4, ← hw3, ← hw2, ← hw1]
  rw [hh] at h
  have a1 := (((a0.later hb1).later hb2).later hb3 |>.later hb4).later h
  have b1 := ((b0.later hb3).later hb4).later h
  have e1 := (e0.later hb4).later h
  have d1 := d0.later h
  rw [s2] at b1; rw [s3] at e1; rw [s4] at d1
  exact ⟨a1, b1, e1, d1⟩
theorem seven {B : Nat} {v0 v1 v2 v3 v4 v5 v6 : Value} {T : TypeId} (h : W.heap[B]? = some (.cells #[v0, v1, v2, v3, v4, v5, v6] T (0, 0))) : W.cell? ⟨B, 0, none⟩ = some v0 ∧ W.cell? ⟨B, 1, none⟩ = some v1 ∧ W.cell? ⟨B, 2, none⟩ = some v2 ∧ W.cell? ⟨B, 3, none⟩ = some v3 ∧ W.cell? ⟨B, 4, none⟩ = some v4 ∧ W.cell? ⟨B, 5, none⟩ = some v5 ∧ W.cell? ⟨B, 6, none⟩ = some v6 :=
  ⟨Blk.cell h 0, Blk.cell h 1, Blk.cell h 2, Blk.cell h 3, Blk.cell h 4, Blk.cell h 5, Blk.cell h 6⟩
set_option maxRecDepth 20000 in
set_option maxHeartbeats 4000000 in
theorem knows20 (w : World) : Calls Try.prog 16 #[] w fun e w' => e = .returned (.bool true) ∧ RowKit.Below w.heap.size w w' := by
  have H0 : Hid (RowKit.Below w.heap.size w (w5 w)) := hid (((((Below.refl _ w).alloc (Nat.le_refl _) _).alloc (by simp) _).alloc (by simp; omega) _).alloc (by simp; omega) _ |>.alloc (by simp; omega) _)
  have H1 := hid (k_ab (w := w) (Below.refl _ (w5 w)) (n := w.heap.size + 1 + 1 + 1 + 1 + 1) (by simp))
  go_enter Try.func16, Try.ntmps16
  go_wp2_with (first
    | (go_at_call 12; (with_reducible_and_instances (refine H1.out.mono ?_)); rintro e w1 ⟨rfl, hb1⟩; have B1 : Hid (RowKit.Below (w5 w).heap.size (w5 w) w1) := hid (((Below.refl _ (w5 w)).alloc (Nat.le_refl _) _).trans (hb1.mono (by simp))); obtain ⟨qa, qb, qe, qd⟩ := four B1.out; obtain ⟨a0, a1, a2, a3, a4, a5, a6⟩ := seven qa; obtain ⟨b0, b1, b2, b3, b4, b5, b6⟩ := seven qb; obtain ⟨e0, e1, e2, e3, e4, e5, e6⟩ := seven qe; obtain ⟨d0, d1, d2, d3, d4, d5, d6⟩ := seven qd; clear qa qb qe qd; have H2 := hid (k_ae w1 rfl); clear hb1 H1)
    | (go_at_call 12; (with_reducible_and_instances (refine H2.out.mono ?_)); rintro e w2 ⟨rfl, hb2⟩; have B2 : Hid (RowKit.Below (w5 w).heap.size (w5 w) w2) := hid (B1.out.trans ((((Below.refl _ w1).alloc (Nat.le_refl _) _).trans (hb2.mono (by simp))).mono B1.out.size)); obtain ⟨qa, qb, qe, qd⟩ := four B2.out; obtain ⟨a0, a1, a2, a3, a4, a5, a6⟩ := seven qa; obtain ⟨b0, b1, b2, b3, b4, b5, b6⟩ := seven qb; obtain ⟨e0, e1, e2, e3, e4, e5, e6⟩ := seven qe; obtain ⟨d0, d1, d2, d3, d4, d5, d6⟩ := seven qd; clear qa qb qe qd; have H3 := hid (k_ad w2 rfl); clear hb2 H2)
    | (go_at_call 12; (with_reducible_and_instances (refine H3.out.mono ?_)); rintro e w3 ⟨rfl, hb3⟩; have B3 : Hid (RowKit.Below (w5 w).heap.size (w5 w) w3) := hid (B2.out.trans ((((Below.refl _ w2).alloc (Nat.le_refl _) _).trans (hb3.mono (by simp))).mono B2.out.size)); obtain ⟨qa, qb, qe, qd⟩ := four B3.out; obtain ⟨a0, a1, a2, a3, a4, a5, a6⟩ := seven qa; obtain ⟨b0, b1, b2, b3, b4, b5, b6⟩ := seven qb; obtain ⟨e0, e1, e2, e3, e4, e5, e6⟩ := seven qe; obtain ⟨d0, d1, d2, d3, d4, d5, d6⟩ := seven qd; clear qa qb qe qd; have H4 := hid (k_sh B3.out rfl); clear hb3 H3)
    | (go_at_call 14; (with_reducible_and_instances (refine H4.out.mono ?_)); rintro e w4 ⟨rfl, hb4⟩; have B4 : Hid (RowKit.Below (w5 w).heap.size (w5 w) w4) := hid (B3.out.trans ((((Below.refl _ w3).alloc (Nat.le_refl _) _).trans (hb4.mono (by simp))).mono B3.out.size)); obtain ⟨qa, qb, qe, qd⟩ := four B4.out; obtain ⟨a0, a1, a2, a3, a4, a5, a6⟩ := seven qa; obtain ⟨b0, b1, b2, b3, b4, b5, b6⟩ := seven qb; obtain ⟨e0, e1, e2, e3, e4, e5, e6⟩ := seven qe; obtain ⟨d0, d1, d2, d3, d4, d5, d6⟩ := seven qd; clear qa qb qe qd; have H5 := hid (k_ra w4 rfl); clear hb4 H4)
    | (go_at_call 9; (with_reducible_and_instances (refine H5.out.mono ?_)); rintro e w5 ⟨rfl, hb5⟩; have B5 := hid (B4.out.trans ((((Below.refl _ w4).alloc (Nat.le_refl _) _).trans (hb5.mono (by simp))).mono B4.out.size)); clear hb5 H5)
    | (go_at_call 11; refine (num20_any _ _).mono ?_; rintro e v3 ⟨rfl, hw3⟩; obtain rfl := hw3.symm))
  go_ret
  exact ⟨rfl, H0.out.trans (B5.out.mono H0.out.size)⟩
end Go.Proofs.Ytpjemifoilbjeaa
