/- New, Status, and the statements' num, Own and states (by genface16.py). -/
import Derived.Test.YteogogmmnijagaaTApply
import Derived.Test.YteogogmmnijagaaTTodos
import Derived.BigQuiet
namespace Go.Proofs.Yteogogmmnijagaa
open Go.RowKit
variable {w w' : World} {F : List Nat} {g M N : Nat} {v : Value} {Z : List (Pr × Sl)} {B : Bk}

def bk0 : Bk := ⟨[], fun _ => none⟩
theorem bk0_ok : BkOk bk0 := ⟨by simp [bk0], fun nm i h => by simp [bk0] at h, fun p hp => by simp [bk0] at hp⟩
/-- A book that a caller made: all of it lies from N on. -/
def BOf (N : Nat) (w : World) (g : Nat) (B : Bk) : Prop := ∃ F, BAt w F g B ∧ ∀ b ∈ F, N ≤ b
theorem BOf.later (h : BOf N w g B) (hb : Below w.heap.size w w') : BOf N w' g B := by
  obtain ⟨F, h1, h2⟩ := h
  exact ⟨F, h1.later hb, h2⟩
theorem BOf.ok (h : BOf N w g B) : BkOk B := by obtain ⟨F, h1, -⟩ := h; exact h1.2.1
theorem BOf.at (h : BOf N w g B) : ∃ F M v Z, BP w F g M v Z B := by obtain ⟨F, ⟨⟨M, v, Z, h1⟩, -, -⟩, -⟩ := h; exact ⟨F, M, v, Z, h1⟩
theorem BOf.apply (h : BOf N w g B) (hN : N ≤ w.heap.size) (x : Ev) : Calls Try.prog 8 #[.pointer (some ⟨g, 0, none⟩), .agg (evA x)] w fun e w' => e = .returned (.int .i64 (B.dec x).2) ∧ BOf N w' g (B.app x) ∧ Below N w w' := by
  obtain ⟨F, h1, h2⟩ := h
  refine (h1.apply x).mono ?_
  rintro e w' ⟨rfl, F', h3, h4, h5⟩
  exact ⟨rfl, ⟨F', h3, fun b hb => (h5 b hb).elim (h2 b) (fun h => Nat.le_trans hN h)⟩, h4.below (fun k hk => h2 k hk) hN⟩
theorem BOf.decide (h : BOf N w g B) (x : Ev) : Calls Try.prog 6 #[.pointer (some ⟨g, 0, none⟩), .agg (evA x)] w fun e w' => e = .returned (.tuple #[.bool (B.dec x).1, .int .i64 (B.dec x).2]) ∧ Below w.heap.size w w' := by
  obtain ⟨F, h1, -⟩ := h
  exact h1.decide x
theorem BOf.todo (h : BOf N w g B) : Calls Try.prog 12 #[.pointer (some ⟨g, 0, none⟩)] w fun e w' => ∃ u, e = .returned u ∧ OwnK kTd w' w.heap.size u B.todo ∧ Below w.heap.size w w' := by
  obtain ⟨F, ⟨⟨M, v, Z, h1⟩, hB, -⟩, -⟩ := h
  exact Todo_any h1 hB
set_option maxRecDepth 100000 in
theorem New_any (w : World) : Calls Try.prog 4 #[] w fun e w' => ∃ g, e = .returned (.pointer (some ⟨g, 0, none⟩)) ∧ BOf w.heap.size w' g bk0 ∧ Below w.heap.size w w' := by
  obtain ⟨W2, hW2⟩ : ∃ W2, (w.alloc (.map #[] 0)).alloc (.cells #[.slice none 0 0, .map (some w.heap.size)] TBk) = W2 := ⟨_, rfl⟩
  have b1 : Below w.heap.size w (w.alloc (.map #[] 0)) := (Below.refl _ w).alloc (Nat.le_refl _) _
  have b2 : Below w.heap.size w W2 := by rw [← hW2]; exact b1.alloc b1.size _
  have z2 : W2.heap.size = w.heap.size + 2 := by rw [← hW2]; simp
  have m2 : W2.heap[w.heap.size]? = some (.map #[] 0) := by rw [← hW2]; exact (Below.heap_alloc _ _ _ (by simp)).trans (World.alloc_heap_new w _)
  have x2 : Blk W2 (w.heap.size + 1) #[.slice none 0 0, .map (some w.heap.size)] TBk := by
    have h := heap_alloc_new (w.alloc (.map #[] 0)) (.cells #[.slice none 0 0, .map (some w.heap.size)] TBk)
    rw [World.size_alloc] at h
    rw [← hW2]
    exact h
  have HFin : Hid (BOf w.heap.size W2 (w.heap.size + 1) bk0) := by
    refine ⟨[w.heap.size, w.heap.size + 1], ⟨⟨w.heap.size, .slice none 0 0, [], ⟨x2, ?_, OwnK.nil _ _, rfl, fun i z h => by simp at h, fun i j z y b h => by simp at h, by simp, by simp, (fun b hb => by cases hb), fun i z b h => by simp at h⟩⟩, bk0_ok, fun b hb => by simp at hb; omega⟩, fun b hb => by simp at hb; omega⟩
    exact (MapF.empty m2).congr (fun kl => by unfold numF bk0; split <;> rfl)
  have HB := hid b2
  have hmm : ∀ (t : TypeId) (w : World), (Instr.makeMap t none).run Try.prog w = .ok (.map (some w.heap.size)) (w.alloc (.map #[] 0)) := fun t w => run_makeMap _ w
  clear b1 b2 z2 m2 x2
  go_enter Try.func4, Try.ntmps4
  go_wp2_with fail
  go_ret
  exact ⟨_, rfl, HFin.out, HB.out⟩
/-- What Status tells. -/
def Bk.stA (B : Bk) (n : Int) : Int := if 0 ≤ n ∧ n < B.ps.length then (B.at n.toNat).st else 0
def Bk.epA (B : Bk) (n : Int) : Int := if 0 ≤ n ∧ n < B.ps.length then (B.at n.toNat).ep else 0
def Bk.isA (B : Bk) (n : Int) : Bool := decide (0 ≤ n ∧ n < B.ps.length)
theorem stA_at (B : Bk) (k : Nat) : B.stA (k : Int) = (B.at k).st ∧ B.epA (k : Int) = (B.at k).ep ∧ B.isA (k : Int) = decide (k < B.ps.length) := by
  unfold Bk.stA Bk.epA Bk.isA
  by_cases h : k < B.ps.length
  · rw [if_pos (by omega), if_pos (by omega), Int.toNat_natCast, decide_eq_true h, decide_eq_true (by omega)]; exact ⟨rfl, rfl, rfl⟩
  · rw [if_neg (by omega), if_neg (by omega), at_len (by omega), decide_eq_false h, decide_eq_false (by omega)]; exact ⟨rfl, rfl, rfl⟩
set_option maxRecDepth 100000 in
theorem Status_any (h : BP w F g M v Z B) (n : Int) : Calls Try.prog 14 #[.pointer (some ⟨g, 0, none⟩), .int .i64 n] w fun e w' => e = .returned (.tuple #[.int .i64 (B.stA n), .int .i64 (B.epA n), .bool (B.isA n)]) ∧ Below w.heap.size w w' := by
  unfold Bk.stA Bk.epA Bk.isA
  by_cases hn : 0 ≤ n ∧ n < B.ps.length
  · rw [if_pos hn, if_pos hn, decide_eq_true hn]
    obtain ⟨i, rfl⟩ : ∃ i : Nat, n = i := ⟨n.toNat, by omega⟩
    have hi : i < B.ps.length := by omega
    obtain ⟨pb, c, rfl, -⟩ := h.form (Nat.lt_of_le_of_lt (Nat.zero_le _) hi)
    obtain ⟨s, hs, -, -⟩ := h.get hi
    obtain ⟨-, c1, c2, -, -, -⟩ := h.cells hi hs
    have HA := hid (at_in h hi)
    rw [Int.toNat_natCast]
    clear h hs hn
    generalize (B.at i).st = st at *
    generalize (B.at i).ep = ep at *
    unfold Ptr at HA
    generalize i * 5 = o at *
    go_enter Try.func14, Try.ntmps14
    go_wp2_with (go_at_call 23; refine HA.out.mono ?_; rintro e w1 ⟨rfl, hw1⟩; obtain rfl := hw1.symm)
    go_quiet (fail)
    go_wp2_with fail
    refine bodyPost_ret (results_tmp3 Try.results14 _ _ _) rfl ⟨rfl, below_drewN' (Below.refl _ _) _⟩
  · rw [if_neg hn, if_neg hn, decide_eq_false hn]
    have HA := hid (at_out h n hn)
    clear h hn
    go_enter Try.func14, Try.ntmps14
    go_wp2_with (go_at_call 23; refine HA.out.mono ?_; rintro e w1 ⟨rfl, hw1⟩; obtain rfl := hw1.symm)
    refine bodyPost_ret (results_tmp3 Try.results14 _ _ _) rfl ⟨rfl, Below.refl _ _⟩
theorem BOf.status (h : BOf N w g B) (n : Int) : Calls Try.prog 14 #[.pointer (some ⟨g, 0, none⟩), .int .i64 n] w fun e w' => e = .returned (.tuple #[.int .i64 (B.stA n), .int .i64 (B.epA n), .bool (B.isA n)]) ∧ Below w.heap.size w w' := by
  obtain ⟨F, M, v, Z, h1⟩ := h.at
  exact Status_any h1 n
theorem num16_any (n : Int) (w : World) : Calls Try.prog 9 #[.int .i64 n] w fun e w' => e = .returned (.int .i64 n) ∧ w' = w := by
  go_enter Try.func9, Try.ntmps9
  go_wp2_with fail
  go_ret
  exact ⟨rfl, rfl⟩
theorem own16_any (x : Ev) (w : World) : Calls Try.prog 7 #[.agg (evA x)] w fun r w' => r = .returned (.agg (evA x)) ∧ Below w.heap.size w w' := by
  obtain ⟨k, s, a, b, c, d, e, q⟩ := x
  show Calls Try.prog 7 #[.agg #[.int .i64 k, .string (nmS s), .int .i64 a, .int .i64 b, .int .i64 c, .int .i64 d, .int .i64 e, .bool q]] w fun r w' => r = .returned (.agg #[.int .i64 k, .string (nmS s), .int .i64 a, .int .i64 b, .int .i64 c, .int .i64 d, .int .i64 e, .bool q]) ∧ Below w.heap.size w w'
  generalize nmS s = t
  go_enter Try.func7, Try.ntmps7
  go_wp2_with fail
  refine bodyPost_ret (v := .agg #[.int .i64 k, .string t, .int .i64 a, .int .i64 b, .int .i64 c, .int .i64 d, .int .i64 e, .bool q]) (by simp [results, Try.results7, go_sem]) rfl ⟨rfl, ?_⟩
  exact ((Below.refl _ w).alloc (Nat.le_refl _) _).alloc (by simp) _
/-! ### states: of the first six -/
abbrev TSs : TypeId := 44
def stL (B : Bk) : List Value := [.int .i64 (B.at 0).st, .int .i64 (B.at 0).ep, .bool (decide (0 < B.ps.length)), .int .i64 (B.at 1).st, .int .i64 (B.at 1).ep, .bool (decide (1 < B.ps.length)), .int .i64 (B.at 2).st, .int .i64 (B.at 2).ep, .bool (decide (2 < B.ps.length)), .int .i64 (B.at 3).st, .int .i64 (B.at 3).ep, .bool (decide (3 < B.ps.length)), .int .i64 (B.at 4).st, .int .i64 (B.at 4).ep, .bool (decide (4 < B.ps.length)), .int .i64 (B.at 5).st, .int .i64 (B.at 5).ep, .bool (decide (5 < B.ps.length))]
theorem stL_len (B : Bk) : (stL B).length = 18 := rfl
theorem lt6 {k : Nat} (h : k < 6) : k = 0 ∨ k = 1 ∨ k = 2 ∨ k = 3 ∨ k = 4 ∨ k = 5 := by omega
theorem stL_get (B : Bk) {k : Nat} (h : k < 6) : (stL B)[k * 3]? = some (.int .i64 (B.at k).st) ∧ (stL B)[k * 3 + 1]? = some (.int .i64 (B.at k).ep) ∧ (stL B)[k * 3 + 2]? = some (.bool (decide (k < B.ps.length))) := by
  rcases lt6 h with rfl | rfl | rfl | rfl | rfl | rfl <;> exact ⟨rfl, rfl, rfl⟩
theorem stL_one (B : Bk) : ∀ v ∈ stL B, v.oneCell' = true := by
  intro v hv
  simp only [stL, List.mem_cons, List.not_mem_nil, or_false] at hv
  rcases hv with rfl | rfl | rfl | rfl | rfl | rfl | rfl | rfl | rfl | rfl | rfl | rfl | rfl | rfl | rfl | rfl | rfl | rfl <;> rfl
theorem stL_size : (Try.prog.info? TSs).map (·.size) = some 18 := by kernel_rfl
/-- How far the loop is: the first k are told. -/
def StI (W : World) (b : Nat) (B : Bk) (k : Nat) : Prop := ∃ cur : Array Value, Blk W b cur TSs ∧ cur.size = 18 ∧ ∀ c, c < k * 3 → cur[c]? = (stL B)[c]?
theorem StI.later {b k : Nat} {W W' : World} (h : StI W b B k) (hb : Below W.heap.size W W') : StI W' b B k := by
  obtain ⟨cur, h1, h2, h3⟩ := h
  exact ⟨cur, h1.later hb, h2, h3⟩
theorem set3_get (cur : Array Value) (j : Nat) (hj : j + 3 ≤ cur.size) (x y z : Value) (c : Nat) : (((cur.setIfInBounds j x).setIfInBounds (j + 1) y).setIfInBounds (j + 2) z)[c]? = if c = j then some x else if c = j + 1 then some y else if c = j + 2 then some z else cur[c]? := by
  simp only [Array.getElem?_setIfInBounds, Array.size_setIfInBounds]
  by_cases h1 : c = j
  · subst h1; rw [if_neg (by omega), if_neg (by omega), if_pos rfl, if_pos (by omega), if_pos rfl]
  · by_cases h2 : c = j + 1
    · subst h2; rw [if_neg (by omega), if_pos rfl, if_pos (by omega), if_neg h1, if_pos rfl]
    · by_cases h3 : c = j + 2
      · subst h3; rw [if_pos rfl, if_pos (by omega), if_neg h1, if_neg h2, if_pos rfl]
      · rw [if_neg (fun e => h3 e.symm), if_neg (fun e => h2 e.symm), if_neg (fun e => h1 e.symm), if_neg h1, if_neg h2, if_neg h3]
theorem StI.step {b k : Nat} {W : World} (h : StI W b B k) (hk : k < 6) : StI (((W.setCell ⟨b, k * 3, none⟩ (.int .i64 (B.at k).st)).setCell ⟨b, k * 3 + 1, none⟩ (.int .i64 (B.at k).ep)).setCell ⟨b, k * 3 + 2, none⟩ (.bool (decide (k < B.ps.length)))) b B (k + 1) := by
  obtain ⟨cur, h1, h2, h3⟩ := h
  obtain ⟨g0, g1, g2⟩ := stL_get B hk
  refine ⟨_, ((h1.set _ _).set _ _).set _ _, by simp [h2], fun c hc => ?_⟩
  rw [set3_get cur (k * 3) (by omega)]
  by_cases e0 : c = k * 3
  · subst e0; rw [if_pos rfl, g0]
  · by_cases e1 : c = k * 3 + 1
    · subst e1; rw [if_neg e0, if_pos rfl, g1]
    · by_cases e2 : c = k * 3 + 2
      · subst e2; rw [if_neg e0, if_neg e1, if_pos rfl, g2]
      · rw [if_neg e0, if_neg e1, if_neg e2]; exact h3 c (by omega)
theorem StI.cells {b k : Nat} {W : World} (h : StI W b B k) (hk : k < 6) : (∃ u, W.cell? ⟨b, k * 3, none⟩ = some u) ∧ (∃ u, W.cell? ⟨b, k * 3 + 1, none⟩ = some u) ∧ (∃ u, W.cell? ⟨b, k * 3 + 2, none⟩ = some u) ∧ ∀ j, W.frozen? ⟨b, j, none⟩ = false := by
  obtain ⟨cur, h1, h2, -⟩ := h
  refine ⟨⟨_, (h1.cell _).trans (Array.getElem?_eq_getElem (by omega))⟩, ⟨_, (h1.cell _).trans (Array.getElem?_eq_getElem (by omega))⟩, ⟨_, (h1.cell _).trans (Array.getElem?_eq_getElem (by omega))⟩, fun j => h1.free j⟩
theorem StI.all {b : Nat} {W : World} (h : StI W b B 6) : Blk W b (stL B).toArray TSs := by
  obtain ⟨cur, h1, h2, h3⟩ := h
  have e : cur = (stL B).toArray := by
    refine Array.ext (by rw [h2]; rfl) (fun c hc1 hc2 => ?_)
    have := h3 c (by omega)
    rw [Array.getElem?_eq_getElem hc1, ← List.getElem?_toArray, Array.getElem?_eq_getElem hc2] at this
    exact Option.some.inj this
  rw [← e]
  exact h1
set_option maxRecDepth 100000 in
set_option maxHeartbeats 1000000 in
theorem states_any (h : BOf N w g B) : Calls Try.prog 13 #[.pointer (some ⟨g, 0, none⟩)] w fun e w' => e = .returned (.agg (stL B).toArray) ∧ Below w.heap.size w w' := by
  have HS : Hid (∀ W (n : Nat), Below w.heap.size w W → Calls Try.prog 14 #[.pointer (some ⟨g, 0, none⟩), .int .i64 (n : Int)] W fun e w' => e = .returned (.tuple #[.int .i64 (B.at n).st, .int .i64 (B.at n).ep, .bool (decide (n < B.ps.length))]) ∧ Below W.heap.size W w') := fun W n hW => by
    have h1 := (h.later hW).status (n : Int)
    obtain ⟨e1, e2, e3⟩ := stA_at B n
    rw [e1, e2, e3] at h1
    exact h1
  clear h
  have hz : Hid (StI ((w.alloc (.cells #[.int .i64 0, .int .i64 0, .bool false, .int .i64 0, .int .i64 0, .bool false, .int .i64 0, .int .i64 0, .bool false, .int .i64 0, .int .i64 0, .bool false, .int .i64 0, .int .i64 0, .bool false, .int .i64 0, .int .i64 0, .bool false] TSs)).alloc (.cells #[.int .i64 0, .int .i64 0, .bool false, .int .i64 0, .int .i64 0, .bool false, .int .i64 0, .int .i64 0, .bool false, .int .i64 0, .int .i64 0, .bool false, .int .i64 0, .int .i64 0, .bool false, .int .i64 0, .int .i64 0, .bool false] TSs)) (w.heap.size + 1) B 0 ∧ Blk ((w.alloc (.cells #[.int .i64 0, .int .i64 0, .bool false, .int .i64 0, .int .i64 0, .bool false, .int .i64 0, .int .i64 0, .bool false, .int .i64 0, .int .i64 0, .bool false, .int .i64 0, .int .i64 0, .bool false, .int .i64 0, .int .i64 0, .bool false] TSs)).alloc (.cells #[.int .i64 0, .int .i64 0, .bool false, .int .i64 0, .int .i64 0, .bool false, .int .i64 0, .int .i64 0, .bool false, .int .i64 0, .int .i64 0, .bool false, .int .i64 0, .int .i64 0, .bool false, .int .i64 0, .int .i64 0, .bool false] TSs)) w.heap.size #[.int .i64 0, .int .i64 0, .bool false, .int .i64 0, .int .i64 0, .bool false, .int .i64 0, .int .i64 0, .bool false, .int .i64 0, .int .i64 0, .bool false, .int .i64 0, .int .i64 0, .bool false, .int .i64 0, .int .i64 0, .bool false] TSs) := by
    have h1 := heap_alloc_new (w.alloc (.cells #[.int .i64 0, .int .i64 0, .bool false, .int .i64 0, .int .i64 0, .bool false, .int .i64 0, .int .i64 0, .bool false, .int .i64 0, .int .i64 0, .bool false, .int .i64 0, .int .i64 0, .bool false, .int .i64 0, .int .i64 0, .bool false] TSs)) (.cells #[.int .i64 0, .int .i64 0, .bool false, .int .i64 0, .int .i64 0, .bool false, .int .i64 0, .int .i64 0, .bool false, .int .i64 0, .int .i64 0, .bool false, .int .i64 0, .int .i64 0, .bool false, .int .i64 0, .int .i64 0, .bool false] TSs)
    rw [World.size_alloc] at h1
    exact ⟨⟨_, h1, rfl, fun c hc => absurd hc (by omega)⟩, Blk.al (Blk.new w _ _) _⟩
  have hb0 : Hid (Below w.heap.size w ((w.alloc (.cells #[.int .i64 0, .int .i64 0, .bool false, .int .i64 0, .int .i64 0, .bool false, .int .i64 0, .int .i64 0, .bool false, .int .i64 0, .int .i64 0, .bool false, .int .i64 0, .int .i64 0, .bool false, .int .i64 0, .int .i64 0, .bool false] TSs)).alloc (.cells #[.int .i64 0, .int .i64 0, .bool false, .int .i64 0, .int .i64 0, .bool false, .int .i64 0, .int .i64 0, .bool false, .int .i64 0, .int .i64 0, .bool false, .int .i64 0, .int .i64 0, .bool false, .int .i64 0, .int .i64 0, .bool false] TSs))) := ((Below.refl _ _).alloc (Nat.le_refl _) _).alloc (by simp) _
  go_enter Try.func13, Try.ntmps13
  go_wp2_with fail
  go_loopw [4] (fun i wr => ∃ k : Nat, k ≤ 6 ∧ i = .int .i64 (k : Int) ∧ Hid (StI wr (w.heap.size + 1) B k) ∧ Hid (Blk wr w.heap.size #[.int .i64 0, .int .i64 0, .bool false, .int .i64 0, .int .i64 0, .bool false, .int .i64 0, .int .i64 0, .bool false, .int .i64 0, .int .i64 0, .bool false, .int .i64 0, .int .i64 0, .bool false, .int .i64 0, .int .i64 0, .bool false] TSs) ∧ Hid (Below w.heap.size w wr)) (fun i _ => 6 - (intOf i).toNat)
  case atStart => exact ⟨0, by omega, rfl, hz.out.1, hz.out.2, hb0⟩
  case round =>
    obtain ⟨k, hk, rfl, HI, HZ, HB⟩ := hrel
    clear hz hb0
    by_cases hk6 : k < 6
    · have HSk := hid (HS.out wr k HB.out)
      have HSt : Hid (∀ W, Below wr.heap.size wr W → StI (((W.setCell ⟨w.heap.size + 1, k * 3, none⟩ (.int .i64 (B.at k).st)).setCell ⟨w.heap.size + 1, k * 3 + 1, none⟩ (.int .i64 (B.at k).ep)).setCell ⟨w.heap.size + 1, k * 3 + 2, none⟩ (.bool (decide (k < B.ps.length)))) (w.heap.size + 1) B (k + 1) ∧ Blk (((W.setCell ⟨w.heap.size + 1, k * 3, none⟩ (.int .i64 (B.at k).st)).setCell ⟨w.heap.size + 1, k * 3 + 1, none⟩ (.int .i64 (B.at k).ep)).setCell ⟨w.heap.size + 1, k * 3 + 2, none⟩ (.bool (decide (k < B.ps.length)))) w.heap.size #[.int .i64 0, .int .i64 0, .bool false, .int .i64 0, .int .i64 0, .bool false, .int .i64 0, .int .i64 0, .bool false, .int .i64 0, .int .i64 0, .bool false, .int .i64 0, .int .i64 0, .bool false, .int .i64 0, .int .i64 0, .bool false] TSs ∧ Below w.heap.size w (((W.setCell ⟨w.heap.size + 1, k * 3, none⟩ (.int .i64 (B.at k).st)).setCell ⟨w.heap.size + 1, k * 3 + 1, none⟩ (.int .i64 (B.at k).ep)).setCell ⟨w.heap.size + 1, k * 3 + 2, none⟩ (.bool (decide (k < B.ps.length))))) := fun W hW =>
        ⟨(HI.out.later hW).step hk6, (((HZ.out.later hW).other (by omega) _ _).other (by omega) _ _).other (by omega) _ _, (((HB.out.trans (hW.mono HB.out.size)).setCell (p := ⟨w.heap.size + 1, k * 3, none⟩) (Nat.le_succ _) _).setCell (p := ⟨w.heap.size + 1, k * 3 + 1, none⟩) (Nat.le_succ _) _).setCell (p := ⟨w.heap.size + 1, k * 3 + 2, none⟩) (Nat.le_succ _) _⟩
      have HCe : Hid (∀ W, Below wr.heap.size wr W → _) := fun W hW => (HI.out.later hW).cells hk6
      clear HS
      generalize (B.at k).st = s0 at *
      generalize (B.at k).ep = e0 at *
      generalize decide (k < B.ps.length) = i0 at *
      go_wp2_with (go_at_call 14; (with_reducible_and_instances (refine HSk.out.mono ?_)); rintro r w2 ⟨rfl, hb2⟩; obtain ⟨⟨u0, q0⟩, ⟨u1, q1⟩, ⟨u2, q2⟩, fz⟩ := HCe.out w2 hb2; have f0 := fz (k * 3); have f1 := fz (k * 3 + 1); have f2 := fz (k * 3 + 2); have HX := hid (HSt.out w2 hb2); clear hb2 fz)
      exact ⟨⟨k + 1, by omega, by go_num, hid HX.out.1, hid HX.out.2.1, hid HX.out.2.2⟩, by simp [intOf]; omega⟩
    · obtain rfl : k = 6 := by omega
      have HA := hid HI.out.all
      have HR : Hid (Blk (wr.setRow w.heap.size (stL B).toArray) w.heap.size (stL B).toArray TSs) := setRow_heap wr _ _ _ _ _ HZ.out
      have HB2 : Hid (Below w.heap.size w (wr.setRow w.heap.size (stL B).toArray)) := below_setRow HB.out (Nat.le_refl _) _
      have ha : ∀ j, j < (stL B).length → wr.cell? ⟨w.heap.size + 1, 0 + j, none⟩ = (stL B)[j]? := fun j _ => by rw [Nat.zero_add, HA.out.cell j, List.getElem?_toArray]
      have HCl := hid ha
      have HSl := hid (stL_len B)
      have hrow : ((#[.int .i64 0, .int .i64 0, .bool false, .int .i64 0, .int .i64 0, .bool false, .int .i64 0, .int .i64 0, .bool false, .int .i64 0, .int .i64 0, .bool false, .int .i64 0, .int .i64 0, .bool false, .int .i64 0, .int .i64 0, .bool false] : Array Value).toList.take 0 ++ stL B ++ (#[.int .i64 0, .int .i64 0, .bool false, .int .i64 0, .int .i64 0, .bool false, .int .i64 0, .int .i64 0, .bool false, .int .i64 0, .int .i64 0, .bool false, .int .i64 0, .int .i64 0, .bool false, .int .i64 0, .int .i64 0, .bool false] : Array Value).toList.drop (0 + (stL B).length)).toArray = (stL B).toArray := rfl
      have HRw := hid hrow
      have HOne := hid (stL_one B)
      clear HS HI ha hrow
      generalize hL : stL B = L at *
      have HLe := hid hL
      clear hL
      go_wp2_with (first
        | (refine load_wide rfl TSs (.tmp 3) rfl _ Try.underlying44 rfl L (by rw [HSl.out]; exact stL_size) (w.heap.size + 1) 0 rfl HCl.out ?_)
        | (refine store_wide rfl TSs (.tmp 2) (.tmp 25) rfl L (by rw [HSl.out]; exact stL_size) w.heap.size 0 rfl rfl TSs _ HZ.out (by rw [HSl.out]; decide) HOne.out ?_; rw [HRw.out]))
      refine bodyPost_ret (results_cell_row Try.results13 _ _ w.heap.size TSs _ (0, 0) _ rfl HR.out Try.underlying44 rfl (by rw [stL_size]; exact congrArg some HSl.out.symm)) rfl ⟨by rw [HLe.out], HB2.out⟩
end Go.Proofs.Yteogogmmnijagaa
