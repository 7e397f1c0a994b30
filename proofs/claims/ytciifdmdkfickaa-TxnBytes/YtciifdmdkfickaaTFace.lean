/- New, Status, and the statements' num, Own (cut out of wip/txn/TFace: a seat without states). -/
import Derived.Test.YtciifdmdkfickaaTApply
import Derived.Test.YtciifdmdkfickaaTTodos
import Derived.BigQuiet
namespace Go.Proofs.Ytciifdmdkfickaa
open Go.RowKit
variable {w w' : World} {F : List Nat} {g M N : Nat} {v : Value} {Z : List (Pr × Sl)} {B : Bk}

def bk0 : Bk := ⟨[], fun _ => none⟩
theorem bk0_ok : BkOk bk0 := ⟨by simp [bk0], fun nm i h => by simp [bk0] at h, fun p hp => by simp [bk0] at hp⟩
/-- A book that a caller made: all of it lies from N on. -/
def BOf (N : Nat) (w : World) (g : Nat) (B : Bk) : Prop := ∃ F, BAt w F g B ∧ ∀ b ∈ F, N ≤ b
theorem BOf.later (h : BOf N w g B) (hb : Below w.heap.size w w') : BOf N w' g B := by
  obtain ⟨F, h1, h2⟩ := h
  exact ⟨F, h1.later hb, h2⟩
theorem BOf.ok (h : BOf N w g B) : BkOk B := by obtain ⟨F, h1, -⟩ := h; exact h1.2.1
theorem BOf.at (h : BOf N w g B) : ∃ F M v Z, BP w F g M v Z B := by obtain ⟨F, ⟨⟨M, v, Z, h1⟩, -, -⟩, -⟩ := h; exact ⟨F, M, v, Z, h1⟩
theorem BOf.apply (h : BOf N w g B) (hN : N ≤ w.heap.size) (x : Ev) : Calls Try.prog 24 #[.pointer (some ⟨g, 0, none⟩), .agg (evA x)] w fun e w' => e = .returned (.int .i64 (B.dec x).2) ∧ BOf N w' g (B.app x) ∧ Below N w w' := by
  obtain ⟨F, h1, h2⟩ := h
  refine (h1.apply x).mono ?_
  rintro e w' ⟨rfl, F', h3, h4, h5⟩
  exact ⟨rfl, ⟨F', h3, fun b hb => (h5 b hb).elim (h2 b) (fun h => Nat.le_trans hN h)⟩, h4.below (fun k hk => h2 k hk) hN⟩
theorem BOf.decide (h : BOf N w g B) (x : Ev) : Calls Try.prog 44 #[.pointer (some ⟨g, 0, none⟩), .agg (evA x)] w fun e w' => e = .returned (.tuple #[.bool (B.dec x).1, .int .i64 (B.dec x).2]) ∧ Below w.heap.size w w' := by
  obtain ⟨F, h1, -⟩ := h
  exact h1.decide x
theorem BOf.todo (h : BOf N w g B) : Calls Try.prog 25 #[.pointer (some ⟨g, 0, none⟩)] w fun e w' => ∃ u, e = .returned u ∧ OwnK kTd w' w.heap.size u B.todo ∧ Below w.heap.size w w' := by
  obtain ⟨F, ⟨⟨M, v, Z, h1⟩, hB, -⟩, -⟩ := h
  exact Todo_any h1 hB
set_option maxRecDepth 100000 in
theorem New_any (w : World) : Calls Try.prog 23 #[] w fun e w' => ∃ g, e = .returned (.pointer (some ⟨g, 0, none⟩)) ∧ BOf w.heap.size w' g bk0 ∧ Below w.heap.size w w' := by
  obtain ⟨W2, hW2⟩ : ∃ W2, (w.alloc (.map #[] 0)).alloc (.cells #[.slice none 0 0, .map (some w.heap.size)] TBk) = W2 := ⟨_, rfl⟩
  have b1 : Below w.heap.size w (w.alloc (.map #[] 0)) := (Below.refl _ w).alloc (Nat.le_refl _) _
  have b2 : Below w.heap.size w W2 := by rw [← hW2]; exact b1.alloc b1.size _
  have z2 : W2.heap.size = w.heap.size + 2 := by rw [← hW2]; simp
  have m2 : W2.heap[w.heap.size]? = some (.map #[] 0) := by rw [← hW2]; exact (Below.heap_alloc _ _ _ (by simp)).trans (World.alloc_heap_new w _)
  have x2 : Blk W2 (w.heap.size + 1) #[.slice none 0 0, .map (some w.heap.size)] TBk := by
    have h := heap_alloc_new (w.alloc (.map #[] 0)) (.cells #[.slice none 0 0, .map (some w.heap.size)] TBk)
    rw [World.size_alloc] at h
    rw [← hW2]
    exact h
  have HFin : Hid (BOf w.heap.size W2 (w.heap.size + 1) bk0) := by
    refine ⟨[w.heap.size, w.heap.size + 1], ⟨⟨w.heap.size, .slice none 0 0, [], ⟨x2, ?_, OwnK.nil _ _, rfl, fun i z h => by simp at h, fun i j z y b h => by simp at h, by simp, by simp, (fun b hb => by cases hb), fun i z b h => by simp at h⟩⟩, bk0_ok, fun b hb => by simp at hb; omega⟩, fun b hb => by simp at hb; omega⟩
    exact (MapF.empty m2).congr (fun kl => by unfold numF bk0; split <;> rfl)
  have HB := hid b2
  have hmm : ∀ (t : TypeId) (w : World), (Instr.makeMap t none).run Try.prog w = .ok (.map (some w.heap.size)) (w.alloc (.map #[] 0)) := fun t w => run_makeMap _ w
  clear b1 b2 z2 m2 x2
  go_enter Try.func23, Try.ntmps23
  go_wp2_with fail
  go_ret
  exact ⟨_, rfl, HFin.out, HB.out⟩
/-- What Status tells. -/
def Bk.stA (B : Bk) (n : Int) : Int := if 0 ≤ n ∧ n < B.ps.length then (B.at n.toNat).st else 0
def Bk.epA (B : Bk) (n : Int) : Int := if 0 ≤ n ∧ n < B.ps.length then (B.at n.toNat).ep else 0
def Bk.isA (B : Bk) (n : Int) : Bool := decide (0 ≤ n ∧ n < B.ps.length)
theorem stA_at (B : Bk) (k : Nat) : B.stA (k : Int) = (B.at k).st ∧ B.epA (k : Int) = (B.at k).ep ∧ B.isA (k : Int) = decide (k < B.ps.length) := by
  unfold Bk.stA Bk.epA Bk.isA
  by_cases h : k < B.ps.length
  · rw [if_pos (by omega), if_pos (by omega), Int.toNat_natCast, decide_eq_true h, decide_eq_true (by omega)]; exact ⟨rfl, rfl, rfl⟩
  · rw [if_neg (by omega), if_neg (by omega), at_len (by omega), decide_eq_false h, decide_eq_false (by omega)]; exact ⟨rfl, rfl, rfl⟩
set_option maxRecDepth 100000 in
theorem Status_any (h : BP w F g M v Z B) (n : Int) : Calls Try.prog 26 #[.pointer (some ⟨g, 0, none⟩), .int .i64 n] w fun e w' => e = .returned (.tuple #[.int .i64 (B.stA n), .int .i64 (B.epA n), .bool (B.isA n)]) ∧ Below w.heap.size w w' := by
  unfold Bk.stA Bk.epA Bk.isA
  by_cases hn : 0 ≤ n ∧ n < B.ps.length
  · rw [if_pos hn, if_pos hn, decide_eq_true hn]
    obtain ⟨i, rfl⟩ : ∃ i : Nat, n = i := ⟨n.toNat, by omega⟩
    have hi : i < B.ps.length := by omega
    obtain ⟨pb, c, rfl, -⟩ := h.form (Nat.lt_of_le_of_lt (Nat.zero_le _) hi)
    obtain ⟨s, hs, -, -⟩ := h.get hi
    obtain ⟨-, c1, c2, -, -, -⟩ := h.cells hi hs
    have HA := hid (at_in h hi)
    rw [Int.toNat_natCast]
    clear h hs hn
    generalize (B.at i).st = st at *
    generalize (B.at i).ep = ep at *
    unfold Ptr at HA
    generalize i * 5 = o at *
    go_enter Try.func26, Try.ntmps26
    go_wp2_with (go_at_call 47; refine HA.out.mono ?_; rintro e w1 ⟨rfl, hw1⟩; obtain rfl := hw1.symm)
    go_quiet (fail)
    go_wp2_with fail
    refine bodyPost_ret (results_tmp3 Try.results26 _ _ _) rfl ⟨rfl, below_drewN' (Below.refl _ _) _⟩
  · rw [if_neg hn, if_neg hn, decide_eq_false hn]
    have HA := hid (at_out h n hn)
    clear h hn
    go_enter Try.func26, Try.ntmps26
    go_wp2_with (go_at_call 47; refine HA.out.mono ?_; rintro e w1 ⟨rfl, hw1⟩; obtain rfl := hw1.symm)
    refine bodyPost_ret (results_tmp3 Try.results26 _ _ _) rfl ⟨rfl, Below.refl _ _⟩
theorem BOf.status (h : BOf N w g B) (n : Int) : Calls Try.prog 26 #[.pointer (some ⟨g, 0, none⟩), .int .i64 n] w fun e w' => e = .returned (.tuple #[.int .i64 (B.stA n), .int .i64 (B.epA n), .bool (B.isA n)]) ∧ Below w.heap.size w w' := by
  obtain ⟨F, M, v, Z, h1⟩ := h.at
  exact Status_any h1 n
theorem num16_any (n : Int) (w : World) : Calls Try.prog 11 #[.int .i64 n] w fun e w' => e = .returned (.int .i64 n) ∧ w' = w := by
  go_enter Try.func11, Try.ntmps11
  go_wp2_with fail
  go_ret
  exact ⟨rfl, rfl⟩
theorem own16_any (x : Ev) (w : World) : Calls Try.prog 7 #[.agg (evA x)] w fun r w' => r = .returned (.agg (evA x)) ∧ Below w.heap.size w w' := by
  obtain ⟨k, s, a, b, c, d, e, q⟩ := x
  show Calls Try.prog 7 #[.agg #[.int .i64 k, .string (nmS s), .int .i64 a, .int .i64 b, .int .i64 c, .int .i64 d, .int .i64 e, .bool q]] w fun r w' => r = .returned (.agg #[.int .i64 k, .string (nmS s), .int .i64 a, .int .i64 b, .int .i64 c, .int .i64 d, .int .i64 e, .bool q]) ∧ Below w.heap.size w w'
  generalize nmS s = t
  go_enter Try.func7, Try.ntmps7
  go_wp2_with fail
  refine bodyPost_ret (v := .agg #[.int .i64 k, .string t, .int .i64 a, .int .i64 b, .int .i64 c, .int .i64 d, .int .i64 e, .bool q]) (by simp [results, Try.results7, go_sem]) rfl ⟨rfl, ?_⟩
  exact ((Below.refl _ w).alloc (Nat.le_refl _) _).alloc (by simp) _
/-! ### states: of the first six -/
end Go.Proofs.Ytciifdmdkfickaa
