/- over of package txn: those whose time is over, one by one. -/
import Derived.Test.YteogogmmnijagaaTGrant
import Derived.Test.YteogogmmnijagaaPYRange
import Derived.Shelf.Abstract
import Derived.Shelf.RegionOpen
import Derived.Stop.RegionWithIn
import Derived.OwnWalkIn
import Derived.TacticsInMore
import Derived.LoopNIn
import Derived.LoopIn
namespace Go.Proofs.Yteogogmmnijagaa
open Go.RowKit Go.Shelf
variable {w w' : World} {F : List Nat} {g M pb m c i : Nat} {v : Value} {Z : List (Pr × Sl)} {B : Bk}

/-- How many of the first j have their time over. -/
def cntO (B : Bk) (now : Int) (j : Nat) : Nat := (B.ps.take j).countP (·.over now)
theorem cntO_yes {now : Int} {j : Nat} (hj : j < B.ps.length) (h : (B.at j).over now = true) : cntO B now (j + 1) = cntO B now j + 1 := by
  unfold cntO
  rw [take_snoc_any B.ps pr0 j hj, List.countP_append]
  have : ((B.ps.getD j pr0).over now) = true := h
  rw [List.countP_cons, List.countP_nil, if_pos this]
theorem cntO_no {now : Int} {j : Nat} (hj : j < B.ps.length) (h : (B.at j).over now = false) : cntO B now (j + 1) = cntO B now j := by
  unfold cntO
  rw [take_snoc_any B.ps pr0 j hj, List.countP_append]
  have : ((B.ps.getD j pr0).over now) = false := h
  rw [List.countP_cons, List.countP_nil, this]; simp
theorem cntO_le {now : Int} {i j : Nat} (h : i ≤ j) : cntO B now i ≤ cntO B now j := by
  unfold cntO
  exact ((List.take_sublist_take_left h).countP_le)
/-- What the iterator may take for granted when k of those were handed out: its boxes, and a book whose producers from there on are as they were. -/
def OverK (B : Bk) (now : Int) (gb gn g M : Nat) (v : Value) (k : Nat) (X : World) : Prop :=
  X.cell? ⟨gb, 0, none⟩ = some (.pointer (some ⟨g, 0, none⟩)) ∧ X.cell? ⟨gn, 0, none⟩ = some (.int .i64 now) ∧ ∃ F' Z' B', BP X F' g M v Z' B' ∧ BkOk B' ∧ B'.ps.length = B.ps.length ∧ ∀ j, k ≤ cntO B now j → B'.at j = B.at j
/-- Round k is handed the k-th of those. -/
def OverR (B : Bk) (now : Int) (v : Value) (k : Nat) (args : Array Value) (_X : World) : Prop := ∃ j pb c, v = .slice (some ⟨pb, 0, none⟩) B.ps.length c ∧ j < B.ps.length ∧ (B.at j).over now = true ∧ cntO B now j = k ∧ args = #[Ptr pb j]
set_option maxRecDepth 100000 in
set_option maxHeartbeats 1000000 in
theorem over_seq (hB : BkOk B) (now : Int) (gb gn : Nat) (w : World) (hv : ∃ ad cap, v = .slice ad B.ps.length cap) (hp : 0 < B.ps.length → ∃ pb c, v = .slice (some ⟨pb, 0, none⟩) B.ps.length c) :
    SeqR Try.prog 64 #[.pointer (some ⟨gb, 0, none⟩), .pointer (some ⟨gn, 0, none⟩)] (fun _ _ => True) (OverK B now gb gn g M v) (OverR B now v) (cntO B now B.ps.length) w := by
  intro q J Jx W hW hJ _ hJK hY h0
  have HJ := hid hJ
  have HJK := hid hJK
  have HY := hid hY
  have hcnt := hB.cnt
  obtain ⟨ad, cap, hv⟩ := hv
  have hK0 := hJK 0 W h0
  obtain ⟨ct0, -, F0, Z0, B0, hb0, -⟩ := hK0
  have cg0 : W.cell? ⟨g, 0, none⟩ = some (.slice ad B.ps.length cap) := by rw [← hv]; exact hb0.box.cell 0
  have HP := hid hp
  obtain ⟨N, hN0⟩ : ∃ N, cntO B now B.ps.length = N := ⟨_, rfl⟩
  rw [hN0] at HY ⊢
  have HN0 := hid hN0
  clear hW hJ hJK hY hp hb0 hB hN0
  obtain ⟨len, hlen⟩ : ∃ len, B.ps.length = len := ⟨_, rfl⟩
  have HLn := hid hlen
  rw [hlen] at cg0 hcnt
  clear hlen
  refine callsIn_of_wp Try.func64 rfl trivial ?_ rfl
  simp only [Try.ntmps64, List.size_toArray, List.length_cons, List.length_nil, Nat.reduceAdd, Nat.reduceSub, Array.replicate_succ, Array.replicate_zero, List.push_toArray, List.append_toArray, List.nil_append, List.cons_append]
  gi_wp2
  gi_loopw [11] (fun i wr => ∃ j : Nat, j ≤ len ∧ i = .int .i64 (j : Int) ∧ Hid (J (cntO B now j) wr)) (fun i _ => len - (intOf i).toNat)
  case atStart => exact ⟨0, Nat.zero_le _, rfl, h0⟩
  case round =>
    obtain ⟨j, hj, rfl, HJk⟩ := hrel
    by_cases hjn : j < len
    · have hjl : j < B.ps.length := by rw [HLn.out]; exact hjn
      obtain ⟨c1, c2, F1, Z1, B1, hb1, ok1, hl1, ha1⟩ := HJK.out _ _ HJk.out
      have haj := ha1 j (Nat.le_refl _)
      obtain ⟨pb, c, hpv⟩ := HP.out (by omega)
      rw [hpv] at hb1
      have cg : wr.cell? ⟨g, 0, none⟩ = some (.slice (some ⟨pb, 0, none⟩) len c) := by rw [← HLn.out]; exact hb1.box.cell 0
      have hO := isOver_any hb1 ok1 (i := j) (by omega) now
      rw [haj] at hO
      have HO := hid hO
      cases ho : (B.at j).over now with
      | false =>
        rw [ho] at HO
        have HJn : Hid (J (cntO B now (j + 1)) wr.drew) := by rw [cntO_no hjl ho]; exact HJ.out _ _ _ HJk.out (Below.refl _ _).drew
        clear hb1 hO haj ha1 ct0 cg0 HJk ok1 hl1
        clear hjl
        gi_wp2_with (refine ⟨trivial, ?_⟩; gi_at_call 65; refine (callsIn_wide.2 HO.out).mono ?_; rintro e w2 ⟨rfl, hw2⟩; obtain rfl := hw2.symm)
        refine ⟨fun f hf => (by cases hf), ?_⟩
        gi_wp2
        go_roundw
        case rel => exact ⟨j + 1, by omega, by go_num, HJn⟩
        case measure => simp [intOf]; omega
      | true =>
        rw [ho] at HO
        have hN : cntO B now (j + 1) ≤ cntO B now B.ps.length := cntO_le (by omega)
        rw [cntO_yes hjl ho, HN0.out] at hN
        obtain ⟨fn, tmps, assign, body, hy, hR⟩ := YieldAt.mono (R' := fun e Y => ∃ b : Bool, e = .returned (.bool b) ∧ Hid ((b = true → J (cntO B now (j + 1)) Y) ∧ (b = false → Jx (cntO B now j + 1) Y))) (HY.out (cntO B now j) #[Ptr pb j] wr.drew (by omega) (HJ.out _ wr _ HJk.out (Below.refl _ _).drew) ⟨j, pb, c, hpv, hjl, ho, rfl, rfl⟩) (by
          rintro e Y (⟨rfl, h1⟩ | ⟨rfl, h1⟩)
          · exact ⟨true, rfl, fun _ => by rw [cntO_yes hjl ho]; exact h1.1, fun h => (by cases h)⟩
          · exact ⟨false, rfl, fun h => (by cases h), fun _ => h1⟩)
        have HRd := hid hR
        have HN := hid hN
        clear hR hb1 hO haj ha1 ct0 cg0 HJk ok1 hl1 HY hN hjl
        unfold Ptr at *
        gi_wp2_with (first
          | (refine ⟨trivial, ?_⟩; gi_at_call 65; refine (callsIn_wide.2 HO.out).mono ?_; rintro e w2 ⟨rfl, hw2⟩; obtain rfl := hw2.symm)
          | (refine HRd.out.mono ?_; rintro e W3 ⟨b, rfl, hb⟩))
        · cases b
          · have HX := hid (hb.out.2 rfl)
            refine bodyPost_ret (results_none rfl _ _ _) rfl ⟨⟨_, rfl⟩, .inr ⟨cntO B now j + 1, HN.out, HX.out⟩⟩
          · first | contradiction | (exfalso; simp_all; done)
        · cases b
          · first | contradiction | (exfalso; simp_all; done)
          · exact ⟨⟨j + 1, by omega, by go_num, hid (hb.out.1 rfl)⟩, by simp [intOf]; omega⟩
    · obtain rfl : j = len := by omega
      have HE : Hid (J N wr) := by rw [← HN0.out, HLn.out]; exact HJk.out
      gi_wp2
      go_end0
      exact ⟨⟨_, rfl⟩, .inl HE.out⟩
theorem enters_over : ∀ args w, (callFunc 64 args).run Try.prog w = .ok (.enter 64 args) w := fun _ _ => by kernel_rfl
theorem over_any (ad : Addr) (now : Int) (w : World) : Calls Try.prog 49 #[.pointer (some ad), .int .i64 now] w fun e w' => e = .returned (.func (.func 64) #[] #[.pointer (some ⟨w.heap.size, 0, none⟩), .pointer (some ⟨w.heap.size + 1, 0, none⟩)]) ∧ w' = (w.alloc (.cells #[.pointer (some ad)] 23)).alloc (.cells #[.int .i64 now] 3) := by
  have hmf : ∀ (fn : Fn) (first cap : Array Value) (w : World), (Instr.makeFunc fn first cap).run Try.prog w = .ok (.func fn first cap) w := fun _ _ _ _ => rfl
  go_enter Try.func49, Try.ntmps49
  go_wp2_with fail
  go_ret
  exact ⟨rfl, rfl⟩
end Go.Proofs.Yteogogmmnijagaa
