/- window of package producer, as it lies in a state's box: place, all. -/
import Derived.Test.YtobaeiicacpbnaaPN
import Derived.Test.YtobaeiicacpbnaaPWide
import Derived.Test.YtobaeiicacpbnaaRangeA
import Derived.Shelf.Abstract
import Derived.Shelf.RegionOpen
import Derived.Stop.RegionWithIn
import Derived.OwnWalkIn
import Derived.TacticsInMore
import Derived.LoopNIn
import Derived.LoopIn
namespace Go.Proofs.Ytobaeiicacpbnaa
open Go.RowKit Go.Shelf
variable {w w' : World} {B : Nat} {s : PSt}

abbrev TSt : TypeId := 83
abbrev TDn : TypeId := 73
/-- A batch's cells. -/
def dnL (d : Dn) : List Value := [.int .i64 d.seq, .int .i64 d.len, .int .i64 d.off]
/-- In w the block B is a state in its box. -/
def SBox (w : World) (B : Nat) (s : PSt) : Prop := Blk w B (psL s).toArray TSt
theorem SBox.later (h : SBox w B s) (hb : Below w.heap.size w w') : SBox w' B s := Blk.later h hb
theorem SBox.chg {F : List Nat} (h : SBox w B s) (hb : Chg F w w') (hn : B ∉ F) : SBox w' B s := Blk.chg h hb hn
theorem SBox.old (h : SBox w B s) : w.cell? ⟨B, 17, none⟩ = some (.int .i64 (s.old : Int)) := Blk.cell h 17
theorem SBox.cnt (h : SBox w B s) : w.cell? ⟨B, 18, none⟩ = some (.int .i64 (s.cnt : Int)) := Blk.cell h 18
theorem SBox.slot (h : SBox w B s) (p : Nat) (hp : p < 5) : w.cell? ⟨B, 2 + p * 3, none⟩ = some (.int .i64 (s.slot p).seq) ∧ w.cell? ⟨B, 2 + p * 3 + 1, none⟩ = some (.int .i64 (s.slot p).len) ∧ w.cell? ⟨B, 2 + p * 3 + 2, none⟩ = some (.int .i64 (s.slot p).off) := by
  rcases (show p = 0 ∨ p = 1 ∨ p = 2 ∨ p = 3 ∨ p = 4 by omega) with rfl | rfl | rfl | rfl | rfl
  all_goals exact ⟨Blk.cell h _, Blk.cell h _, Blk.cell h _⟩
theorem place_any (h : SBox w B s) (ho : s.old < 5) (i : Nat) (hi : i ≤ 5) : Calls Try.prog 45 #[.pointer (some ⟨B, 2, none⟩), .int .i64 (i : Int)] w fun e w' => e = .returned (.int .i64 ((s.place i : Nat) : Int)) ∧ w' = w := by
  have c := h.old
  have hm : ((s.old : Int) + (i : Int)).tmod 5 = ((s.place i : Nat) : Int) := by
    rw [Int.tmod_eq_emod_of_nonneg (by omega)]; unfold PSt.place; omega
  clear h
  go_enter Try.func45, Try.ntmps45
  go_wp2
  go_ret
  exact ⟨rfl, rfl⟩
/-- Round k is handed batch k. -/
def WinR (s : PSt) (k : Nat) (args : Array Value) (_ : World) : Prop := k < s.cnt ∧ args = #[.agg #[.int .i64 (s.at k).seq, .int .i64 (s.at k).len, .int .i64 (s.at k).off]]
set_option maxRecDepth 100000 in
set_option maxHeartbeats 400000 in
theorem all_seq (h : SBox w B s) (hok : s.ok) (gb : Nat) (Gs : List Nat) (K : Nat → World → Prop) (hgb : w.cell? ⟨gb, 0, none⟩ = some (.pointer (some ⟨B, 2, none⟩))) (hg : gb ∈ Gs) (hB : B ∈ Gs) (hlt : ∀ g ∈ Gs, g < w.heap.size) :
    SeqR Try.prog 50 #[.pointer (some ⟨gb, 0, none⟩)] (Kg Gs) K (WinR s) s.cnt w := by
  intro q J Jx W hW hJ _ _ hY h0
  have hk0 : Kg Gs w W := Kg.below hW hlt
  have HK0 : Hid (Kg Gs w W) := hk0
  have H : Hid (SBox w B s) := h
  have HJ : Hid (∀ k X Y, J k X → Below X.heap.size X Y → J k Y) := hJ
  have HL : Hid (∀ g ∈ Gs, g < w.heap.size) := hlt
  have HY : Hid (∀ k args X, k < s.cnt → J k X → WinR s k args X → YieldAt Fence.wide 1 Try.prog q args X fun e Y => (e = .returned (.bool true) ∧ J (k + 1) Y ∧ Kg Gs X Y) ∨ (e = .returned (.bool false) ∧ Jx (k + 1) Y)) := hY
  have HC : Hid (w.cell? ⟨gb, 0, none⟩ = some (.pointer (some ⟨B, 2, none⟩))) := hgb
  have HS : Hid (∀ X, Kg Gs w X → SBox X B s) := fun X hX => (hX.2 B hB).trans h
  have ct0 : W.cell? ⟨gb, 0, none⟩ = some (.pointer (some ⟨B, 2, none⟩)) := (hk0.cell hg (i := 0)).trans hgb
  have cc0 := (HS.out W hk0).cnt
  have h5 := hok.cnt
  have HO := hid hok.old
  clear hW hJ hY h hlt hk0 hgb hok
  obtain ⟨n, hn⟩ : ∃ n, s.cnt = n := ⟨_, rfl⟩
  rw [hn] at cc0 h5 HY ⊢
  have HN := hid hn
  clear hn
  refine callsIn_of_wp Try.func50 rfl trivial ?_ rfl
  simp only [Try.ntmps50, List.size_toArray, List.length_cons, List.length_nil, Nat.reduceAdd, Nat.reduceSub, Array.replicate_succ, Array.replicate_zero, List.push_toArray, List.append_toArray, List.nil_append, List.cons_append]
  gi_wp2
  gi_loopw [8] (fun i wr => ∃ k : Nat, k ≤ n ∧ i = .int .i64 (k : Int) ∧ Hid (J k wr) ∧ Hid (Kg Gs w wr)) (fun i _ => n - (intOf i).toNat)
  case atStart => exact ⟨0, Nat.zero_le _, rfl, h0, HK0⟩
  case round =>
    obtain ⟨k, hk, rfl, HJk, HKk⟩ := hrel
    by_cases hkl : k < n
    · have c1 : wr.cell? ⟨gb, 0, none⟩ = some (.pointer (some ⟨B, 2, none⟩)) := (HKk.out.cell hg (i := 0)).trans HC.out
      have hS := HS.out wr HKk.out
      have hp := s.place_lt k
      have hpl := fun X (hX : SBox X B s) => place_any hX HO.out k (by omega)
      obtain ⟨fn, tmps, assign, body, hy, hR⟩ := YieldAt.mono (R' := fun e Y => ∃ b : Bool, e = .returned (.bool b) ∧ Hid ((b = true → J (k + 1) Y ∧ Kg Gs wr Y) ∧ (b = false → Jx (k + 1) Y))) (HY.out k _ wr.drew hkl (HJ.out k wr _ HJk.out (Below.refl _ _).drew) ⟨by rw [HN.out]; exact hkl, rfl⟩) (by
        rintro e Y (⟨rfl, h1⟩ | ⟨rfl, h1⟩)
        · exact ⟨true, rfl, fun _ => ⟨h1.1, (Kg.below (Below.refl _ wr).drew (fun g hg => Nat.lt_of_lt_of_le (HL.out g hg) HKk.out.1)).trans h1.2⟩, fun h => (by cases h)⟩
        · exact ⟨false, rfl, fun h => (by cases h), fun _ => h1⟩)
      have HRd := hid hR
      obtain ⟨d0, d1, d2⟩ := hS.slot (s.place k) hp
      unfold PSt.at at HRd hy
      generalize s.place k = p at *
      have hpw := hpl wr.drew (hS.later (Below.refl _ _).drew)
      have HPl := hid hpw
      clear hR ct0 cc0 HY hS hpl hpw
      generalize (s.slot p).seq = e0 at *
      generalize (s.slot p).len = e1 at *
      generalize (s.slot p).off = e2 at *
      gi_wp2
      gi_region_with (first
        | (refine ⟨trivial, ?_⟩; gi_at_call 45; (with_reducible_and_instances (refine (callsIn_wide.2 HPl.out).mono ?_)); rintro e w2 ⟨rfl, hw2⟩; obtain rfl := hw2.symm)
        | (refine HRd.out.mono ?_; rintro e W3 ⟨b, rfl, hb⟩))
      all_goals
        cases b
        · have HX := hid (hb.out.2 rfl)
          clear hb
          gi_wp2
          refine bodyPost_ret (results_none rfl _ _ _) rfl ?_
          exact ⟨⟨_, rfl⟩, .inr ⟨k + 1, by omega, HX.out⟩⟩
        · have HJn := hid (hb.out.1 rfl).1
          have HKn := hid (HKk.out.trans (hb.out.1 rfl).2)
          clear hb
          gi_wp2
          go_roundw
          case rel => exact ⟨k + 1, by omega, by go_num, HJn, HKn⟩
          case measure => simp [intOf]; omega
    · obtain rfl : k = n := by omega
      gi_wp2
      go_end0
      exact ⟨⟨_, rfl⟩, .inl HJk.out⟩
theorem enters_all : ∀ args w, (callFunc 50 args).run Try.prog w = .ok (.enter 50 args) w := fun _ _ => by kernel_rfl
theorem all_any (ad : Addr) (w : World) : Calls Try.prog 37 #[.pointer (some ad)] w fun e w' => e = .returned (.func (.func 50) #[] #[.pointer (some ⟨w.heap.size, 0, none⟩)]) ∧ w' = w.alloc (.cells #[.pointer (some ad)] 109) := by
  have hmf : ∀ (fn : Fn) (first cap : Array Value) (w : World), (Instr.makeFunc fn first cap).run Try.prog w = .ok (.func fn first cap) w := fun _ _ _ _ => rfl
  go_enter Try.func37, Try.ntmps37
  go_wp2_with fail
  go_ret
  exact ⟨rfl, rfl⟩
end Go.Proofs.Ytobaeiicacpbnaa
