/- knows of the statements of layer 6. -/
import Derived.Test.YtgbjlkaaniaaaaaDoorNNet
namespace Go.Proofs.YtgbjlkaaniaaaaaDoor
open Go.RowKit

def kn1 : NSt := ⟨[3, 1], []⟩
def kn2 : NSt := ⟨[1], [⟨2, [97]⟩]⟩
def kn3 : NSt := ⟨[], [⟨2, [97]⟩]⟩
def kn5 : NSt := ⟨[], []⟩
theorem ints_src (w : World) (l : List Int) (n : Nat) : Src (w.alloc (.cells (l.map intV).toArray 3)) (some ⟨w.heap.size, 0, none⟩) n (l.map intV) :=
  Or.inr ⟨_, rfl, fun j u hu => by rw [addr_add, cell_of_row _ _ _ _ _ _ (heap_alloc_last w _), Nat.zero_add, List.getElem?_toArray]; exact hu⟩
set_option maxRecDepth 100000 in
set_option maxHeartbeats 2000000 in
theorem knows6 (w : World) (hT : Tab w) : Calls Tryd.prog 9 #[] w fun e w' => e = .returned (.bool true) ∧ Below w.heap.size w w' := by
  have h1 : 1 ≤ w.heap.size := hT.1
  have hnew := NAt.new w
  have HL : Hid (∀ W, (NAt w.heap.size W w.heap.size new0 ∧ Below w.heap.size w W) → Calls Tryd.prog 11 #[.pointer (some ⟨w.heap.size, 0, none⟩), .slice (some ⟨W.heap.size, 0, none⟩) 2 2] (W.alloc (.cells #[.int .i64 3, .int .i64 1] 3)) fun e W' => e = .returned (.tuple #[]) ∧ Hid (NAt w.heap.size W' w.heap.size kn1 ∧ Below w.heap.size w W')) := fun W ⟨h2, h3⟩ => by
    have b : Below W.heap.size W (W.alloc (.cells #[.int .i64 3, .int .i64 1] 3)) := (Below.refl _ W).alloc (Nat.le_refl _) _
    have b2 := h3.trans (b.mono h3.size)
    refine ((h2.later b).luckC b2.size _ 2 2 [3, 1] rfl (by intro x hx; simp at hx; unfold fits; omega) (ints_src W [3, 1] 2) (by simp [new0])).mono ?_
    rintro e W' ⟨rfl, h4, h5⟩
    exact ⟨rfl, h4, b2.trans h5⟩
  have HS : Hid (∀ (s t : NSt) (x : Nat) (q z : Int) (r : Bool), q = x → x < 256 → s.late.length ≤ 10 → timesN (fateD s) = z → replyN (fateD s) = r → sendD s 2 [x] = t → ∀ W, (NAt w.heap.size W w.heap.size s ∧ Below w.heap.size w W) → Calls Tryd.prog 12 #[.pointer (some ⟨w.heap.size, 0, none⟩), .int .i64 2, .slice (some ⟨W.heap.size, 0, none⟩) 1 1] (litW W (.int .u8 q)) fun e W' => e = .returned (.tuple #[.int .i64 z, .bool r]) ∧ Hid (NAt w.heap.size W' w.heap.size t ∧ Below w.heap.size w W')) := fun s t x q z r hq hx hs hz hr ht W ⟨h2, h3⟩ => by
    have hb : Below W.heap.size W (litW W (.int .u8 q)) := (litW_heap W _).2.2
    have b2 := h3.trans (hb.mono h3.size)
    refine (h2.sendC hb h3.size h1 (hT.low h1 b2) 2 (by unfold fits; omega) _ 1 1 [x] (lit_ok W x q hq hx) (fun b off e _ => by cases e; exact Or.inr (Nat.le_refl _)) (by omega)).mono ?_
    rintro e W' ⟨rfl, h4, h5⟩
    rw [hz, hr]
    rw [ht] at h4
    exact ⟨rfl, h4, b2.trans h5⟩
  have HS1 := hide (HS.out kn1 kn2 97 97 0 false rfl (by omega) (by simp [kn1]) rfl rfl rfl)
  have HS2 := hide (HS.out kn2 kn3 98 98 0 false rfl (by omega) (by simp [kn2]) rfl rfl rfl)
  have HS3 := hide (HS.out kn3 kn3 99 99 1 true rfl (by omega) (by simp [kn3]) rfl rfl rfl)
  have HK : Hid (∀ W, (NAt w.heap.size W w.heap.size kn3 ∧ Below w.heap.size w W) → Calls Tryd.prog 14 #[.pointer (some ⟨w.heap.size, 0, none⟩), .int .i64 0] W fun e W' => ∃ p n c, e = .returned (.tuple #[.int .i64 2, .slice p n c, .bool true]) ∧ (convert 32 9 (.slice p n c)).run Tryd.prog W' = .ok (.string ⟨#[97]⟩) W' ∧ Hid (NAt w.heap.size W' w.heap.size kn5 ∧ Below w.heap.size w W')) := fun W ⟨h2, h3⟩ => by
    refine (h2.takeC h3.size 0).mono ?_
    rintro e W' ⟨⟨Q, rfl, q1, q2, q3⟩, h4, h5⟩
    refine ⟨Q.ad, Q.len, Q.cap, rfl, ?_, h4, h3.trans h5⟩
    have := conv_any q2.2.2 Q.len Q.cap q2.1
    rw [q1] at this
    exact this
  clear HS hT
  have hcv := lit_conv
  go_enter Tryd.func9, Tryd.ntmps9
  go_wp2_with (first
    | (go_at_call 7; refine hnew.mono ?_; rintro e w1 ⟨rfl, hn, hb⟩; have H0 := hide (And.intro hn hb); clear hn hb hnew)
    | (go_at_call 11; (with_reducible_and_instances (refine (HL.out w1 H0.out).mono ?_)); rintro e w2 ⟨rfl, H1⟩; clear HL H0)
    | (go_at_call 12; (with_reducible_and_instances (refine (HS1.out w2 H1.out).mono ?_)); rintro e w3 ⟨rfl, H2⟩; clear HS1 H1)
    | (go_at_call 12; (with_reducible_and_instances (refine (HS2.out w3 H2.out).mono ?_)); rintro e w4 ⟨rfl, H3⟩; clear HS2 H2)
    | (go_at_call 12; (with_reducible_and_instances (refine (HS3.out w4 H3.out).mono ?_)); rintro e w5 ⟨rfl, H4⟩; clear HS3 H3)
    | (go_at_call 14; (with_reducible_and_instances (refine (HK.out w5 H4.out).mono ?_)); rintro e w6 ⟨p6, n6, c6, rfl, hc6, H5⟩; clear HK H4)
    | (go_at_call 16; (with_reducible_and_instances (refine (H5.out.1.lateC).mono ?_)); rintro e w' ⟨rfl, hw'⟩; obtain rfl := hw'.symm))
  go_ret
  exact ⟨rfl, H5.out.2⟩
end Go.Proofs.YtgbjlkaaniaaaaaDoor
