/- What the methods number and text of package batch's reader do. -/
import Derived.Test.YtmkdkclakndkpaaPack
import Derived.Test.YtmkdkclakndkpaaGet
import Derived.Test.YtmkdkclakndkpaaGetText
namespace Go.Proofs.Ytmkdkclakndkpaa
open Go.RowKit

/-- What lies elsewhere is as it was. -/
structure But (ks : List Nat) (w w' : World) : Prop where
  os : w'.os = w.os
  tape : w'.tape = w.tape
  output : w'.output = w.output
  size : w.heap.size ≤ w'.heap.size
  block : ∀ k, k < w.heap.size → k ∉ ks → w'.heap[k]? = w.heap[k]?
variable {w w' : World}
theorem But.of {ks : List Nat} (h : Below w.heap.size w w') : But ks w w' := ⟨h.os, h.tape, h.output, h.size, fun k hk _ => h.block k hk⟩
theorem But.trans {ks : List Nat} {w'' : World} (h : But ks w w') (h' : But ks w' w'') : But ks w w'' :=
  ⟨h'.os.trans h.os, h'.tape.trans h.tape, h'.output.trans h.output, Nat.le_trans h.size h'.size, fun k hk hn => (h'.block k (Nat.lt_of_lt_of_le hk h.size) hn).trans (h.block k hk hn)⟩
theorem But.set {ks : List Nat} (h : But ks w w') {g : Nat} (hg : g ∈ ks) (i : Nat) (u : Value) : But ks w (w'.setCell ⟨g, i, none⟩ u) :=
  ⟨h.os, h.tape, h.output, by simpa [World.setCell] using h.size, fun k hk hn => (Below.heap_setCell _ _ _ _ (fun e => hn (by rw [e]; exact hg))).trans (h.block k hk hn)⟩
theorem But.below {ks : List Nat} (h : But ks w w') {N : Nat} (hk : ∀ k ∈ ks, N ≤ k) (hN : N ≤ w.heap.size) : Below N w w' :=
  ⟨h.os, h.tape, h.output, h.size, fun k h1 => h.block k (Nat.lt_of_lt_of_le h1 hN) (fun hm => absurd (hk k hm) (by omega))⟩
theorem But.mono {ks ls : List Nat} (h : But ks w w') (hs : ∀ k ∈ ks, k ∈ ls) : But ls w w' := ⟨h.os, h.tape, h.output, h.size, fun k hk hn => h.block k hk (fun hm => hn (hs k hm))⟩
/-- A block of cells. -/
def Blk (w : World) (B : Nat) (cs : Array Value) (T : TypeId) : Prop := w.heap[B]? = some (.cells cs T (0, 0))
theorem Blk.lt {B : Nat} {cs : Array Value} {T : TypeId} (h : Blk w B cs T) : B < w.heap.size := by
  rcases Nat.lt_or_ge B w.heap.size with hlt | hge
  · exact hlt
  · unfold Blk at h; rw [Array.getElem?_eq_none hge] at h; cases h
theorem Blk.cell {B : Nat} {cs : Array Value} {T : TypeId} (h : Blk w B cs T) (i : Nat) : w.cell? ⟨B, i, none⟩ = cs[i]? := cell_of_row w B i cs T (0, 0) h
theorem Blk.free {B : Nat} {cs : Array Value} {T : TypeId} (h : Blk w B cs T) (i : Nat) : w.frozen? ⟨B, i, none⟩ = false := frozen_of_row w B i _ _ h
theorem Blk.set {B : Nat} {cs : Array Value} {T : TypeId} (h : Blk w B cs T) (i : Nat) (u : Value) : Blk (w.setCell ⟨B, i, none⟩ u) B (cs.setIfInBounds i u) T := block_set h u
theorem Blk.other {B C : Nat} {cs : Array Value} {T : TypeId} (h : Blk w B cs T) (hne : B ≠ C) (i : Nat) (u : Value) : Blk (w.setCell ⟨C, i, none⟩ u) B cs T := by
  unfold Blk; rw [Below.heap_setCell _ _ _ _ (by exact hne)]; exact h
theorem Blk.later {B : Nat} {cs : Array Value} {T : TypeId} (h : Blk w B cs T) (hb : Below w.heap.size w w') : Blk w' B cs T := (hb.block B h.lt).trans h
theorem Blk.but {B : Nat} {cs : Array Value} {T : TypeId} {ks : List Nat} (h : Blk w B cs T) (hb : But ks w w') (hn : B ∉ ks) : Blk w' B cs T := (hb.block B h.lt hn).trans h
theorem Blk.drewN {B : Nat} {cs : Array Value} {T : TypeId} (h : Blk w B cs T) (m : Nat) : Blk (w.drewN m) B cs T := by
  induction m with
  | zero => exact h
  | succ m ih => exact ih
theorem But.drewN {ks : List Nat} (h : But ks w w') (m : Nat) : But ks w (w'.drewN m) := by
  induction m with
  | zero => exact h
  | succ m ih => exact ⟨ih.os, ih.tape, ih.output, ih.size, ih.block⟩
set_option maxHeartbeats 1000000 in
/-- number, into a field of the reader itself. -/
theorem bnumber_in (R i : Nat) (cs : Array Value) (ad : Option Addr) (len cap : Nat) (l : List Nat) (p s : Nat) (o : Int) (w : World) (hR : Blk w R cs 69) (h0 : cs[0]? = some (.slice ad len cap)) (h1 : cs[1]? = some (.int .i64 p)) (hi : cs[i]? = some (.int .i64 o)) (h2 : 2 ≤ i)
    (hp : Part.ok w ⟨ad, len, cap, l⟩) (hlc : len ≤ cap) (hm : len ≤ 1000000000000000) (hp2 : p ≤ 9223372036854775807) :
    Calls Try.prog 58 #[.pointer (some ⟨R, 0, none⟩), .pointer (some ⟨R, i, none⟩), .int .i64 s] w fun e w' => e = .returned (.int .i64 (getN l p s).2.2) ∧ Blk w' R ((cs.setIfInBounds i (.int .i64 (getN l p s).1)).setIfInBounds 1 (.int .i64 (getN l p s).2.1)) 69 ∧ But [R] w w' := by
  have c0 := (hR.cell 0).trans h0
  have c1 := (hR.cell 1).trans h1
  have HR : Hid (Blk w R cs 69) := hR
  have HP : Hid (Part.ok w ⟨ad, len, cap, l⟩) := hp
  clear hR hp
  go_enter Try.func58, Try.ntmps58
  go_wp2_with fail
  have BD : Hid (Below w.heap.size w w.drew) := (Below.refl _ _).drew
  go_region_with (go_at_call 63; refine (get_any ad len cap l p s _ (HP.out.later BD.out) hlc hm (by omega)).mono ?_; rintro e w1 ⟨rfl, b1⟩; have B1 : Hid (Below w.heap.size w w1) := BD.out.trans (b1.mono BD.out.size); have R1 : Hid (Blk w1 R cs 69) := HR.out.later B1.out; have k1 := (R1.out.cell 1).trans h1; have ki := (R1.out.cell i).trans hi; have f1 := R1.out.free 1; have fi := R1.out.free i; clear b1)
  all_goals go_wp2
  all_goals go_ret
  all_goals exact ⟨rfl, (R1.out.set i _).set 1 _, ((But.of B1.out).set (by simp) i _).set (by simp) 1 _⟩
set_option maxHeartbeats 1000000 in
/-- number, into a variable elsewhere. -/
theorem bnumber_out (R C : Nat) (cs ds : Array Value) (T : TypeId) (ad : Option Addr) (len cap : Nat) (l : List Nat) (p s : Nat) (o : Int) (w : World) (hR : Blk w R cs 69) (h0 : cs[0]? = some (.slice ad len cap)) (h1 : cs[1]? = some (.int .i64 p)) (hC : Blk w C ds T) (hi : ds[0]? = some (.int .i64 o)) (hne : C ≠ R)
    (hp : Part.ok w ⟨ad, len, cap, l⟩) (hlc : len ≤ cap) (hm : len ≤ 1000000000000000) (hp2 : p ≤ 9223372036854775807) :
    Calls Try.prog 58 #[.pointer (some ⟨R, 0, none⟩), .pointer (some ⟨C, 0, none⟩), .int .i64 s] w fun e w' => e = .returned (.int .i64 (getN l p s).2.2) ∧ Blk w' R (cs.setIfInBounds 1 (.int .i64 (getN l p s).2.1)) 69 ∧ Blk w' C (ds.setIfInBounds 0 (.int .i64 (getN l p s).1)) T ∧ But [R, C] w w' := by
  have c0 := (hR.cell 0).trans h0
  have c1 := (hR.cell 1).trans h1
  have HR : Hid (Blk w R cs 69) := hR
  have HC : Hid (Blk w C ds T) := hC
  have HP : Hid (Part.ok w ⟨ad, len, cap, l⟩) := hp
  clear hR hC hp
  go_enter Try.func58, Try.ntmps58
  go_wp2_with fail
  have BD : Hid (Below w.heap.size w w.drew) := (Below.refl _ _).drew
  go_region_with (go_at_call 63; refine (get_any ad len cap l p s _ (HP.out.later BD.out) hlc hm (by omega)).mono ?_; rintro e w1 ⟨rfl, b1⟩; have B1 : Hid (Below w.heap.size w w1) := BD.out.trans (b1.mono BD.out.size); have R1 : Hid (Blk w1 R cs 69) := HR.out.later B1.out; have C1 : Hid (Blk w1 C ds T) := HC.out.later B1.out; have k1 := (R1.out.cell 1).trans h1; have ki := (C1.out.cell 0).trans hi; have f1 := R1.out.free 1; have fi := C1.out.free 0; clear b1)
  all_goals go_wp2
  all_goals go_ret
  all_goals exact ⟨rfl, (R1.out.other (fun e => hne e.symm) 0 _).set 1 _, (C1.out.set 0 _).other hne 1 _, ((But.of B1.out).set (by simp) 0 _).set (by simp) 1 _⟩
set_option maxHeartbeats 1000000 in
/-- text, into a field of a Record elsewhere. -/
theorem btext_out (R C i : Nat) (cs ds : Array Value) (T : TypeId) (ad : Option Addr) (len cap : Nat) (l : List Nat) (p : Nat) (o : ByteArray) (w : World) (hR : Blk w R cs 69) (h0 : cs[0]? = some (.slice ad len cap)) (h1 : cs[1]? = some (.int .i64 p)) (hC : Blk w C ds T) (hi : ds[i]? = some (.string o)) (hne : C ≠ R)
    (hp : Part.ok w ⟨ad, len, cap, l⟩) (hlc : len ≤ cap) (hm : len ≤ 1000000000000000) (hp2 : p ≤ 9223372036854775807) :
    Calls Try.prog 64 #[.pointer (some ⟨R, 0, none⟩), .pointer (some ⟨C, i, none⟩)] w fun e w' => e = .returned (.int .i64 (getTextN l p).2.2) ∧ Blk w' R (cs.setIfInBounds 1 (.int .i64 (getTextN l p).2.1)) 69 ∧ Blk w' C (ds.setIfInBounds i (.string (getTextN l p).1)) T ∧ But [R, C] w w' := by
  have c0 := (hR.cell 0).trans h0
  have c1 := (hR.cell 1).trans h1
  have HR : Hid (Blk w R cs 69) := hR
  have HC : Hid (Blk w C ds T) := hC
  have HP : Hid (Part.ok w ⟨ad, len, cap, l⟩) := hp
  clear hR hC hp
  go_enter Try.func64, Try.ntmps64
  go_wp2_with fail
  have BD : Hid (Below w.heap.size w w.drew) := (Below.refl _ _).drew
  go_region_with (go_at_call 66; refine (getText_any ad len cap l p _ (HP.out.later BD.out) hlc hm (by omega)).mono ?_; rintro e w1 ⟨rfl, b1⟩; have B1 : Hid (Below w.heap.size w w1) := BD.out.trans (b1.mono BD.out.size); have R1 : Hid (Blk w1 R cs 69) := HR.out.later B1.out; have C1 : Hid (Blk w1 C ds T) := HC.out.later B1.out; have k1 := (R1.out.cell 1).trans h1; have ki := (C1.out.cell i).trans hi; have f1 := R1.out.free 1; have fi := C1.out.free i; clear b1)
  all_goals go_wp2
  all_goals go_ret
  all_goals exact ⟨rfl, (R1.out.other (fun e => hne e.symm) i _).set 1 _, (C1.out.set i _).other hne 1 _, ((But.of B1.out).set (by simp) i _).set (by simp) 1 _⟩
end Go.Proofs.Ytmkdkclakndkpaa
