/- Trim, Get, Sealed and Trimmed of a store that can be written; Put of too many bytes. -/
import Derived.Test.YtikomnbhmmjfnaaGreatSKnows
import Derived.Test.YtikomnbhmmjfnaaGreatSGet
import Derived.Test.YtikomnbhmmjfnaaGreatSTrimP
import Derived.Test.YtikomnbhmmjfnaaGreatSToldM
namespace Go.Proofs.YtikomnbhmmjfnaaGreat
open Go.RowKit Go.Shelf
variable {w w' : World} {N S : Nat} {s : SSt}

set_option maxRecDepth 100000 in
set_option maxHeartbeats 1000000 in
theorem trimmed_pic {FD G : List Nat} {D X Y : Nat} {fx fy : Lit → Option Value} {A : Nat → Nat → Value} (h : SPic w FD G S D X Y fx fy A s) (i : Int) (h1 : -9223372036854775808 ≤ i) (h2 : i ≤ 9223372036854775807) : Calls Tryz.prog 19 #[.pointer (some ⟨S, 0, none⟩), .int .i64 i] w fun e w' => e = .returned (.int .i64 ((s.look i).trim : Nat)) ∧ Below w.heap.size w w' := by
  have hl := look_pic h i h1 h2
  unfold logV at hl
  have hf := fun W => (fld52 (.int .i64 ((s.look i).tail : Int)) (.int .i64 ((s.look i).trim : Int)) (.bool (s.look i).sealed) W).2.1
  clear h
  go_enter Tryz.func19, Tryz.ntmps19
  go_wp2_with (go_at_call 55; refine hl.mono ?_; rintro e w' ⟨rfl, hb⟩)
  go_ret
  exact ⟨rfl, hb⟩
theorem look_nat' (s : SSt) (i : Nat) : s.look (i : Int) = s.log i := by
  unfold SSt.look
  rw [if_pos (by omega)]
  simp
theorem SA.sealedC (h : SA N w S s) (i : Nat) (hi : i < 3) : Calls Tryz.prog 22 #[.pointer (some ⟨S, 0, none⟩), .int .i64 (i : Int)] w fun x w' => x = .returned (.bool (s.log i).sealed) ∧ Below w.heap.size w w' := by
  obtain ⟨⟨FD, G, D, X, Y, fx, fy, A, hp, _, _⟩, h3, h4⟩ := h
  have r := sealed_pic hp (i : Int) (by omega) (by omega)
  rw [look_nat'] at r
  exact r
theorem SA.trimmedC (h : SA N w S s) (i : Nat) (hi : i < 3) : Calls Tryz.prog 19 #[.pointer (some ⟨S, 0, none⟩), .int .i64 (i : Int)] w fun x w' => x = .returned (.int .i64 (((s.log i).trim : Nat) : Int)) ∧ Below w.heap.size w w' := by
  obtain ⟨⟨FD, G, D, X, Y, fx, fy, A, hp, _, _⟩, h3, h4⟩ := h
  have r := trimmed_pic hp (i : Int) (by omega) (by omega)
  rw [look_nat'] at r
  exact r
theorem SA.getC (h : SA N w S s) (i k : Nat) (hi : i < 3) : Calls Tryz.prog 14 #[.pointer (some ⟨S, 0, none⟩), .int .i64 (i : Int), .int .i64 (k : Int)] w (GPost w (getF s i k)) := by
  obtain ⟨⟨FD, G, D, X, Y, fx, fy, A, hp, _, _⟩, h3, h4⟩ := h
  exact get_pic hp (i : Int) (k : Int) (by omega) (by omega)
theorem SA.trim (h : SA N w S s) (hN : N ≤ w.heap.size) (l p : Int) (hl1 : -9223372036854775808 ≤ l) (hl2 : l ≤ 9223372036854775807) :
    Calls Tryz.prog 17 #[.pointer (some ⟨S, 0, none⟩), .int .i64 l, .int .i64 p] w fun x w' => x = .returned (.int .i64 (s.trim l p).1) ∧ SA N w' S (s.trim l p).2 ∧ Below N w w' := by
  obtain ⟨⟨FD, G, D, X, Y, fx, fy, A, hp, h1, h2⟩, h3, h4⟩ := h
  refine (trim_pic hp l p hl1 hl2 (fun x hx => by rw [h4 x hx]; simp)).mono ?_
  intro x w' hx
  exact hx.sa h1 h2 hN (trim_keeps h3 h4 l p)
/-- Put of more bytes than may be. -/
theorem SA.putBig (h : SA N w S s) (l p : Nat) (hl : l < 3) (hp : p < 6) (ad : Option Addr) (len cap : Nat) (data : List Nat) (hd : data.length = len) (hlen : 65536 < len) (repair : Bool) :
    Calls Tryz.prog 15 #[.pointer (some ⟨S, 0, none⟩), .int .i64 (l : Int), .int .i64 (p : Int), .slice ad len cap, .bool repair] w fun x w' => x = .returned (.int .i64 (s.put l p data repair).1) ∧ w' = w := by
  obtain ⟨⟨FD, G, D, X, Y, fx, fy, A, hpc, h1, h2⟩, h3, h4⟩ := h
  have hm := smade_pic hpc
  have hL : isLogletN (l : Int) = true := by simp [isLogletN]; omega
  have hP : isPlaceN (p : Int) = true := by simp [isPlaceN]; omega
  have e : s.put l p data repair = (6, s) := by
    unfold SSt.put
    rw [hL, hP]
    simp only [Bool.and_self, if_true]
    rw [if_pos (by omega)]
  rw [e]
  have hlen' : (65536 : Int) < (len : Int) := by omega
  clear hpc h1 h2 h3 h4 e
  go_enter Tryz.func15, Tryz.ntmps15
  go_wp2_with (first
    | (go_at_call 47; refine hm.mono ?_; rintro e w' ⟨rfl, hw'⟩; obtain rfl := hw'.symm)
    | (go_at_call 48; refine (isLoglet_any _ _).mono ?_; rintro e w' ⟨rfl, hw'⟩; obtain rfl := hw'.symm; rw [hL])
    | (go_at_call 49; refine (isPlace_any _ _).mono ?_; rintro e w' ⟨rfl, hw'⟩; obtain rfl := hw'.symm; rw [hP]))
  all_goals go_ret
  all_goals exact ⟨rfl, rfl⟩
end Go.Proofs.YtikomnbhmmjfnaaGreat
