/- What the methods kind, flag, producer, epoch and seq of package batch's reader do. -/
import Derived.Test.YtmkdkclakndkpaaBRecord
namespace Go.Proofs.Ytmkdkclakndkpaa
open Go.RowKit

variable {R : Nat} {P : Part} {q : Nat} {fl k p e s : Int} {t : Bool} {v : Value} {w : World}
theorem bkind_any (hR : Blk w R (rdV P q fl k p e s t v) 69) (hp : P.ok w) (hlc : P.len ≤ P.cap) (hm : P.len ≤ 1000000000000000) (hq : q ≤ P.len) :
    Calls Try.prog 49 #[.pointer (some ⟨R, 0, none⟩)] w fun x w' => x = .returned (.int .i64 (getN P.l q (1 : Nat)).2.2) ∧ Blk w' R (rdV P (getN P.l q (1 : Nat)).2.1 fl (getN P.l q (1 : Nat)).1 p e s t v) 69 ∧ But [R] w w' := by
  obtain ⟨ad, len, cap, l⟩ := P
  have HC := bnumber_in R 3 _ ad len cap l q 1 k w hR rfl rfl rfl (by omega) hp hlc hm (by simp only at hq hm; omega)
  clear hR hp
  go_enter Try.func49, Try.ntmps49
  go_wp2_with (go_at_call 58; refine HC.mono ?_; rintro x w1 ⟨rfl, R1, K1⟩)
  go_ret
  exact ⟨rfl, R1, K1⟩
theorem bepoch_any (hR : Blk w R (rdV P q fl k p e s t v) 69) (hp : P.ok w) (hlc : P.len ≤ P.cap) (hm : P.len ≤ 1000000000000000) (hq : q ≤ P.len) :
    Calls Try.prog 52 #[.pointer (some ⟨R, 0, none⟩)] w fun x w' => x = .returned (.int .i64 (getN P.l q (4 : Nat)).2.2) ∧ Blk w' R (rdV P (getN P.l q (4 : Nat)).2.1 fl k p (getN P.l q (4 : Nat)).1 s t v) 69 ∧ But [R] w w' := by
  obtain ⟨ad, len, cap, l⟩ := P
  have HC := bnumber_in R 5 _ ad len cap l q 4 e w hR rfl rfl rfl (by omega) hp hlc hm (by simp only at hq hm; omega)
  clear hR hp
  go_enter Try.func52, Try.ntmps52
  go_wp2_with (go_at_call 58; refine HC.mono ?_; rintro x w1 ⟨rfl, R1, K1⟩)
  go_ret
  exact ⟨rfl, R1, K1⟩
theorem bseq_any (hR : Blk w R (rdV P q fl k p e s t v) 69) (hp : P.ok w) (hlc : P.len ≤ P.cap) (hm : P.len ≤ 1000000000000000) (hq : q ≤ P.len) :
    Calls Try.prog 53 #[.pointer (some ⟨R, 0, none⟩)] w fun x w' => x = .returned (.int .i64 (getN P.l q (4 : Nat)).2.2) ∧ Blk w' R (rdV P (getN P.l q (4 : Nat)).2.1 fl k p e (getN P.l q (4 : Nat)).1 t v) 69 ∧ But [R] w w' := by
  obtain ⟨ad, len, cap, l⟩ := P
  have HC := bnumber_in R 6 _ ad len cap l q 4 s w hR rfl rfl rfl (by omega) hp hlc hm (by simp only at hq hm; omega)
  clear hR hp
  go_enter Try.func53, Try.ntmps53
  go_wp2_with (go_at_call 58; refine HC.mono ?_; rintro x w1 ⟨rfl, R1, K1⟩)
  go_ret
  exact ⟨rfl, R1, K1⟩
theorem bflag_any (hR : Blk w R (rdV P q fl k p e s t v) 69) (hp : P.ok w) (hlc : P.len ≤ P.cap) (hm : P.len ≤ 1000000000000000) (hq : q ≤ P.len) :
    Calls Try.prog 50 #[.pointer (some ⟨R, 0, none⟩)] w fun x w' => x = .returned (.int .i64 (getN P.l q (1 : Nat)).2.2) ∧ Blk w' R (rdV P (getN P.l q (1 : Nat)).2.1 (getN P.l q (1 : Nat)).1 k p e s (bits .and .i64 (getN P.l q (1 : Nat)).1 2 != 0) v) 69 ∧ But [R] w w' := by
  obtain ⟨ad, len, cap, l⟩ := P
  have HC := bnumber_in R 2 _ ad len cap l q 1 fl w hR rfl rfl rfl (by omega) hp hlc hm (by simp only at hq hm; omega)
  clear hR hp
  simp only at HC ⊢
  generalize getN l q ((1 : Nat) : Int) = g at *
  obtain ⟨g1, g2, g3⟩ := g
  simp only at HC ⊢
  go_enter Try.func50, Try.ntmps50
  go_wp2_with (go_at_call 58; refine HC.mono ?_; rintro x w1 ⟨rfl, R1, K1⟩; have R1' : Hid (Blk w1 R (rdV ⟨ad, len, cap, l⟩ g2 g1 k p e s t v) 69) := R1; have c2 := R1'.out.cell 2; have c7 := R1'.out.cell 7; have f7 := R1'.out.free 7; simp [rdV] at c2 c7; clear R1)
  go_ret
  exact ⟨rfl, R1'.out.set 7 _, K1.set (by simp) 7 _⟩
theorem bproducer_any (hR : Blk w R (rdV P q fl k p e s t v) 69) (hp : P.ok w) (hlc : P.len ≤ P.cap) (hm : P.len ≤ 1000000000000000) (hq : q ≤ P.len) :
    Calls Try.prog 51 #[.pointer (some ⟨R, 0, none⟩)] w fun x w' => x = .returned (.int .i64 (getN P.l q (6 : Nat)).2.2) ∧ Blk w' R (rdV P (getN P.l q (6 : Nat)).2.1 fl k (if bits .and .i64 fl 1 == 0 then -1 else (getN P.l q (6 : Nat)).1) e s t v) 69 ∧ But [R] w w' := by
  obtain ⟨ad, len, cap, l⟩ := P
  have HC := bnumber_in R 4 _ ad len cap l q 6 p w hR rfl rfl rfl (by omega) hp hlc hm (by simp only at hq hm; omega)
  clear hR hp
  simp only at HC ⊢
  generalize getN l q ((6 : Nat) : Int) = g at *
  obtain ⟨g1, g2, g3⟩ := g
  simp only at HC ⊢
  cases hb : bits .and .i64 fl 1 == 0
  all_goals
    go_enter Try.func51, Try.ntmps51
    go_wp2_with (go_at_call 58; refine HC.mono ?_; rintro x w1 ⟨rfl, R1, K1⟩; have R1' : Hid (Blk w1 R (rdV ⟨ad, len, cap, l⟩ g2 fl k g1 e s t v) 69) := R1; have c2 := R1'.out.cell 2; have c4 := R1'.out.cell 4; have f4 := R1'.out.free 4; simp [rdV] at c2 c4; clear R1)
    go_ret
    first | exact ⟨rfl, R1'.out, K1⟩ | exact ⟨rfl, R1'.out.set 4 _, K1.set (by simp) 4 _⟩
end Go.Proofs.Ytmkdkclakndkpaa
