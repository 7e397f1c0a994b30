/- The walk of AssignStays, of any text. -/
import Derived.Test.YtakpdhmfbgfblaaAStaysW
namespace Go.Proofs.Ytakpdhmfbgfblaa
open Go.RowKit
variable {w : World}

theorem nmS_of7 (s : ByteArray) : nmS s.data.toList = s := rfl
theorem stays_any {l : List Nm} {ad : Option Addr} {m c : Nat} (hA : ArgK kS w l ad m c) (hm16 : m * 16 ≤ 140737488351232) (p : Int) (hp : -9223372036854775808 ≤ p ∧ p ≤ 9223372036854775807) (gone : Int) (s : ByteArray) :
    Calls Try.prog 4 #[.slice ad m c, .int .i64 p, .int .i64 gone, .string s] w fun e w' => e = .returned (.bool true) ∧ Below w.heap.size w w' := by
  have h := stays_walk hA hm16 p hp gone s.data.toList
  rw [nmS_of7] at h
  exact h
end Go.Proofs.Ytakpdhmfbgfblaa
