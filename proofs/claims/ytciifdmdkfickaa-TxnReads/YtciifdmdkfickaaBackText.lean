/- Plain mathematics of P106: a text is read as it was written, with anything ahead and behind. -/
import Derived.Test.YtciifdmdkfickaaBack
import Derived.Test.YtciifdmdkfickaaTextN
import Derived.Test.YtciifdmdkfickaaGetTextN
namespace Go.Proofs.Ytciifdmdkfickaa
open Go.RowKit Crcm

theorem text_back (A B : List Nat) (s : ByteArray) (p : Nat) (hp : A.length = p) (hs : s.size ≤ 65535) :
    getTextN (A ++ ((spellN s.size 2 ++ sbytes s) ++ B)) p = (s, ((p + 2 + s.size : Nat) : Int), 0) := by
  have h1 : lenAt (A ++ ((spellN s.size 2 ++ sbytes s) ++ B)) p = s.size := by
    unfold lenAt
    have e := drop_ahead A ((spellN s.size 2 ++ sbytes s) ++ B) p 0 hp
    rw [Nat.add_zero, List.drop_zero] at e
    rw [e, List.append_assoc, take_front _ _ 2 (spellN_length _ _)]
    exact pow_two_mod _ 2 (by omega)
  have hlen : (A ++ ((spellN s.size 2 ++ sbytes s) ++ B)).length = p + (2 + s.size + B.length) := by simp [spellN_length, sbytes_length, hp]; omega
  rw [getTextN_ok _ p (by rw [h1, hlen]; omega), h1, drop_ahead A _ p 2 hp, List.append_assoc, drop_front _ _ 2 (spellN_length _ _), take_front _ _ _ (sbytes_length s), bstr_sbytes]
end Go.Proofs.Ytciifdmdkfickaa
