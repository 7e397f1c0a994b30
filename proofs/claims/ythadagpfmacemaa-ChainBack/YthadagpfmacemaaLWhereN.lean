/- What where of the law's package answers, as plain data. -/
import Derived.Test.YthadagpfmacemaaCFind
namespace Go.Proofs.Ythadagpfmacemaa
open Go.RowKit
variable {w : World} {l : List Pt} {A : Nat → Sl} {ad : Option Addr} {m c : Nat}

/-- where's answer. -/
def whereN (t : Int) (l : List Pt) (a : Int) : Option (Int × Int) := match findN t l a with
  | none => none
  | some (i, q) => some ((ptAt l i).id, q)
def whereV (x : Option (Int × Int)) : Value := match x with
  | none => .tuple #[.int .i64 0, .int .i64 0, .bool false]
  | some (i, q) => .tuple #[.int .i64 i, .int .i64 q, .bool true]
theorem findN_lt {t : Int} {l : List Pt} {a : Int} {i : Nat} {q : Int} (h : findN t l a = some (i, q)) : i < l.length := by
  unfold findN at h
  split at h
  · cases h
  · split at h
    · cases h
    · rename_i k hk
      split at h
      · cases h
      · cases h
        exact (holdT_lt hk).1
end Go.Proofs.Ythadagpfmacemaa
