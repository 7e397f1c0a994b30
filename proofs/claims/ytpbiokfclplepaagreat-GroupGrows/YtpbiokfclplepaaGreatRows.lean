/-
  No cell of these rows narrows 'for every input' (looked for: loops, veiled, ifaces, maps, wideKeys, modest, calm, conditions, laid).
  DERIVED. THE GIVEN ROWS OF THIS SEAT. 6 by the template 'for every input the law returns true; each argument reads behind the call as it read before'; 0 by the template 'total and deterministic' (their statements: YtpbiokfclplepaaGreatTotals.lean).
  GIVEN WITH THE SEED: the statements are not yours to turn. If you find one false, say at which input.
  Laid BY PROGRAM, IN A SANDBOX (cutbox-rows.mjs): the forced cells as the released guide's own fill.sh prints them over the translation 1237c4bc1dda6379… (all of the seat's roots in one cut). By AI agents, Wed Nov 11 2026. No macro, syntax, notation, axiom, sorry.
-/
import Derived.Test.YtpbiokfclplepaaGreatChecked
import GoSem.Claim
import GoSem.ClaimJoined
import GoSem.ClaimMapViews
import Derived.JoinedTies
import Derived.KernelRfl
namespace Go.Proofs.YtpbiokfclplepaaGreat
/- THE CELL 'sum', in the pinned program and in every row, IS THE sha256 OF THE DUMP (.gsa) THAT YtpbiokfclplepaaGreatProg.lean LOADS. Nothing in Lean hashes anything: it is a label: what it is worth is what the hold of that sum in a sandbox is worth. -/
noncomputable def Tryz.pinned : Pinned := { name := "ytpbiokfclplepaagreat", sum := "1237c4bc1dda63791d49c147d87b3251ad1ffddf5c5cab72a70f71b70cb8dd8f", checked := Tryz.checked }
namespace Rows
def none {H : Type} : Left H := { results := [], args := [] }

/-- 'gazettelaw15.GroupBytes': WHATEVER THE INPUT: true; the input reads as it did. -/
def groupBytesSpec : ChangeSpec := { name := "groupBytes", fn := fun _ => fun
  | [d1, d2] => { results := [.lit (.bool true)], args := [d1, d2] }
  | _ => none }
def groupBytesRow : OpenClaim := { program := "ytpbiokfclplepaagreat", sum := "1237c4bc1dda63791d49c147d87b3251ad1ffddf5c5cab72a70f71b70cb8dd8f", func := "gazette/gazettelaw15.GroupBytes", spec := "groupBytes", unfollowed := true, recurses := true, apart := false }
def GroupBytesSaid : Prop := groupBytesRow.holds Tryz.pinned (OpenSpec.ofChange groupBytesSpec)

/-- ITS FALSE NEIGHBOUR: 'it returns false'. Refute it at one input. -/
def groupBytesWrong : ChangeSpec := { name := "groupBytes", fn := fun _ => fun
  | [d1, d2] => { results := [.lit (.bool false)], args := [d1, d2] }
  | _ => none }
def GroupBytesWrongFalsely : Prop := groupBytesRow.holds Tryz.pinned (OpenSpec.ofChange groupBytesWrong)

/-- 'gazettelaw15.GroupPlays': WHATEVER THE INPUT: true; the input reads as it did. -/
def groupPlaysSpec : ChangeSpec := { name := "groupPlays", fn := fun _ => fun
  | [d1, d2, d3, d4] => { results := [.lit (.bool true)], args := [d1, d2, d3, d4] }
  | _ => none }
def groupPlaysRow : OpenClaim := { program := "ytpbiokfclplepaagreat", sum := "1237c4bc1dda63791d49c147d87b3251ad1ffddf5c5cab72a70f71b70cb8dd8f", func := "gazette/gazettelaw15.GroupPlays", spec := "groupPlays", unfollowed := true, recurses := true, apart := false }
def GroupPlaysSaid : Prop := groupPlaysRow.holds Tryz.pinned (OpenSpec.ofChange groupPlaysSpec)

/-- ITS FALSE NEIGHBOUR: 'it returns false'. Refute it at one input. -/
def groupPlaysWrong : ChangeSpec := { name := "groupPlays", fn := fun _ => fun
  | [d1, d2, d3, d4] => { results := [.lit (.bool false)], args := [d1, d2, d3, d4] }
  | _ => none }
def GroupPlaysWrongFalsely : Prop := groupPlaysRow.holds Tryz.pinned (OpenSpec.ofChange groupPlaysWrong)

/-- 'gazettelaw15.GroupNil': WHATEVER THE INPUT: true; the input reads as it did. -/
def groupNilSpec : ChangeSpec := { name := "groupNil", fn := fun _ => fun
  | [d1, d2] => { results := [.lit (.bool true)], args := [d1, d2] }
  | _ => none }
def groupNilRow : OpenClaim := { program := "ytpbiokfclplepaagreat", sum := "1237c4bc1dda63791d49c147d87b3251ad1ffddf5c5cab72a70f71b70cb8dd8f", func := "gazette/gazettelaw15.GroupNil", spec := "groupNil", unfollowed := true, recurses := true, apart := false }
def GroupNilSaid : Prop := groupNilRow.holds Tryz.pinned (OpenSpec.ofChange groupNilSpec)

/-- ITS FALSE NEIGHBOUR: 'it returns false'. Refute it at one input. -/
def groupNilWrong : ChangeSpec := { name := "groupNil", fn := fun _ => fun
  | [d1, d2] => { results := [.lit (.bool false)], args := [d1, d2] }
  | _ => none }
def GroupNilWrongFalsely : Prop := groupNilRow.holds Tryz.pinned (OpenSpec.ofChange groupNilWrong)

/-- 'gazettelaw15.GroupGrows': WHATEVER THE INPUT: true; the input reads as it did. -/
def groupGrowsSpec : ChangeSpec := { name := "groupGrows", fn := fun _ => fun
  | [d1, d2] => { results := [.lit (.bool true)], args := [d1, d2] }
  | _ => none }
def groupGrowsRow : OpenClaim := { program := "ytpbiokfclplepaagreat", sum := "1237c4bc1dda63791d49c147d87b3251ad1ffddf5c5cab72a70f71b70cb8dd8f", func := "gazette/gazettelaw15.GroupGrows", spec := "groupGrows", unfollowed := true, recurses := true, apart := false }
def GroupGrowsSaid : Prop := groupGrowsRow.holds Tryz.pinned (OpenSpec.ofChange groupGrowsSpec)

/-- ITS FALSE NEIGHBOUR: 'it returns false'. Refute it at one input. -/
def groupGrowsWrong : ChangeSpec := { name := "groupGrows", fn := fun _ => fun
  | [d1, d2] => { results := [.lit (.bool false)], args := [d1, d2] }
  | _ => none }
def GroupGrowsWrongFalsely : Prop := groupGrowsRow.holds Tryz.pinned (OpenSpec.ofChange groupGrowsWrong)

/-- 'gazettelaw15.GroupOffsets': WHATEVER THE INPUT: true; the input reads as it did. -/
def groupOffsetsSpec : ChangeSpec := { name := "groupOffsets", fn := fun _ => fun
  | [d] => { results := [.lit (.bool true)], args := [d] }
  | _ => none }
def groupOffsetsRow : OpenClaim := { program := "ytpbiokfclplepaagreat", sum := "1237c4bc1dda63791d49c147d87b3251ad1ffddf5c5cab72a70f71b70cb8dd8f", func := "gazette/gazettelaw15.GroupOffsets", spec := "groupOffsets", unfollowed := true, recurses := true, apart := false }
def GroupOffsetsSaid : Prop := groupOffsetsRow.holds Tryz.pinned (OpenSpec.ofChange groupOffsetsSpec)

/-- ITS FALSE NEIGHBOUR: 'it returns false'. Refute it at one input. -/
def groupOffsetsWrong : ChangeSpec := { name := "groupOffsets", fn := fun _ => fun
  | [d] => { results := [.lit (.bool false)], args := [d] }
  | _ => none }
def GroupOffsetsWrongFalsely : Prop := groupOffsetsRow.holds Tryz.pinned (OpenSpec.ofChange groupOffsetsWrong)

/-- 'gazettelaw15.GroupReplayed': WHATEVER THE INPUT: true; the input reads as it did. -/
def groupReplayedSpec : ChangeSpec := { name := "groupReplayed", fn := fun _ => fun
  | [d] => { results := [.lit (.bool true)], args := [d] }
  | _ => none }
def groupReplayedRow : OpenClaim := { program := "ytpbiokfclplepaagreat", sum := "1237c4bc1dda63791d49c147d87b3251ad1ffddf5c5cab72a70f71b70cb8dd8f", func := "gazette/gazettelaw15.GroupReplayed", spec := "groupReplayed", unfollowed := true, recurses := true, apart := false }
def GroupReplayedSaid : Prop := groupReplayedRow.holds Tryz.pinned (OpenSpec.ofChange groupReplayedSpec)

/-- ITS FALSE NEIGHBOUR: 'it returns false'. Refute it at one input. -/
def groupReplayedWrong : ChangeSpec := { name := "groupReplayed", fn := fun _ => fun
  | [d] => { results := [.lit (.bool false)], args := [d] }
  | _ => none }
def GroupReplayedWrongFalsely : Prop := groupReplayedRow.holds Tryz.pinned (OpenSpec.ofChange groupReplayedWrong)

/- THE SECOND FORM. 'bulk': how many values and letters a reading holds, each counted each time it is reached (what is shared counts as often as it is met; a slice's spare places count too). A statement '..UptoSaid' is the law's where the arguments, and the package variables that the reading takes, are together of bulk at most 1048576: NARROWER than '..Said'. Prove '..Said' where nothing that the law and all that it calls make is longer than what came in: it says more and counts as full. Else prove '..UptoSaid'. A law counts once. -/
mutual
def uptoBulk {H : Type} : DataW H → Nat
  | .lit (.string bytes) => bytes.length + 1
  | .lit _ => 1
  | .nil => 1
  | .ptr d => uptoBulk d + 1
  | .slice elems spare => uptoBulkAll elems + uptoBulkAll spare + 1
  | .agg parts => uptoBulkAll parts + 1
  | .iface _ d => uptoBulk d + 1
  | .map entries => uptoBulkEntries entries + 1
  | .held _ => 1
def uptoBulkAll {H : Type} : List (DataW H) → Nat
  | [] => 0
  | d :: r => uptoBulk d + uptoBulkAll r
def uptoBulkEntries {H : Type} : List (Lit × DataW H) → Nat
  | [] => 0
  | x :: r => uptoBulkEntry x + uptoBulkEntries r
def uptoBulkEntry {H : Type} : Lit × DataW H → Nat
  | (.string bytes, d) => bytes.length + uptoBulk d + 1
  | (_, d) => uptoBulk d + 1
 end
def uptoSmall : (H : Type) → List (DataW H) → Bool := fun _ ds => decide (uptoBulkAll ds ≤ 1048576)
def OpenSpec.upto (s : _root_.Go.ChangeSpec) : _root_.Go.OpenSpec := { _root_.Go.OpenSpec.ofChange s with cond := some uptoSmall }

/-- 'gazettelaw15.GroupBytes', WHERE WHAT IT READS IS OF BULK AT MOST 1048576: true; the input reads as it did. -/
def groupBytesUptoRow : OpenClaim := { program := "ytpbiokfclplepaagreat", sum := "1237c4bc1dda63791d49c147d87b3251ad1ffddf5c5cab72a70f71b70cb8dd8f", func := "gazette/gazettelaw15.GroupBytes", spec := "groupBytes", unfollowed := true, recurses := true, apart := false, narrowed := true }
def GroupBytesUptoSaid : Prop := groupBytesUptoRow.holds Tryz.pinned (OpenSpec.upto groupBytesSpec)

/-- 'gazettelaw15.GroupPlays', WHERE WHAT IT READS IS OF BULK AT MOST 1048576: true; the input reads as it did. -/
def groupPlaysUptoRow : OpenClaim := { program := "ytpbiokfclplepaagreat", sum := "1237c4bc1dda63791d49c147d87b3251ad1ffddf5c5cab72a70f71b70cb8dd8f", func := "gazette/gazettelaw15.GroupPlays", spec := "groupPlays", unfollowed := true, recurses := true, apart := false, narrowed := true }
def GroupPlaysUptoSaid : Prop := groupPlaysUptoRow.holds Tryz.pinned (OpenSpec.upto groupPlaysSpec)

/-- 'gazettelaw15.GroupNil', WHERE WHAT IT READS IS OF BULK AT MOST 1048576: true; the input reads as it did. -/
def groupNilUptoRow : OpenClaim := { program := "ytpbiokfclplepaagreat", sum := "1237c4bc1dda63791d49c147d87b3251ad1ffddf5c5cab72a70f71b70cb8dd8f", func := "gazette/gazettelaw15.GroupNil", spec := "groupNil", unfollowed := true, recurses := true, apart := false, narrowed := true }
def GroupNilUptoSaid : Prop := groupNilUptoRow.holds Tryz.pinned (OpenSpec.upto groupNilSpec)

/-- 'gazettelaw15.GroupGrows', WHERE WHAT IT READS IS OF BULK AT MOST 1048576: true; the input reads as it did. -/
def groupGrowsUptoRow : OpenClaim := { program := "ytpbiokfclplepaagreat", sum := "1237c4bc1dda63791d49c147d87b3251ad1ffddf5c5cab72a70f71b70cb8dd8f", func := "gazette/gazettelaw15.GroupGrows", spec := "groupGrows", unfollowed := true, recurses := true, apart := false, narrowed := true }
def GroupGrowsUptoSaid : Prop := groupGrowsUptoRow.holds Tryz.pinned (OpenSpec.upto groupGrowsSpec)

/-- 'gazettelaw15.GroupOffsets', WHERE WHAT IT READS IS OF BULK AT MOST 1048576: true; the input reads as it did. -/
def groupOffsetsUptoRow : OpenClaim := { program := "ytpbiokfclplepaagreat", sum := "1237c4bc1dda63791d49c147d87b3251ad1ffddf5c5cab72a70f71b70cb8dd8f", func := "gazette/gazettelaw15.GroupOffsets", spec := "groupOffsets", unfollowed := true, recurses := true, apart := false, narrowed := true }
def GroupOffsetsUptoSaid : Prop := groupOffsetsUptoRow.holds Tryz.pinned (OpenSpec.upto groupOffsetsSpec)

/-- 'gazettelaw15.GroupReplayed', WHERE WHAT IT READS IS OF BULK AT MOST 1048576: true; the input reads as it did. -/
def groupReplayedUptoRow : OpenClaim := { program := "ytpbiokfclplepaagreat", sum := "1237c4bc1dda63791d49c147d87b3251ad1ffddf5c5cab72a70f71b70cb8dd8f", func := "gazette/gazettelaw15.GroupReplayed", spec := "groupReplayed", unfollowed := true, recurses := true, apart := false, narrowed := true }
def GroupReplayedUptoSaid : Prop := groupReplayedUptoRow.holds Tryz.pinned (OpenSpec.upto groupReplayedSpec)

end Rows
end Go.Proofs.YtpbiokfclplepaaGreat
