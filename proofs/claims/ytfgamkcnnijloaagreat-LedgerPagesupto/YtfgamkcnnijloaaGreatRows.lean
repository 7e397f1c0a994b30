/-
  No cell of these rows narrows 'for every input' (looked for: loops, veiled, ifaces, maps, wideKeys, modest, calm, conditions, laid).
  DERIVED. THE GIVEN ROWS OF THIS SEAT. 4 by the template 'for every input the law returns true; each argument reads behind the call as it read before'; 0 by the template 'total and deterministic' (their statements: YtfgamkcnnijloaaGreatTotals.lean).
  GIVEN WITH THE SEED: the statements are not yours to turn. If you find one false, say at which input.
  Laid BY PROGRAM, IN A SANDBOX (cutbox-rows.mjs): the forced cells as the released guide's own fill.sh prints them over the translation fe171534743b61e2… (all of the seat's roots in one cut). By AI agents, Wed Nov 11 2026. No macro, syntax, notation, axiom, sorry.
-/
import Derived.Test.YtfgamkcnnijloaaGreatChecked
import GoSem.Claim
import GoSem.ClaimJoined
import GoSem.ClaimMapViews
import Derived.JoinedTies
import Derived.KernelRfl
namespace Go.Proofs.YtfgamkcnnijloaaGreat
/- THE CELL 'sum', in the pinned program and in every row, IS THE sha256 OF THE DUMP (.gsa) THAT YtfgamkcnnijloaaGreatProg.lean LOADS. Nothing in Lean hashes anything: it is a label: what it is worth is what the hold of that sum in a sandbox is worth. -/
noncomputable def Tryz.pinned : Pinned := { name := "ytfgamkcnnijloaagreat", sum := "fe171534743b61e2eeaa4569cd19b87b15aa87881bbfed2b93408a84f9bf44fe", checked := Tryz.checked }
namespace Rows
def none {H : Type} : Left H := { results := [], args := [] }

/-- 'gazettelaw13.LedgerCommitted': WHATEVER THE INPUT: true; the input reads as it did. -/
def ledgerCommittedSpec : ChangeSpec := { name := "ledgerCommitted", fn := fun _ => fun
  | [d] => { results := [.lit (.bool true)], args := [d] }
  | _ => none }
def ledgerCommittedRow : OpenClaim := { program := "ytfgamkcnnijloaagreat", sum := "fe171534743b61e2eeaa4569cd19b87b15aa87881bbfed2b93408a84f9bf44fe", func := "gazette/gazettelaw13.LedgerCommitted", spec := "ledgerCommitted", unfollowed := true, recurses := true, apart := false }
def LedgerCommittedSaid : Prop := ledgerCommittedRow.holds Tryz.pinned (OpenSpec.ofChange ledgerCommittedSpec)

/-- ITS FALSE NEIGHBOUR: 'it returns false'. Refute it at one input. -/
def ledgerCommittedWrong : ChangeSpec := { name := "ledgerCommitted", fn := fun _ => fun
  | [d] => { results := [.lit (.bool false)], args := [d] }
  | _ => none }
def LedgerCommittedWrongFalsely : Prop := ledgerCommittedRow.holds Tryz.pinned (OpenSpec.ofChange ledgerCommittedWrong)

/-- 'gazettelaw13.LedgerReplayed': WHATEVER THE INPUT: true; the input reads as it did. -/
def ledgerReplayedSpec : ChangeSpec := { name := "ledgerReplayed", fn := fun _ => fun
  | [d] => { results := [.lit (.bool true)], args := [d] }
  | _ => none }
def ledgerReplayedRow : OpenClaim := { program := "ytfgamkcnnijloaagreat", sum := "fe171534743b61e2eeaa4569cd19b87b15aa87881bbfed2b93408a84f9bf44fe", func := "gazette/gazettelaw13.LedgerReplayed", spec := "ledgerReplayed", unfollowed := true, recurses := true, apart := false }
def LedgerReplayedSaid : Prop := ledgerReplayedRow.holds Tryz.pinned (OpenSpec.ofChange ledgerReplayedSpec)

/-- ITS FALSE NEIGHBOUR: 'it returns false'. Refute it at one input. -/
def ledgerReplayedWrong : ChangeSpec := { name := "ledgerReplayed", fn := fun _ => fun
  | [d] => { results := [.lit (.bool false)], args := [d] }
  | _ => none }
def LedgerReplayedWrongFalsely : Prop := ledgerReplayedRow.holds Tryz.pinned (OpenSpec.ofChange ledgerReplayedWrong)

/-- 'gazettelaw13.LedgerPages': WHATEVER THE INPUT: true; the input reads as it did. -/
def ledgerPagesSpec : ChangeSpec := { name := "ledgerPages", fn := fun _ => fun
  | [d1, d2, d3] => { results := [.lit (.bool true)], args := [d1, d2, d3] }
  | _ => none }
def ledgerPagesRow : OpenClaim := { program := "ytfgamkcnnijloaagreat", sum := "fe171534743b61e2eeaa4569cd19b87b15aa87881bbfed2b93408a84f9bf44fe", func := "gazette/gazettelaw13.LedgerPages", spec := "ledgerPages", unfollowed := true, recurses := true, apart := false }
def LedgerPagesSaid : Prop := ledgerPagesRow.holds Tryz.pinned (OpenSpec.ofChange ledgerPagesSpec)

/-- ITS FALSE NEIGHBOUR: 'it returns false'. Refute it at one input. -/
def ledgerPagesWrong : ChangeSpec := { name := "ledgerPages", fn := fun _ => fun
  | [d1, d2, d3] => { results := [.lit (.bool false)], args := [d1, d2, d3] }
  | _ => none }
def LedgerPagesWrongFalsely : Prop := ledgerPagesRow.holds Tryz.pinned (OpenSpec.ofChange ledgerPagesWrong)

/-- 'gazettelaw13.LedgerGrows': WHATEVER THE INPUT: true; the input reads as it did. -/
def ledgerGrowsSpec : ChangeSpec := { name := "ledgerGrows", fn := fun _ => fun
  | [d] => { results := [.lit (.bool true)], args := [d] }
  | _ => none }
def ledgerGrowsRow : OpenClaim := { program := "ytfgamkcnnijloaagreat", sum := "fe171534743b61e2eeaa4569cd19b87b15aa87881bbfed2b93408a84f9bf44fe", func := "gazette/gazettelaw13.LedgerGrows", spec := "ledgerGrows", unfollowed := true, recurses := true, apart := false }
def LedgerGrowsSaid : Prop := ledgerGrowsRow.holds Tryz.pinned (OpenSpec.ofChange ledgerGrowsSpec)

/-- ITS FALSE NEIGHBOUR: 'it returns false'. Refute it at one input. -/
def ledgerGrowsWrong : ChangeSpec := { name := "ledgerGrows", fn := fun _ => fun
  | [d] => { results := [.lit (.bool false)], args := [d] }
  | _ => none }
def LedgerGrowsWrongFalsely : Prop := ledgerGrowsRow.holds Tryz.pinned (OpenSpec.ofChange ledgerGrowsWrong)

/- THE SECOND FORM. 'bulk': how many values and letters a reading holds, each counted each time it is reached (what is shared counts as often as it is met; a slice's spare places count too). A statement '..UptoSaid' is the law's where the arguments, and the package variables that the reading takes, are together of bulk at most 1048576: NARROWER than '..Said'. Prove '..Said' where nothing that the law and all that it calls make is longer than what came in: it says more and counts as full. Else prove '..UptoSaid'. A law counts once. -/
mutual
def uptoBulk {H : Type} : DataW H → Nat
  | .lit (.string bytes) => bytes.length + 1
  | .lit _ => 1
  | .nil => 1
  | .ptr d => uptoBulk d + 1
  | .slice elems spare => uptoBulkAll elems + uptoBulkAll spare + 1
  | .agg parts => uptoBulkAll parts + 1
  | .iface _ d => uptoBulk d + 1
  | .map entries => uptoBulkEntries entries + 1
  | .held _ => 1
def uptoBulkAll {H : Type} : List (DataW H) → Nat
  | [] => 0
  | d :: r => uptoBulk d + uptoBulkAll r
def uptoBulkEntries {H : Type} : List (Lit × DataW H) → Nat
  | [] => 0
  | x :: r => uptoBulkEntry x + uptoBulkEntries r
def uptoBulkEntry {H : Type} : Lit × DataW H → Nat
  | (.string bytes, d) => bytes.length + uptoBulk d + 1
  | (_, d) => uptoBulk d + 1
 end
def uptoSmall : (H : Type) → List (DataW H) → Bool := fun _ ds => decide (uptoBulkAll ds ≤ 1048576)
def OpenSpec.upto (s : _root_.Go.ChangeSpec) : _root_.Go.OpenSpec := { _root_.Go.OpenSpec.ofChange s with cond := some uptoSmall }

/-- 'gazettelaw13.LedgerCommitted', WHERE WHAT IT READS IS OF BULK AT MOST 1048576: true; the input reads as it did. -/
def ledgerCommittedUptoRow : OpenClaim := { program := "ytfgamkcnnijloaagreat", sum := "fe171534743b61e2eeaa4569cd19b87b15aa87881bbfed2b93408a84f9bf44fe", func := "gazette/gazettelaw13.LedgerCommitted", spec := "ledgerCommitted", unfollowed := true, recurses := true, apart := false, narrowed := true }
def LedgerCommittedUptoSaid : Prop := ledgerCommittedUptoRow.holds Tryz.pinned (OpenSpec.upto ledgerCommittedSpec)

/-- 'gazettelaw13.LedgerReplayed', WHERE WHAT IT READS IS OF BULK AT MOST 1048576: true; the input reads as it did. -/
def ledgerReplayedUptoRow : OpenClaim := { program := "ytfgamkcnnijloaagreat", sum := "fe171534743b61e2eeaa4569cd19b87b15aa87881bbfed2b93408a84f9bf44fe", func := "gazette/gazettelaw13.LedgerReplayed", spec := "ledgerReplayed", unfollowed := true, recurses := true, apart := false, narrowed := true }
def LedgerReplayedUptoSaid : Prop := ledgerReplayedUptoRow.holds Tryz.pinned (OpenSpec.upto ledgerReplayedSpec)

/-- 'gazettelaw13.LedgerPages', WHERE WHAT IT READS IS OF BULK AT MOST 1048576: true; the input reads as it did. -/
def ledgerPagesUptoRow : OpenClaim := { program := "ytfgamkcnnijloaagreat", sum := "fe171534743b61e2eeaa4569cd19b87b15aa87881bbfed2b93408a84f9bf44fe", func := "gazette/gazettelaw13.LedgerPages", spec := "ledgerPages", unfollowed := true, recurses := true, apart := false, narrowed := true }
def LedgerPagesUptoSaid : Prop := ledgerPagesUptoRow.holds Tryz.pinned (OpenSpec.upto ledgerPagesSpec)

/-- 'gazettelaw13.LedgerGrows', WHERE WHAT IT READS IS OF BULK AT MOST 1048576: true; the input reads as it did. -/
def ledgerGrowsUptoRow : OpenClaim := { program := "ytfgamkcnnijloaagreat", sum := "fe171534743b61e2eeaa4569cd19b87b15aa87881bbfed2b93408a84f9bf44fe", func := "gazette/gazettelaw13.LedgerGrows", spec := "ledgerGrows", unfollowed := true, recurses := true, apart := false, narrowed := true }
def LedgerGrowsUptoSaid : Prop := ledgerGrowsUptoRow.holds Tryz.pinned (OpenSpec.upto ledgerGrowsSpec)

end Rows
end Go.Proofs.YtfgamkcnnijloaaGreat
