/-
  No cell of these rows narrows 'for every input' (looked for: loops, veiled, ifaces, maps, wideKeys, modest, calm, conditions, laid).
  DERIVED. THE GIVEN ROWS OF THIS SEAT. 6 by the template 'for every input the law returns true; each argument reads behind the call as it read before'; 0 by the template 'total and deterministic' (their statements: YtdifchlbnilenaaGreatTotals.lean).
  GIVEN WITH THE SEED: the statements are not yours to turn. If you find one false, say at which input.
  Laid BY PROGRAM, IN A SANDBOX (cutbox-rows.mjs): the forced cells as the released guide's own fill.sh prints them over the translation 396483bba1010ded… (all of the seat's roots in one cut). By AI agents, Wed Nov 11 2026. No macro, syntax, notation, axiom, sorry.
-/
import Derived.Test.YtdifchlbnilenaaGreatChecked
import GoSem.Claim
import GoSem.ClaimJoined
import GoSem.ClaimMapViews
import Derived.JoinedTies
import Derived.KernelRfl
namespace Go.Proofs.YtdifchlbnilenaaGreat
/- THE CELL 'sum', in the pinned program and in every row, IS THE sha256 OF THE DUMP (.gsa) THAT YtdifchlbnilenaaGreatProg.lean LOADS. Nothing in Lean hashes anything: it is a label: what it is worth is what the hold of that sum in a sandbox is worth. -/
noncomputable def Tryz.pinned : Pinned := { name := "ytdifchlbnilenaagreat", sum := "396483bba1010dede586d93c4543879465b77887e3fed2d1df86ed6694d1ded2", checked := Tryz.checked }
namespace Rows
def none {H : Type} : Left H := { results := [], args := [] }

/-- 'gazettelaw13.LedgerBytes': WHATEVER THE INPUT: true; the input reads as it did. -/
def ledgerBytesSpec : ChangeSpec := { name := "ledgerBytes", fn := fun _ => fun
  | [d1, d2] => { results := [.lit (.bool true)], args := [d1, d2] }
  | _ => none }
def ledgerBytesRow : OpenClaim := { program := "ytdifchlbnilenaagreat", sum := "396483bba1010dede586d93c4543879465b77887e3fed2d1df86ed6694d1ded2", func := "gazette/gazettelaw13.LedgerBytes", spec := "ledgerBytes", unfollowed := true, recurses := true, apart := false }
def LedgerBytesSaid : Prop := ledgerBytesRow.holds Tryz.pinned (OpenSpec.ofChange ledgerBytesSpec)

/-- ITS FALSE NEIGHBOUR: 'it returns false'. Refute it at one input. -/
def ledgerBytesWrong : ChangeSpec := { name := "ledgerBytes", fn := fun _ => fun
  | [d1, d2] => { results := [.lit (.bool false)], args := [d1, d2] }
  | _ => none }
def LedgerBytesWrongFalsely : Prop := ledgerBytesRow.holds Tryz.pinned (OpenSpec.ofChange ledgerBytesWrong)

/-- 'gazettelaw13.LedgerPlays': WHATEVER THE INPUT: true; the input reads as it did. -/
def ledgerPlaysSpec : ChangeSpec := { name := "ledgerPlays", fn := fun _ => fun
  | [d1, d2, d3, d4, d5] => { results := [.lit (.bool true)], args := [d1, d2, d3, d4, d5] }
  | _ => none }
def ledgerPlaysRow : OpenClaim := { program := "ytdifchlbnilenaagreat", sum := "396483bba1010dede586d93c4543879465b77887e3fed2d1df86ed6694d1ded2", func := "gazette/gazettelaw13.LedgerPlays", spec := "ledgerPlays", unfollowed := true, recurses := true, apart := false }
def LedgerPlaysSaid : Prop := ledgerPlaysRow.holds Tryz.pinned (OpenSpec.ofChange ledgerPlaysSpec)

/-- ITS FALSE NEIGHBOUR: 'it returns false'. Refute it at one input. -/
def ledgerPlaysWrong : ChangeSpec := { name := "ledgerPlays", fn := fun _ => fun
  | [d1, d2, d3, d4, d5] => { results := [.lit (.bool false)], args := [d1, d2, d3, d4, d5] }
  | _ => none }
def LedgerPlaysWrongFalsely : Prop := ledgerPlaysRow.holds Tryz.pinned (OpenSpec.ofChange ledgerPlaysWrong)

/-- 'gazettelaw13.LedgerNil': WHATEVER THE INPUT: true; the input reads as it did. -/
def ledgerNilSpec : ChangeSpec := { name := "ledgerNil", fn := fun _ => fun
  | [d1, d2] => { results := [.lit (.bool true)], args := [d1, d2] }
  | _ => none }
def ledgerNilRow : OpenClaim := { program := "ytdifchlbnilenaagreat", sum := "396483bba1010dede586d93c4543879465b77887e3fed2d1df86ed6694d1ded2", func := "gazette/gazettelaw13.LedgerNil", spec := "ledgerNil", unfollowed := true, recurses := true, apart := false }
def LedgerNilSaid : Prop := ledgerNilRow.holds Tryz.pinned (OpenSpec.ofChange ledgerNilSpec)

/-- ITS FALSE NEIGHBOUR: 'it returns false'. Refute it at one input. -/
def ledgerNilWrong : ChangeSpec := { name := "ledgerNil", fn := fun _ => fun
  | [d1, d2] => { results := [.lit (.bool false)], args := [d1, d2] }
  | _ => none }
def LedgerNilWrongFalsely : Prop := ledgerNilRow.holds Tryz.pinned (OpenSpec.ofChange ledgerNilWrong)

/-- 'gazettelaw13.LedgerCommitted': WHATEVER THE INPUT: true; the input reads as it did. -/
def ledgerCommittedSpec : ChangeSpec := { name := "ledgerCommitted", fn := fun _ => fun
  | [d] => { results := [.lit (.bool true)], args := [d] }
  | _ => none }
def ledgerCommittedRow : OpenClaim := { program := "ytdifchlbnilenaagreat", sum := "396483bba1010dede586d93c4543879465b77887e3fed2d1df86ed6694d1ded2", func := "gazette/gazettelaw13.LedgerCommitted", spec := "ledgerCommitted", unfollowed := true, recurses := true, apart := false }
def LedgerCommittedSaid : Prop := ledgerCommittedRow.holds Tryz.pinned (OpenSpec.ofChange ledgerCommittedSpec)

/-- ITS FALSE NEIGHBOUR: 'it returns false'. Refute it at one input. -/
def ledgerCommittedWrong : ChangeSpec := { name := "ledgerCommitted", fn := fun _ => fun
  | [d] => { results := [.lit (.bool false)], args := [d] }
  | _ => none }
def LedgerCommittedWrongFalsely : Prop := ledgerCommittedRow.holds Tryz.pinned (OpenSpec.ofChange ledgerCommittedWrong)

/-- 'gazettelaw13.LedgerCompacts': WHATEVER THE INPUT: true; the input reads as it did. -/
def ledgerCompactsSpec : ChangeSpec := { name := "ledgerCompacts", fn := fun _ => fun
  | [d1, d2, d3] => { results := [.lit (.bool true)], args := [d1, d2, d3] }
  | _ => none }
def ledgerCompactsRow : OpenClaim := { program := "ytdifchlbnilenaagreat", sum := "396483bba1010dede586d93c4543879465b77887e3fed2d1df86ed6694d1ded2", func := "gazette/gazettelaw13.LedgerCompacts", spec := "ledgerCompacts", unfollowed := true, recurses := true, apart := false }
def LedgerCompactsSaid : Prop := ledgerCompactsRow.holds Tryz.pinned (OpenSpec.ofChange ledgerCompactsSpec)

/-- ITS FALSE NEIGHBOUR: 'it returns false'. Refute it at one input. -/
def ledgerCompactsWrong : ChangeSpec := { name := "ledgerCompacts", fn := fun _ => fun
  | [d1, d2, d3] => { results := [.lit (.bool false)], args := [d1, d2, d3] }
  | _ => none }
def LedgerCompactsWrongFalsely : Prop := ledgerCompactsRow.holds Tryz.pinned (OpenSpec.ofChange ledgerCompactsWrong)

/-- 'gazettelaw13.LedgerReplayed': WHATEVER THE INPUT: true; the input reads as it did. -/
def ledgerReplayedSpec : ChangeSpec := { name := "ledgerReplayed", fn := fun _ => fun
  | [d] => { results := [.lit (.bool true)], args := [d] }
  | _ => none }
def ledgerReplayedRow : OpenClaim := { program := "ytdifchlbnilenaagreat", sum := "396483bba1010dede586d93c4543879465b77887e3fed2d1df86ed6694d1ded2", func := "gazette/gazettelaw13.LedgerReplayed", spec := "ledgerReplayed", unfollowed := true, recurses := true, apart := false }
def LedgerReplayedSaid : Prop := ledgerReplayedRow.holds Tryz.pinned (OpenSpec.ofChange ledgerReplayedSpec)

/-- ITS FALSE NEIGHBOUR: 'it returns false'. Refute it at one input. -/
def ledgerReplayedWrong : ChangeSpec := { name := "ledgerReplayed", fn := fun _ => fun
  | [d] => { results := [.lit (.bool false)], args := [d] }
  | _ => none }
def LedgerReplayedWrongFalsely : Prop := ledgerReplayedRow.holds Tryz.pinned (OpenSpec.ofChange ledgerReplayedWrong)

/- THE SECOND FORM. 'bulk': how many values and letters a reading holds, each counted each time it is reached (what is shared counts as often as it is met; a slice's spare places count too). A statement '..UptoSaid' is the law's where the arguments, and the package variables that the reading takes, are together of bulk at most 1048576: NARROWER than '..Said'. Prove '..Said' where nothing that the law and all that it calls make is longer than what came in: it says more and counts as full. Else prove '..UptoSaid'. A law counts once. -/
mutual
def uptoBulk {H : Type} : DataW H → Nat
  | .lit (.string bytes) => bytes.length + 1
  | .lit _ => 1
  | .nil => 1
  | .ptr d => uptoBulk d + 1
  | .slice elems spare => uptoBulkAll elems + uptoBulkAll spare + 1
  | .agg parts => uptoBulkAll parts + 1
  | .iface _ d => uptoBulk d + 1
  | .map entries => uptoBulkEntries entries + 1
  | .held _ => 1
def uptoBulkAll {H : Type} : List (DataW H) → Nat
  | [] => 0
  | d :: r => uptoBulk d + uptoBulkAll r
def uptoBulkEntries {H : Type} : List (Lit × DataW H) → Nat
  | [] => 0
  | x :: r => uptoBulkEntry x + uptoBulkEntries r
def uptoBulkEntry {H : Type} : Lit × DataW H → Nat
  | (.string bytes, d) => bytes.length + uptoBulk d + 1
  | (_, d) => uptoBulk d + 1
 end
def uptoSmall : (H : Type) → List (DataW H) → Bool := fun _ ds => decide (uptoBulkAll ds ≤ 1048576)
def OpenSpec.upto (s : _root_.Go.ChangeSpec) : _root_.Go.OpenSpec := { _root_.Go.OpenSpec.ofChange s with cond := some uptoSmall }

/-- 'gazettelaw13.LedgerBytes', WHERE WHAT IT READS IS OF BULK AT MOST 1048576: true; the input reads as it did. -/
def ledgerBytesUptoRow : OpenClaim := { program := "ytdifchlbnilenaagreat", sum := "396483bba1010dede586d93c4543879465b77887e3fed2d1df86ed6694d1ded2", func := "gazette/gazettelaw13.LedgerBytes", spec := "ledgerBytes", unfollowed := true, recurses := true, apart := false, narrowed := true }
def LedgerBytesUptoSaid : Prop := ledgerBytesUptoRow.holds Tryz.pinned (OpenSpec.upto ledgerBytesSpec)

/-- 'gazettelaw13.LedgerPlays', WHERE WHAT IT READS IS OF BULK AT MOST 1048576: true; the input reads as it did. -/
def ledgerPlaysUptoRow : OpenClaim := { program := "ytdifchlbnilenaagreat", sum := "396483bba1010dede586d93c4543879465b77887e3fed2d1df86ed6694d1ded2", func := "gazette/gazettelaw13.LedgerPlays", spec := "ledgerPlays", unfollowed := true, recurses := true, apart := false, narrowed := true }
def LedgerPlaysUptoSaid : Prop := ledgerPlaysUptoRow.holds Tryz.pinned (OpenSpec.upto ledgerPlaysSpec)

/-- 'gazettelaw13.LedgerNil', WHERE WHAT IT READS IS OF BULK AT MOST 1048576: true; the input reads as it did. -/
def ledgerNilUptoRow : OpenClaim := { program := "ytdifchlbnilenaagreat", sum := "396483bba1010dede586d93c4543879465b77887e3fed2d1df86ed6694d1ded2", func := "gazette/gazettelaw13.LedgerNil", spec := "ledgerNil", unfollowed := true, recurses := true, apart := false, narrowed := true }
def LedgerNilUptoSaid : Prop := ledgerNilUptoRow.holds Tryz.pinned (OpenSpec.upto ledgerNilSpec)

/-- 'gazettelaw13.LedgerCommitted', WHERE WHAT IT READS IS OF BULK AT MOST 1048576: true; the input reads as it did. -/
def ledgerCommittedUptoRow : OpenClaim := { program := "ytdifchlbnilenaagreat", sum := "396483bba1010dede586d93c4543879465b77887e3fed2d1df86ed6694d1ded2", func := "gazette/gazettelaw13.LedgerCommitted", spec := "ledgerCommitted", unfollowed := true, recurses := true, apart := false, narrowed := true }
def LedgerCommittedUptoSaid : Prop := ledgerCommittedUptoRow.holds Tryz.pinned (OpenSpec.upto ledgerCommittedSpec)

/-- 'gazettelaw13.LedgerCompacts', WHERE WHAT IT READS IS OF BULK AT MOST 1048576: true; the input reads as it did. -/
def ledgerCompactsUptoRow : OpenClaim := { program := "ytdifchlbnilenaagreat", sum := "396483bba1010dede586d93c4543879465b77887e3fed2d1df86ed6694d1ded2", func := "gazette/gazettelaw13.LedgerCompacts", spec := "ledgerCompacts", unfollowed := true, recurses := true, apart := false, narrowed := true }
def LedgerCompactsUptoSaid : Prop := ledgerCompactsUptoRow.holds Tryz.pinned (OpenSpec.upto ledgerCompactsSpec)

/-- 'gazettelaw13.LedgerReplayed', WHERE WHAT IT READS IS OF BULK AT MOST 1048576: true; the input reads as it did. -/
def ledgerReplayedUptoRow : OpenClaim := { program := "ytdifchlbnilenaagreat", sum := "396483bba1010dede586d93c4543879465b77887e3fed2d1df86ed6694d1ded2", func := "gazette/gazettelaw13.LedgerReplayed", spec := "ledgerReplayed", unfollowed := true, recurses := true, apart := false, narrowed := true }
def LedgerReplayedUptoSaid : Prop := ledgerReplayedUptoRow.holds Tryz.pinned (OpenSpec.upto ledgerReplayedSpec)

end Rows
end Go.Proofs.YtdifchlbnilenaaGreat
