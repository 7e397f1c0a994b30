/-
  NARROWER THAN 'FOR EVERY INPUT', by the rows' own cells (each row's printed sentence says how): NetPlays: laid · NetNil: laid · NetMakes: laid · NetFates: laid.
  DERIVED. THE GIVEN ROWS OF THIS SEAT. 4 by the template 'for every input the law returns true; each argument reads behind the call as it read before'; 0 by the template 'total and deterministic' (their statements: YtgbjlkaaniaaaaaDoorTotals.lean).
  GIVEN WITH THE SEED: the statements are not yours to turn. If you find one false, say at which input.
  Laid BY PROGRAM, IN A SANDBOX (cutbox-rows.mjs): the forced cells as the released guide's own fill.sh prints them over the translation 2bfb5f6518c25d7b… (all of the seat's roots in one cut). By AI agents, Wed Nov 11 2026. No macro, syntax, notation, axiom, sorry.
-/
import Derived.Test.YtgbjlkaaniaaaaaDoorChecked
import GoSem.Claim
import GoSem.ClaimJoined
import GoSem.ClaimMapViews
import Derived.JoinedTies
import Derived.KernelRfl
namespace Go.Proofs.YtgbjlkaaniaaaaaDoor
/- THE CELL 'sum', in the pinned program and in every row, IS THE sha256 OF THE DUMP (.gsa) THAT YtgbjlkaaniaaaaaDoorProg.lean LOADS. Nothing in Lean hashes anything: it is a label: what it is worth is what the hold of that sum in a sandbox is worth. -/
noncomputable def Tryd.pinned : Pinned := { name := "ytgbjlkaaniaaaaadoor", sum := "2bfb5f6518c25d7b473fb2fa5749912fab1f6c9e29211b70ce6b67bb35858960", checked := Tryd.checked }
namespace Rows
def none {H : Type} : Left H := { results := [], args := [] }

/- WHAT THE LISTED PACKAGE-LEVEL VARIABLES READ AS WHEN THE CALL BEGINS. Each datum BY PROGRAM (the guide's laid-datum.mjs) off the statement by which the dump's own 'gosem.cut.vars' lays the variable. In a bare row this is a premise. The card (YtgbjlkaaniaaaaaDoorCards.lean) ties it to the program's text. -/
def laid_gazette_net_table {H : Type} : DataW H := .agg [.agg [.lit (.int .i64 1), .lit (.bool true), .lit (.bool false)], .agg [.lit (.int .i64 0), .lit (.bool false), .lit (.bool false)], .agg [.lit (.int .i64 1), .lit (.bool false), .lit (.bool false)], .agg [.lit (.int .i64 0), .lit (.bool false), .lit (.bool true)], .agg [.lit (.int .i64 2), .lit (.bool true), .lit (.bool false)]]

/-- 'gazettelaw06.NetPlays': WHATEVER THE INPUT: true; the input reads as it did. -/
def netPlaysSpec : ChangeSpec := { name := "netPlays", fn := fun _ => fun
  | [d1, d2] => { results := [.lit (.bool true)], args := [d1, d2] }
  | _ => none }
def netPlaysRow : OpenClaim := { program := "ytgbjlkaaniaaaaadoor", sum := "2bfb5f6518c25d7b473fb2fa5749912fab1f6c9e29211b70ce6b67bb35858960", func := "gazette/gazettelaw06.NetPlays", spec := "netPlays", named := ["gazette/net.table"], apart := false, laid := [("gazette/net.table", laid_gazette_net_table)] }
def NetPlaysSaid : Prop := netPlaysRow.holds Tryd.pinned (OpenSpec.ofChange netPlaysSpec)

/-- ITS FALSE NEIGHBOUR: 'it returns false'. Refute it at one input. -/
def netPlaysWrong : ChangeSpec := { name := "netPlays", fn := fun _ => fun
  | [d1, d2] => { results := [.lit (.bool false)], args := [d1, d2] }
  | _ => none }
def NetPlaysWrongFalsely : Prop := netPlaysRow.holds Tryd.pinned (OpenSpec.ofChange netPlaysWrong)

/-- 'gazettelaw06.NetNil': WHATEVER THE INPUT: true; the input reads as it did. -/
def netNilSpec : ChangeSpec := { name := "netNil", fn := fun _ => fun
  | [d1, d2, d3] => { results := [.lit (.bool true)], args := [d1, d2, d3] }
  | _ => none }
def netNilRow : OpenClaim := { program := "ytgbjlkaaniaaaaadoor", sum := "2bfb5f6518c25d7b473fb2fa5749912fab1f6c9e29211b70ce6b67bb35858960", func := "gazette/gazettelaw06.NetNil", spec := "netNil", named := ["gazette/net.table"], apart := false, laid := [("gazette/net.table", laid_gazette_net_table)] }
def NetNilSaid : Prop := netNilRow.holds Tryd.pinned (OpenSpec.ofChange netNilSpec)

/-- ITS FALSE NEIGHBOUR: 'it returns false'. Refute it at one input. -/
def netNilWrong : ChangeSpec := { name := "netNil", fn := fun _ => fun
  | [d1, d2, d3] => { results := [.lit (.bool false)], args := [d1, d2, d3] }
  | _ => none }
def NetNilWrongFalsely : Prop := netNilRow.holds Tryd.pinned (OpenSpec.ofChange netNilWrong)

/-- 'gazettelaw06.NetMakes': WHATEVER THE INPUT: true; the input reads as it did. -/
def netMakesSpec : ChangeSpec := { name := "netMakes", fn := fun _ => fun
  | [d] => { results := [.lit (.bool true)], args := [d] }
  | _ => none }
def netMakesRow : OpenClaim := { program := "ytgbjlkaaniaaaaadoor", sum := "2bfb5f6518c25d7b473fb2fa5749912fab1f6c9e29211b70ce6b67bb35858960", func := "gazette/gazettelaw06.NetMakes", spec := "netMakes", named := ["gazette/net.table"], apart := false, laid := [("gazette/net.table", laid_gazette_net_table)] }
def NetMakesSaid : Prop := netMakesRow.holds Tryd.pinned (OpenSpec.ofChange netMakesSpec)

/-- ITS FALSE NEIGHBOUR: 'it returns false'. Refute it at one input. -/
def netMakesWrong : ChangeSpec := { name := "netMakes", fn := fun _ => fun
  | [d] => { results := [.lit (.bool false)], args := [d] }
  | _ => none }
def NetMakesWrongFalsely : Prop := netMakesRow.holds Tryd.pinned (OpenSpec.ofChange netMakesWrong)

/-- 'gazettelaw06.NetFates': WHATEVER THE INPUT: true; the input reads as it did. -/
def netFatesSpec : ChangeSpec := { name := "netFates", fn := fun _ => fun
  | [d1, d2, d3] => { results := [.lit (.bool true)], args := [d1, d2, d3] }
  | _ => none }
def netFatesRow : OpenClaim := { program := "ytgbjlkaaniaaaaadoor", sum := "2bfb5f6518c25d7b473fb2fa5749912fab1f6c9e29211b70ce6b67bb35858960", func := "gazette/gazettelaw06.NetFates", spec := "netFates", named := ["gazette/net.table"], apart := false, laid := [("gazette/net.table", laid_gazette_net_table)] }
def NetFatesSaid : Prop := netFatesRow.holds Tryd.pinned (OpenSpec.ofChange netFatesSpec)

/-- ITS FALSE NEIGHBOUR: 'it returns false'. Refute it at one input. -/
def netFatesWrong : ChangeSpec := { name := "netFates", fn := fun _ => fun
  | [d1, d2, d3] => { results := [.lit (.bool false)], args := [d1, d2, d3] }
  | _ => none }
def NetFatesWrongFalsely : Prop := netFatesRow.holds Tryd.pinned (OpenSpec.ofChange netFatesWrong)

/- THE SECOND FORM. 'bulk': how many values and letters a reading holds, each counted each time it is reached (what is shared counts as often as it is met; a slice's spare places count too). A statement '..UptoSaid' is the law's where the arguments, and the package variables that the reading takes, are together of bulk at most 1048576: NARROWER than '..Said'. Prove '..Said' where nothing that the law and all that it calls make is longer than what came in: it says more and counts as full. Else prove '..UptoSaid'. A law counts once. -/
mutual
def uptoBulk {H : Type} : DataW H → Nat
  | .lit (.string bytes) => bytes.length + 1
  | .lit _ => 1
  | .nil => 1
  | .ptr d => uptoBulk d + 1
  | .slice elems spare => uptoBulkAll elems + uptoBulkAll spare + 1
  | .agg parts => uptoBulkAll parts + 1
  | .iface _ d => uptoBulk d + 1
  | .map entries => uptoBulkEntries entries + 1
  | .held _ => 1
def uptoBulkAll {H : Type} : List (DataW H) → Nat
  | [] => 0
  | d :: r => uptoBulk d + uptoBulkAll r
def uptoBulkEntries {H : Type} : List (Lit × DataW H) → Nat
  | [] => 0
  | x :: r => uptoBulkEntry x + uptoBulkEntries r
def uptoBulkEntry {H : Type} : Lit × DataW H → Nat
  | (.string bytes, d) => bytes.length + uptoBulk d + 1
  | (_, d) => uptoBulk d + 1
 end
def uptoSmall : (H : Type) → List (DataW H) → Bool := fun _ ds => decide (uptoBulkAll ds ≤ 1048576)
def OpenSpec.upto (s : _root_.Go.ChangeSpec) : _root_.Go.OpenSpec := { _root_.Go.OpenSpec.ofChange s with cond := some uptoSmall }

/-- 'gazettelaw06.NetPlays', WHERE WHAT IT READS IS OF BULK AT MOST 1048576: true; the input reads as it did. -/
def netPlaysUptoRow : OpenClaim := { program := "ytgbjlkaaniaaaaadoor", sum := "2bfb5f6518c25d7b473fb2fa5749912fab1f6c9e29211b70ce6b67bb35858960", func := "gazette/gazettelaw06.NetPlays", spec := "netPlays", named := ["gazette/net.table"], apart := false, laid := [("gazette/net.table", laid_gazette_net_table)], narrowed := true }
def NetPlaysUptoSaid : Prop := netPlaysUptoRow.holds Tryd.pinned (OpenSpec.upto netPlaysSpec)

/-- 'gazettelaw06.NetNil', WHERE WHAT IT READS IS OF BULK AT MOST 1048576: true; the input reads as it did. -/
def netNilUptoRow : OpenClaim := { program := "ytgbjlkaaniaaaaadoor", sum := "2bfb5f6518c25d7b473fb2fa5749912fab1f6c9e29211b70ce6b67bb35858960", func := "gazette/gazettelaw06.NetNil", spec := "netNil", named := ["gazette/net.table"], apart := false, laid := [("gazette/net.table", laid_gazette_net_table)], narrowed := true }
def NetNilUptoSaid : Prop := netNilUptoRow.holds Tryd.pinned (OpenSpec.upto netNilSpec)

/-- 'gazettelaw06.NetMakes', WHERE WHAT IT READS IS OF BULK AT MOST 1048576: true; the input reads as it did. -/
def netMakesUptoRow : OpenClaim := { program := "ytgbjlkaaniaaaaadoor", sum := "2bfb5f6518c25d7b473fb2fa5749912fab1f6c9e29211b70ce6b67bb35858960", func := "gazette/gazettelaw06.NetMakes", spec := "netMakes", named := ["gazette/net.table"], apart := false, laid := [("gazette/net.table", laid_gazette_net_table)], narrowed := true }
def NetMakesUptoSaid : Prop := netMakesUptoRow.holds Tryd.pinned (OpenSpec.upto netMakesSpec)

/-- 'gazettelaw06.NetFates', WHERE WHAT IT READS IS OF BULK AT MOST 1048576: true; the input reads as it did. -/
def netFatesUptoRow : OpenClaim := { program := "ytgbjlkaaniaaaaadoor", sum := "2bfb5f6518c25d7b473fb2fa5749912fab1f6c9e29211b70ce6b67bb35858960", func := "gazette/gazettelaw06.NetFates", spec := "netFates", named := ["gazette/net.table"], apart := false, laid := [("gazette/net.table", laid_gazette_net_table)], narrowed := true }
def NetFatesUptoSaid : Prop := netFatesUptoRow.holds Tryd.pinned (OpenSpec.upto netFatesSpec)

end Rows
end Go.Proofs.YtgbjlkaaniaaaaaDoor
