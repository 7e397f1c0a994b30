/-
  DERIVED. GIVEN WITH THE SEED: THE CARDS: each row of YtgbjlkaaniaaaaaDoorRows.lean that lists a variable, with what it lists TIED to the program's text (the seventh form; the later family's looks); each row that meets fmt, with fmt's text TOLD by the authors' own Lean function (tested against real Go, not proved from fmt's source: count such statements apart). THE CARD IS WHAT COUNTS. Prove the row's statement (the work); the ties are given (YtgbjlkaaniaaaaaDoorTie.lean); close each card by the builder's one call (the guide's Derived/Test/ToyasCard.lean, 'card_holds'). Laid BY PROGRAM, IN A SANDBOX (cutbox-door.mjs). By AI agents, Wed Nov 11 2026. No macro, syntax, notation, axiom, sorry.
-/
import Derived.Test.YtgbjlkaaniaaaaaDoorRows
import GoSem.ClaimSeven
namespace Go.Proofs.YtgbjlkaaniaaaaaDoor
namespace Rows

/-- THE TIED CARD OF 'gazettelaw06.NetPlays'. -/
def netPlaysCard : Claim7 := { stood := { row := netPlaysRow, standIns := [], harness := (true, "ac170b5072ebd4756d6c93d27dbd1c18bc7b3bb0becea1f9b778f98e272d7e9e"), looks := false }, kinds := [], alts := [], laidByText := true, laidKinds := [.data], laidTests := true, laidLooks := .later }
def NetPlaysCardSaid : Prop := Claim7.holds Tryd.pinned (.plain (OpenSpec.ofChange netPlaysSpec)) netPlaysCard

/-- THE TIED CARD OF 'gazettelaw06.NetNil'. -/
def netNilCard : Claim7 := { stood := { row := netNilRow, standIns := [], harness := (true, "ac170b5072ebd4756d6c93d27dbd1c18bc7b3bb0becea1f9b778f98e272d7e9e"), looks := false }, kinds := [], alts := [], laidByText := true, laidKinds := [.data], laidTests := true, laidLooks := .later }
def NetNilCardSaid : Prop := Claim7.holds Tryd.pinned (.plain (OpenSpec.ofChange netNilSpec)) netNilCard

/-- THE TIED CARD OF 'gazettelaw06.NetMakes'. -/
def netMakesCard : Claim7 := { stood := { row := netMakesRow, standIns := [], harness := (true, "ac170b5072ebd4756d6c93d27dbd1c18bc7b3bb0becea1f9b778f98e272d7e9e"), looks := false }, kinds := [], alts := [], laidByText := true, laidKinds := [.data], laidTests := true, laidLooks := .later }
def NetMakesCardSaid : Prop := Claim7.holds Tryd.pinned (.plain (OpenSpec.ofChange netMakesSpec)) netMakesCard

/-- THE TIED CARD OF 'gazettelaw06.NetFates'. -/
def netFatesCard : Claim7 := { stood := { row := netFatesRow, standIns := [], harness := (true, "ac170b5072ebd4756d6c93d27dbd1c18bc7b3bb0becea1f9b778f98e272d7e9e"), looks := false }, kinds := [], alts := [], laidByText := true, laidKinds := [.data], laidTests := true, laidLooks := .later }
def NetFatesCardSaid : Prop := Claim7.holds Tryd.pinned (.plain (OpenSpec.ofChange netFatesSpec)) netFatesCard

/-- THE SECOND FORM's CARD OF 'gazettelaw06.NetPlays'. -/
def netPlaysUptoCard : Claim7 := { stood := { row := netPlaysUptoRow, standIns := [], harness := (true, "ac170b5072ebd4756d6c93d27dbd1c18bc7b3bb0becea1f9b778f98e272d7e9e"), looks := false }, kinds := [], alts := [], laidByText := true, laidKinds := [.data], laidTests := true, laidLooks := .later }
def NetPlaysUptoCardSaid : Prop := Claim7.holds Tryd.pinned (.plain (OpenSpec.upto netPlaysSpec)) netPlaysUptoCard

/-- THE SECOND FORM's CARD OF 'gazettelaw06.NetNil'. -/
def netNilUptoCard : Claim7 := { stood := { row := netNilUptoRow, standIns := [], harness := (true, "ac170b5072ebd4756d6c93d27dbd1c18bc7b3bb0becea1f9b778f98e272d7e9e"), looks := false }, kinds := [], alts := [], laidByText := true, laidKinds := [.data], laidTests := true, laidLooks := .later }
def NetNilUptoCardSaid : Prop := Claim7.holds Tryd.pinned (.plain (OpenSpec.upto netNilSpec)) netNilUptoCard

/-- THE SECOND FORM's CARD OF 'gazettelaw06.NetMakes'. -/
def netMakesUptoCard : Claim7 := { stood := { row := netMakesUptoRow, standIns := [], harness := (true, "ac170b5072ebd4756d6c93d27dbd1c18bc7b3bb0becea1f9b778f98e272d7e9e"), looks := false }, kinds := [], alts := [], laidByText := true, laidKinds := [.data], laidTests := true, laidLooks := .later }
def NetMakesUptoCardSaid : Prop := Claim7.holds Tryd.pinned (.plain (OpenSpec.upto netMakesSpec)) netMakesUptoCard

/-- THE SECOND FORM's CARD OF 'gazettelaw06.NetFates'. -/
def netFatesUptoCard : Claim7 := { stood := { row := netFatesUptoRow, standIns := [], harness := (true, "ac170b5072ebd4756d6c93d27dbd1c18bc7b3bb0becea1f9b778f98e272d7e9e"), looks := false }, kinds := [], alts := [], laidByText := true, laidKinds := [.data], laidTests := true, laidLooks := .later }
def NetFatesUptoCardSaid : Prop := Claim7.holds Tryd.pinned (.plain (OpenSpec.upto netFatesSpec)) netFatesUptoCard
end Rows
end Go.Proofs.YtgbjlkaaniaaaaaDoor
