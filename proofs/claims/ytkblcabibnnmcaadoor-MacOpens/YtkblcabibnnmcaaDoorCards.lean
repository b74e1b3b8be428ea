/-
  DERIVED. GIVEN WITH THE SEED: THE CARDS: each row of YtkblcabibnnmcaaDoorRows.lean that lists a variable, with what it lists TIED to the program's text (the seventh form; the later family's looks); each row that meets fmt, with fmt's text TOLD by the authors' own Lean function (tested against real Go, not proved from fmt's source: count such statements apart). THE CARD IS WHAT COUNTS. Prove the row's statement (the work); the ties are given (YtkblcabibnnmcaaDoorTie.lean); close each card by the builder's one call (the guide's Derived/Test/ToyasCard.lean, 'card_holds'). Laid BY PROGRAM, IN A SANDBOX (cutbox-door.mjs). By AI agents, Wed Nov 11 2026. No macro, syntax, notation, axiom, sorry.
-/
import Derived.Test.YtkblcabibnnmcaaDoorRows
import GoSem.ClaimSeven
namespace Go.Proofs.YtkblcabibnnmcaaDoor
namespace Rows

/-- THE TIED CARD OF 'sumpterlaw05.MacOfs'. -/
def macOfsCard : Claim7 := { stood := { row := macOfsRow, standIns := [], harness := (true, "bb2639f82cf13c078400e948ed614f4e72de0eb27ba8ce2f65b85c36a00517ca"), looks := false }, kinds := [], alts := [], laidByText := true, laidKinds := [.data, .data, .data], laidTests := true, laidLooks := .later }
def MacOfsCardSaid : Prop := Claim7.holds Tryd.pinned (.plain (OpenSpec.ofChange macOfsSpec)) macOfsCard

/-- THE TIED CARD OF 'sumpterlaw05.MacLabels'. -/
def macLabelsCard : Claim7 := { stood := { row := macLabelsRow, standIns := [], harness := (true, "bb2639f82cf13c078400e948ed614f4e72de0eb27ba8ce2f65b85c36a00517ca"), looks := false }, kinds := [], alts := [], laidByText := true, laidKinds := [.data, .data, .data], laidTests := true, laidLooks := .later }
def MacLabelsCardSaid : Prop := Claim7.holds Tryd.pinned (.plain (OpenSpec.ofChange macLabelsSpec)) macLabelsCard

/-- THE TIED CARD OF 'sumpterlaw05.MacOpens'. -/
def macOpensCard : Claim7 := { stood := { row := macOpensRow, standIns := [], harness := (true, "bb2639f82cf13c078400e948ed614f4e72de0eb27ba8ce2f65b85c36a00517ca"), looks := false }, kinds := [], alts := [], laidByText := true, laidKinds := [.data, .data, .data], laidTests := true, laidLooks := .later }
def MacOpensCardSaid : Prop := Claim7.holds Tryd.pinned (.plain (OpenSpec.ofChange macOpensSpec)) macOpensCard

/-- THE TIED CARD OF 'sumpterlaw05.MacBack'. -/
def macBackCard : Claim7 := { stood := { row := macBackRow, standIns := [], harness := (true, "bb2639f82cf13c078400e948ed614f4e72de0eb27ba8ce2f65b85c36a00517ca"), looks := false }, kinds := [], alts := [], laidByText := true, laidKinds := [.data, .data, .data], laidTests := true, laidLooks := .later }
def MacBackCardSaid : Prop := Claim7.holds Tryd.pinned (.plain (OpenSpec.ofChange macBackSpec)) macBackCard

/-- THE TIED CARD OF 'sumpterlaw05.MacKeys'. -/
def macKeysCard : Claim7 := { stood := { row := macKeysRow, standIns := [], harness := (true, "bb2639f82cf13c078400e948ed614f4e72de0eb27ba8ce2f65b85c36a00517ca"), looks := false }, kinds := [], alts := [], laidByText := true, laidKinds := [.data, .data, .data], laidTests := true, laidLooks := .later }
def MacKeysCardSaid : Prop := Claim7.holds Tryd.pinned (.plain (OpenSpec.ofChange macKeysSpec)) macKeysCard

/-- THE SECOND FORM's CARD OF 'sumpterlaw05.MacOfs'. -/
def macOfsUptoCard : Claim7 := { stood := { row := macOfsUptoRow, standIns := [], harness := (true, "bb2639f82cf13c078400e948ed614f4e72de0eb27ba8ce2f65b85c36a00517ca"), looks := false }, kinds := [], alts := [], laidByText := true, laidKinds := [.data, .data, .data], laidTests := true, laidLooks := .later }
def MacOfsUptoCardSaid : Prop := Claim7.holds Tryd.pinned (.plain (OpenSpec.upto macOfsSpec)) macOfsUptoCard

/-- THE SECOND FORM's CARD OF 'sumpterlaw05.MacLabels'. -/
def macLabelsUptoCard : Claim7 := { stood := { row := macLabelsUptoRow, standIns := [], harness := (true, "bb2639f82cf13c078400e948ed614f4e72de0eb27ba8ce2f65b85c36a00517ca"), looks := false }, kinds := [], alts := [], laidByText := true, laidKinds := [.data, .data, .data], laidTests := true, laidLooks := .later }
def MacLabelsUptoCardSaid : Prop := Claim7.holds Tryd.pinned (.plain (OpenSpec.upto macLabelsSpec)) macLabelsUptoCard

/-- THE SECOND FORM's CARD OF 'sumpterlaw05.MacOpens'. -/
def macOpensUptoCard : Claim7 := { stood := { row := macOpensUptoRow, standIns := [], harness := (true, "bb2639f82cf13c078400e948ed614f4e72de0eb27ba8ce2f65b85c36a00517ca"), looks := false }, kinds := [], alts := [], laidByText := true, laidKinds := [.data, .data, .data], laidTests := true, laidLooks := .later }
def MacOpensUptoCardSaid : Prop := Claim7.holds Tryd.pinned (.plain (OpenSpec.upto macOpensSpec)) macOpensUptoCard

/-- THE SECOND FORM's CARD OF 'sumpterlaw05.MacBack'. -/
def macBackUptoCard : Claim7 := { stood := { row := macBackUptoRow, standIns := [], harness := (true, "bb2639f82cf13c078400e948ed614f4e72de0eb27ba8ce2f65b85c36a00517ca"), looks := false }, kinds := [], alts := [], laidByText := true, laidKinds := [.data, .data, .data], laidTests := true, laidLooks := .later }
def MacBackUptoCardSaid : Prop := Claim7.holds Tryd.pinned (.plain (OpenSpec.upto macBackSpec)) macBackUptoCard

/-- THE SECOND FORM's CARD OF 'sumpterlaw05.MacKeys'. -/
def macKeysUptoCard : Claim7 := { stood := { row := macKeysUptoRow, standIns := [], harness := (true, "bb2639f82cf13c078400e948ed614f4e72de0eb27ba8ce2f65b85c36a00517ca"), looks := false }, kinds := [], alts := [], laidByText := true, laidKinds := [.data, .data, .data], laidTests := true, laidLooks := .later }
def MacKeysUptoCardSaid : Prop := Claim7.holds Tryd.pinned (.plain (OpenSpec.upto macKeysSpec)) macKeysUptoCard
end Rows
end Go.Proofs.YtkblcabibnnmcaaDoor
