/-
  DERIVED. GIVEN WITH THE SEED: THE CARDS: each row of YtmlnocjljhhmdaaDoorRows.lean that lists a variable, with what it lists TIED to the program's text (the seventh form; the later family's looks); each row that meets fmt, with fmt's text TOLD by the authors' own Lean function (tested against real Go, not proved from fmt's source: count such statements apart). THE CARD IS WHAT COUNTS. Prove the row's statement (the work); the ties are given (YtmlnocjljhhmdaaDoorTie.lean); close each card by the builder's one call (the guide's Derived/Test/ToyasCard.lean, 'card_holds'). Laid BY PROGRAM, IN A SANDBOX (cutbox-door.mjs). By AI agents, Wed Nov 11 2026. No macro, syntax, notation, axiom, sorry.
-/
import Derived.Test.YtmlnocjljhhmdaaDoorRows
import GoSem.ClaimSeven
namespace Go.Proofs.YtmlnocjljhhmdaaDoor
namespace Rows

/-- THE TIED CARD OF 'sumpterlaw02.FieldLays'. -/
def fieldLaysCard : Claim7 := { stood := { row := fieldLaysRow, standIns := [], harness := (true, "1677f3e0ebef0543ea8c1090ac187a2ef0f3f3ae2e7ecf143e1285a536ec6363"), looks := false }, kinds := [], alts := [], laidByText := true, laidKinds := [.data], laidTests := true, laidLooks := .later }
def FieldLaysCardSaid : Prop := Claim7.holds Tryd.pinned (.plain (OpenSpec.ofChange fieldLaysSpec)) fieldLaysCard

/-- THE TIED CARD OF 'sumpterlaw02.FieldTakes'. -/
def fieldTakesCard : Claim7 := { stood := { row := fieldTakesRow, standIns := [], harness := (true, "1677f3e0ebef0543ea8c1090ac187a2ef0f3f3ae2e7ecf143e1285a536ec6363"), looks := false }, kinds := [], alts := [], laidByText := true, laidKinds := [.data], laidTests := true, laidLooks := .later }
def FieldTakesCardSaid : Prop := Claim7.holds Tryd.pinned (.plain (OpenSpec.ofChange fieldTakesSpec)) fieldTakesCard

/-- THE TIED CARD OF 'sumpterlaw02.FieldBack'. -/
def fieldBackCard : Claim7 := { stood := { row := fieldBackRow, standIns := [], harness := (true, "1677f3e0ebef0543ea8c1090ac187a2ef0f3f3ae2e7ecf143e1285a536ec6363"), looks := false }, kinds := [], alts := [], laidByText := true, laidKinds := [.data], laidTests := true, laidLooks := .later }
def FieldBackCardSaid : Prop := Claim7.holds Tryd.pinned (.plain (OpenSpec.ofChange fieldBackSpec)) fieldBackCard

/-- THE TIED CARD OF 'sumpterlaw02.FieldBounds'. -/
def fieldBoundsCard : Claim7 := { stood := { row := fieldBoundsRow, standIns := [], harness := (true, "1677f3e0ebef0543ea8c1090ac187a2ef0f3f3ae2e7ecf143e1285a536ec6363"), looks := false }, kinds := [], alts := [], laidByText := true, laidKinds := [.data], laidTests := true, laidLooks := .later }
def FieldBoundsCardSaid : Prop := Claim7.holds Tryd.pinned (.plain (OpenSpec.ofChange fieldBoundsSpec)) fieldBoundsCard

/-- THE TIED CARD OF 'sumpterlaw02.FieldCuts'. -/
def fieldCutsCard : Claim7 := { stood := { row := fieldCutsRow, standIns := [], harness := (true, "1677f3e0ebef0543ea8c1090ac187a2ef0f3f3ae2e7ecf143e1285a536ec6363"), looks := false }, kinds := [], alts := [], laidByText := true, laidKinds := [.data], laidTests := true, laidLooks := .later }
def FieldCutsCardSaid : Prop := Claim7.holds Tryd.pinned (.plain (OpenSpec.ofChange fieldCutsSpec)) fieldCutsCard

/-- THE SECOND FORM's CARD OF 'sumpterlaw02.FieldLays'. -/
def fieldLaysUptoCard : Claim7 := { stood := { row := fieldLaysUptoRow, standIns := [], harness := (true, "1677f3e0ebef0543ea8c1090ac187a2ef0f3f3ae2e7ecf143e1285a536ec6363"), looks := false }, kinds := [], alts := [], laidByText := true, laidKinds := [.data], laidTests := true, laidLooks := .later }
def FieldLaysUptoCardSaid : Prop := Claim7.holds Tryd.pinned (.plain (OpenSpec.upto fieldLaysSpec)) fieldLaysUptoCard

/-- THE SECOND FORM's CARD OF 'sumpterlaw02.FieldTakes'. -/
def fieldTakesUptoCard : Claim7 := { stood := { row := fieldTakesUptoRow, standIns := [], harness := (true, "1677f3e0ebef0543ea8c1090ac187a2ef0f3f3ae2e7ecf143e1285a536ec6363"), looks := false }, kinds := [], alts := [], laidByText := true, laidKinds := [.data], laidTests := true, laidLooks := .later }
def FieldTakesUptoCardSaid : Prop := Claim7.holds Tryd.pinned (.plain (OpenSpec.upto fieldTakesSpec)) fieldTakesUptoCard

/-- THE SECOND FORM's CARD OF 'sumpterlaw02.FieldBack'. -/
def fieldBackUptoCard : Claim7 := { stood := { row := fieldBackUptoRow, standIns := [], harness := (true, "1677f3e0ebef0543ea8c1090ac187a2ef0f3f3ae2e7ecf143e1285a536ec6363"), looks := false }, kinds := [], alts := [], laidByText := true, laidKinds := [.data], laidTests := true, laidLooks := .later }
def FieldBackUptoCardSaid : Prop := Claim7.holds Tryd.pinned (.plain (OpenSpec.upto fieldBackSpec)) fieldBackUptoCard

/-- THE SECOND FORM's CARD OF 'sumpterlaw02.FieldBounds'. -/
def fieldBoundsUptoCard : Claim7 := { stood := { row := fieldBoundsUptoRow, standIns := [], harness := (true, "1677f3e0ebef0543ea8c1090ac187a2ef0f3f3ae2e7ecf143e1285a536ec6363"), looks := false }, kinds := [], alts := [], laidByText := true, laidKinds := [.data], laidTests := true, laidLooks := .later }
def FieldBoundsUptoCardSaid : Prop := Claim7.holds Tryd.pinned (.plain (OpenSpec.upto fieldBoundsSpec)) fieldBoundsUptoCard

/-- THE SECOND FORM's CARD OF 'sumpterlaw02.FieldCuts'. -/
def fieldCutsUptoCard : Claim7 := { stood := { row := fieldCutsUptoRow, standIns := [], harness := (true, "1677f3e0ebef0543ea8c1090ac187a2ef0f3f3ae2e7ecf143e1285a536ec6363"), looks := false }, kinds := [], alts := [], laidByText := true, laidKinds := [.data], laidTests := true, laidLooks := .later }
def FieldCutsUptoCardSaid : Prop := Claim7.holds Tryd.pinned (.plain (OpenSpec.upto fieldCutsSpec)) fieldCutsUptoCard
end Rows
end Go.Proofs.YtmlnocjljhhmdaaDoor
