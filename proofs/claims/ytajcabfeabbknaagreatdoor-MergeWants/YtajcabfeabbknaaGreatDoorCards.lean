/-
  DERIVED. GIVEN WITH THE SEED: THE CARDS: each row of YtajcabfeabbknaaGreatDoorRows.lean that lists a variable, with what it lists TIED to the program's text (the seventh form; the later family's looks); each row that meets fmt, with fmt's text TOLD by the authors' own Lean function (tested against real Go, not proved from fmt's source: count such statements apart). THE CARD IS WHAT COUNTS. Prove the row's statement (the work); the ties are given (YtajcabfeabbknaaGreatDoorTie.lean); close each card by the builder's one call (the guide's Derived/Test/ToyasCard.lean, 'card_holds'). Laid BY PROGRAM, IN A SANDBOX (cutbox-door.mjs). By AI agents, Wed Nov 11 2026. No macro, syntax, notation, axiom, sorry.
-/
import Derived.Test.YtajcabfeabbknaaGreatDoorRows
import GoSem.ClaimSeven
namespace Go.Proofs.YtajcabfeabbknaaGreatDoor
namespace Rows

/-- THE TIED CARD OF 'sumpterlaw09.MergeWants'. -/
def mergeWantsCard : Claim7 := { stood := { row := mergeWantsRow, standIns := [], harness := (true, "3d55086ef1ef8582523d01d7a43e44547db27794c16c41a89d60eb7a81ac16b5"), looks := false }, kinds := [], alts := [], laidByText := true, laidKinds := [.data, .pinned], laidTests := true, laidLooks := .later }
def MergeWantsCardSaid : Prop := Claim7.holds Tryz.pinned (.plain (OpenSpec.ofChange mergeWantsSpec)) mergeWantsCard

/-- THE TIED CARD OF 'sumpterlaw09.MergeSteps'. -/
def mergeStepsCard : Claim7 := { stood := { row := mergeStepsRow, standIns := [], harness := (true, "3d55086ef1ef8582523d01d7a43e44547db27794c16c41a89d60eb7a81ac16b5"), looks := false }, kinds := [], alts := [], laidByText := true, laidKinds := [.data, .pinned], laidTests := true, laidLooks := .later }
def MergeStepsCardSaid : Prop := Claim7.holds Tryz.pinned (.plain (OpenSpec.ofChange mergeStepsSpec)) mergeStepsCard

/-- THE SECOND FORM's CARD OF 'sumpterlaw09.MergeWants'. -/
def mergeWantsUptoCard : Claim7 := { stood := { row := mergeWantsUptoRow, standIns := [], harness := (true, "3d55086ef1ef8582523d01d7a43e44547db27794c16c41a89d60eb7a81ac16b5"), looks := false }, kinds := [], alts := [], laidByText := true, laidKinds := [.data, .pinned], laidTests := true, laidLooks := .later }
def MergeWantsUptoCardSaid : Prop := Claim7.holds Tryz.pinned (.plain (OpenSpec.upto mergeWantsSpec)) mergeWantsUptoCard

/-- THE SECOND FORM's CARD OF 'sumpterlaw09.MergeSteps'. -/
def mergeStepsUptoCard : Claim7 := { stood := { row := mergeStepsUptoRow, standIns := [], harness := (true, "3d55086ef1ef8582523d01d7a43e44547db27794c16c41a89d60eb7a81ac16b5"), looks := false }, kinds := [], alts := [], laidByText := true, laidKinds := [.data, .pinned], laidTests := true, laidLooks := .later }
def MergeStepsUptoCardSaid : Prop := Claim7.holds Tryz.pinned (.plain (OpenSpec.upto mergeStepsSpec)) mergeStepsUptoCard
end Rows
end Go.Proofs.YtajcabfeabbknaaGreatDoor
