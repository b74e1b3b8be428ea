/-
  DERIVED. GIVEN WITH THE SEED: THE CARDS: each row of YtpkobpdiddjnpabDoorRows.lean that lists a variable, with what it lists TIED to the program's text (the seventh form; the later family's looks); each row that meets fmt, with fmt's text TOLD by the authors' own Lean function (tested against real Go, not proved from fmt's source: count such statements apart). THE CARD IS WHAT COUNTS. Prove the row's statement (the work); the ties are given (YtpkobpdiddjnpabDoorTie.lean); close each card by the builder's one call (the guide's Derived/Test/ToyasCard.lean, 'card_holds'). Laid BY PROGRAM, IN A SANDBOX (cutbox-door.mjs). By AI agents, Wed Nov 11 2026. No macro, syntax, notation, axiom, sorry.
-/
import Derived.Test.YtpkobpdiddjnpabDoorRows
import GoSem.ClaimSeven
namespace Go.Proofs.YtpkobpdiddjnpabDoor
namespace Rows

/-- THE TIED CARD OF 'sumpterlaw15.RecordRises'. -/
def recordRisesCard : Claim7 := { stood := { row := recordRisesRow, standIns := [], harness := (true, "538d40db8e9f104a909db8be4664bc02cc778b168eb256b775366a6deffcb067"), looks := false }, kinds := [], alts := [], laidByText := true, laidKinds := [.data, .data, .data, .pinned], laidTests := true, laidLooks := .later }
def RecordRisesCardSaid : Prop := Claim7.holds Tryd.pinned (.plain (OpenSpec.ofChange recordRisesSpec)) recordRisesCard

/-- THE SECOND FORM's CARD OF 'sumpterlaw15.RecordRises'. -/
def recordRisesUptoCard : Claim7 := { stood := { row := recordRisesUptoRow, standIns := [], harness := (true, "538d40db8e9f104a909db8be4664bc02cc778b168eb256b775366a6deffcb067"), looks := false }, kinds := [], alts := [], laidByText := true, laidKinds := [.data, .data, .data, .pinned], laidTests := true, laidLooks := .later }
def RecordRisesUptoCardSaid : Prop := Claim7.holds Tryd.pinned (.plain (OpenSpec.upto recordRisesSpec)) recordRisesUptoCard
end Rows
end Go.Proofs.YtpkobpdiddjnpabDoor
