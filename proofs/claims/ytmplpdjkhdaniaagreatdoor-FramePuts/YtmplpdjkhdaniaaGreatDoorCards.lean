/-
  DERIVED. GIVEN WITH THE SEED: THE CARDS: each row of YtmplpdjkhdaniaaGreatDoorRows.lean that lists a variable, with what it lists TIED to the program's text (the seventh form; the later family's looks); each row that meets fmt, with fmt's text TOLD by the authors' own Lean function (tested against real Go, not proved from fmt's source: count such statements apart). THE CARD IS WHAT COUNTS. Prove the row's statement (the work); the ties are given (YtmplpdjkhdaniaaGreatDoorTie.lean); close each card by the builder's one call (the guide's Derived/Test/ToyasCard.lean, 'card_holds'). Laid BY PROGRAM, IN A SANDBOX (cutbox-door.mjs). By AI agents, Wed Nov 11 2026. No macro, syntax, notation, axiom, sorry.
-/
import Derived.Test.YtmplpdjkhdaniaaGreatDoorRows
import GoSem.ClaimSeven
namespace Go.Proofs.YtmplpdjkhdaniaaGreatDoor
namespace Rows

/-- THE TIED CARD OF 'sumpterlaw18.FramePuts'. -/
def framePutsCard : Claim7 := { stood := { row := framePutsRow, standIns := [], harness := (true, "b5d8426b4962ec5a8f41c541c95f58be3c2eaa048199a6f6ba2514728ae255ad"), looks := true }, kinds := [], alts := [], laidByText := true, laidKinds := [.data, .data], laidTests := true, laidLooks := .later }
def FramePutsCardSaid : Prop := Claim7.holds Tryz.pinned (.plain (OpenSpec.ofChange framePutsSpec)) framePutsCard

/-- THE SECOND FORM's CARD OF 'sumpterlaw18.FramePuts'. -/
def framePutsUptoCard : Claim7 := { stood := { row := framePutsUptoRow, standIns := [], harness := (true, "b5d8426b4962ec5a8f41c541c95f58be3c2eaa048199a6f6ba2514728ae255ad"), looks := true }, kinds := [], alts := [], laidByText := true, laidKinds := [.data, .data], laidTests := true, laidLooks := .later }
def FramePutsUptoCardSaid : Prop := Claim7.holds Tryz.pinned (.plain (OpenSpec.upto framePutsSpec)) framePutsUptoCard
end Rows
end Go.Proofs.YtmplpdjkhdaniaaGreatDoor
