/-
  DERIVED. GIVEN WITH THE SEED: THE CARDS: each row of YtgppjbfmpjabcabDoorRows.lean that lists a variable, with what it lists TIED to the program's text (the seventh form; the later family's looks); each row that meets fmt, with fmt's text TOLD by the authors' own Lean function (tested against real Go, not proved from fmt's source: count such statements apart). THE CARD IS WHAT COUNTS. Prove the row's statement (the work); the ties are given (YtgppjbfmpjabcabDoorTie.lean); close each card by the builder's one call (the guide's Derived/Test/ToyasCard.lean, 'card_holds'). Laid BY PROGRAM, IN A SANDBOX (cutbox-door.mjs). By AI agents, Wed Nov 11 2026. No macro, syntax, notation, axiom, sorry.
-/
import Derived.Test.YtgppjbfmpjabcabDoorRows
import GoSem.ClaimSeven
namespace Go.Proofs.YtgppjbfmpjabcabDoor
namespace Rows

/-- THE TIED CARD OF 'sumpterlaw07.PathKept'. -/
def pathKeptCard : Claim7 := { stood := { row := pathKeptRow, standIns := [], harness := (true, "2ca697cd24bbecb139967c52bf6766aa10f6737a77e9dc0cdce705ce9d6ad27e"), looks := false }, kinds := [], alts := [], laidByText := true, laidKinds := [.data, .pinned], laidTests := true, laidLooks := .later }
def PathKeptCardSaid : Prop := Claim7.holds Tryd.pinned (.plain (OpenSpec.ofChange pathKeptSpec)) pathKeptCard

/-- THE SECOND FORM's CARD OF 'sumpterlaw07.PathKept'. -/
def pathKeptUptoCard : Claim7 := { stood := { row := pathKeptUptoRow, standIns := [], harness := (true, "2ca697cd24bbecb139967c52bf6766aa10f6737a77e9dc0cdce705ce9d6ad27e"), looks := false }, kinds := [], alts := [], laidByText := true, laidKinds := [.data, .pinned], laidTests := true, laidLooks := .later }
def PathKeptUptoCardSaid : Prop := Claim7.holds Tryd.pinned (.plain (OpenSpec.upto pathKeptSpec)) pathKeptUptoCard
end Rows
end Go.Proofs.YtgppjbfmpjabcabDoor
