/-
  DERIVED. GIVEN WITH THE SEED: THE CARDS: each row of YtpkobpdiddjnpaaDoorRows.lean that lists a variable, with what it lists TIED to the program's text (the seventh form; the later family's looks); each row that meets fmt, with fmt's text TOLD by the authors' own Lean function (tested against real Go, not proved from fmt's source: count such statements apart). THE CARD IS WHAT COUNTS. Prove the row's statement (the work); the ties are given (YtpkobpdiddjnpaaDoorTie.lean); close each card by the builder's one call (the guide's Derived/Test/ToyasCard.lean, 'card_holds'). Laid BY PROGRAM, IN A SANDBOX (cutbox-door.mjs). By AI agents, Wed Nov 11 2026. No macro, syntax, notation, axiom, sorry.
-/
import Derived.Test.YtpkobpdiddjnpaaDoorRows
import GoSem.ClaimSeven
namespace Go.Proofs.YtpkobpdiddjnpaaDoor
namespace Rows

/-- THE TIED CARD OF 'sumpterlaw15.RecordPuts'. -/
def recordPutsCard : Claim7 := { stood := { row := recordPutsRow, standIns := [], harness := (true, "4e74a5055031c8a15cd4ed9df0c76fe848feeefaf2a60cea4c638383d59f13a4"), looks := false }, kinds := [], alts := [], laidByText := true, laidKinds := [.data, .data, .data, .pinned], laidTests := true, laidLooks := .later }
def RecordPutsCardSaid : Prop := Claim7.holds Tryd.pinned (.plain (OpenSpec.ofChange recordPutsSpec)) recordPutsCard

/-- THE TIED CARD OF 'sumpterlaw15.RecordPlays'. -/
def recordPlaysCard : Claim7 := { stood := { row := recordPlaysRow, standIns := [], harness := (true, "4e74a5055031c8a15cd4ed9df0c76fe848feeefaf2a60cea4c638383d59f13a4"), looks := false }, kinds := [], alts := [], laidByText := true, laidKinds := [.data, .data, .data, .pinned], laidTests := true, laidLooks := .later }
def RecordPlaysCardSaid : Prop := Claim7.holds Tryd.pinned (.plain (OpenSpec.ofChange recordPlaysSpec)) recordPlaysCard

/-- THE TIED CARD OF 'sumpterlaw15.RecordBack'. -/
def recordBackCard : Claim7 := { stood := { row := recordBackRow, standIns := [], harness := (true, "4e74a5055031c8a15cd4ed9df0c76fe848feeefaf2a60cea4c638383d59f13a4"), looks := false }, kinds := [], alts := [], laidByText := true, laidKinds := [.data, .data, .data, .pinned], laidTests := true, laidLooks := .later }
def RecordBackCardSaid : Prop := Claim7.holds Tryd.pinned (.plain (OpenSpec.ofChange recordBackSpec)) recordBackCard

/-- THE TIED CARD OF 'sumpterlaw15.RecordImaged'. -/
def recordImagedCard : Claim7 := { stood := { row := recordImagedRow, standIns := [], harness := (true, "4e74a5055031c8a15cd4ed9df0c76fe848feeefaf2a60cea4c638383d59f13a4"), looks := false }, kinds := [], alts := [], laidByText := true, laidKinds := [.data, .data, .data, .pinned], laidTests := true, laidLooks := .later }
def RecordImagedCardSaid : Prop := Claim7.holds Tryd.pinned (.plain (OpenSpec.ofChange recordImagedSpec)) recordImagedCard

/-- THE SECOND FORM's CARD OF 'sumpterlaw15.RecordPuts'. -/
def recordPutsUptoCard : Claim7 := { stood := { row := recordPutsUptoRow, standIns := [], harness := (true, "4e74a5055031c8a15cd4ed9df0c76fe848feeefaf2a60cea4c638383d59f13a4"), looks := false }, kinds := [], alts := [], laidByText := true, laidKinds := [.data, .data, .data, .pinned], laidTests := true, laidLooks := .later }
def RecordPutsUptoCardSaid : Prop := Claim7.holds Tryd.pinned (.plain (OpenSpec.upto recordPutsSpec)) recordPutsUptoCard

/-- THE SECOND FORM's CARD OF 'sumpterlaw15.RecordPlays'. -/
def recordPlaysUptoCard : Claim7 := { stood := { row := recordPlaysUptoRow, standIns := [], harness := (true, "4e74a5055031c8a15cd4ed9df0c76fe848feeefaf2a60cea4c638383d59f13a4"), looks := false }, kinds := [], alts := [], laidByText := true, laidKinds := [.data, .data, .data, .pinned], laidTests := true, laidLooks := .later }
def RecordPlaysUptoCardSaid : Prop := Claim7.holds Tryd.pinned (.plain (OpenSpec.upto recordPlaysSpec)) recordPlaysUptoCard

/-- THE SECOND FORM's CARD OF 'sumpterlaw15.RecordBack'. -/
def recordBackUptoCard : Claim7 := { stood := { row := recordBackUptoRow, standIns := [], harness := (true, "4e74a5055031c8a15cd4ed9df0c76fe848feeefaf2a60cea4c638383d59f13a4"), looks := false }, kinds := [], alts := [], laidByText := true, laidKinds := [.data, .data, .data, .pinned], laidTests := true, laidLooks := .later }
def RecordBackUptoCardSaid : Prop := Claim7.holds Tryd.pinned (.plain (OpenSpec.upto recordBackSpec)) recordBackUptoCard

/-- THE SECOND FORM's CARD OF 'sumpterlaw15.RecordImaged'. -/
def recordImagedUptoCard : Claim7 := { stood := { row := recordImagedUptoRow, standIns := [], harness := (true, "4e74a5055031c8a15cd4ed9df0c76fe848feeefaf2a60cea4c638383d59f13a4"), looks := false }, kinds := [], alts := [], laidByText := true, laidKinds := [.data, .data, .data, .pinned], laidTests := true, laidLooks := .later }
def RecordImagedUptoCardSaid : Prop := Claim7.holds Tryd.pinned (.plain (OpenSpec.upto recordImagedSpec)) recordImagedUptoCard
end Rows
end Go.Proofs.YtpkobpdiddjnpaaDoor
