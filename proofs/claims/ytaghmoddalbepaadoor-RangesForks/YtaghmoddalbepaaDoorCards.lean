/-
  DERIVED. GIVEN WITH THE SEED: THE CARDS: each row of YtaghmoddalbepaaDoorRows.lean that lists a variable, with what it lists TIED to the program's text (the seventh form; the later family's looks); each row that meets fmt, with fmt's text TOLD by the authors' own Lean function (tested against real Go, not proved from fmt's source: count such statements apart). THE CARD IS WHAT COUNTS. Prove the row's statement (the work); the ties are given (YtaghmoddalbepaaDoorTie.lean); close each card by the builder's one call (the guide's Derived/Test/ToyasCard.lean, 'card_holds'). Laid BY PROGRAM, IN A SANDBOX (cutbox-door.mjs). By AI agents, Wed Nov 11 2026. No macro, syntax, notation, axiom, sorry.
-/
import Derived.Test.YtaghmoddalbepaaDoorRows
import GoSem.ClaimSeven
namespace Go.Proofs.YtaghmoddalbepaaDoor
namespace Rows

/-- THE TIED CARD OF 'sumpterlaw17.RangesPlays'. -/
def rangesPlaysCard : Claim7 := { stood := { row := rangesPlaysRow, standIns := [], harness := (true, "a61f6e8d11d39e7f70bc3bf567207a603f66851673583db66d7afd277cea0a1f"), looks := false }, kinds := [], alts := [], laidByText := true, laidKinds := [.data], laidTests := true, laidLooks := .later }
def RangesPlaysCardSaid : Prop := Claim7.holds Tryd.pinned (.plain (OpenSpec.ofChange rangesPlaysSpec)) rangesPlaysCard

/-- THE TIED CARD OF 'sumpterlaw17.RangesForks'. -/
def rangesForksCard : Claim7 := { stood := { row := rangesForksRow, standIns := [], harness := (true, "a61f6e8d11d39e7f70bc3bf567207a603f66851673583db66d7afd277cea0a1f"), looks := false }, kinds := [], alts := [], laidByText := true, laidKinds := [.data], laidTests := true, laidLooks := .later }
def RangesForksCardSaid : Prop := Claim7.holds Tryd.pinned (.plain (OpenSpec.ofChange rangesForksSpec)) rangesForksCard

/-- THE TIED CARD OF 'sumpterlaw17.RangesOrder'. -/
def rangesOrderCard : Claim7 := { stood := { row := rangesOrderRow, standIns := [], harness := (true, "a61f6e8d11d39e7f70bc3bf567207a603f66851673583db66d7afd277cea0a1f"), looks := false }, kinds := [], alts := [], laidByText := true, laidKinds := [.data], laidTests := true, laidLooks := .later }
def RangesOrderCardSaid : Prop := Claim7.holds Tryd.pinned (.plain (OpenSpec.ofChange rangesOrderSpec)) rangesOrderCard

/-- THE TIED CARD OF 'sumpterlaw17.RangesBack'. -/
def rangesBackCard : Claim7 := { stood := { row := rangesBackRow, standIns := [], harness := (true, "a61f6e8d11d39e7f70bc3bf567207a603f66851673583db66d7afd277cea0a1f"), looks := false }, kinds := [], alts := [], laidByText := true, laidKinds := [.data], laidTests := true, laidLooks := .later }
def RangesBackCardSaid : Prop := Claim7.holds Tryd.pinned (.plain (OpenSpec.ofChange rangesBackSpec)) rangesBackCard

/-- THE TIED CARD OF 'sumpterlaw17.RangesGaps'. -/
def rangesGapsCard : Claim7 := { stood := { row := rangesGapsRow, standIns := [], harness := (true, "a61f6e8d11d39e7f70bc3bf567207a603f66851673583db66d7afd277cea0a1f"), looks := false }, kinds := [], alts := [], laidByText := true, laidKinds := [.data], laidTests := true, laidLooks := .later }
def RangesGapsCardSaid : Prop := Claim7.holds Tryd.pinned (.plain (OpenSpec.ofChange rangesGapsSpec)) rangesGapsCard

/-- THE SECOND FORM's CARD OF 'sumpterlaw17.RangesPlays'. -/
def rangesPlaysUptoCard : Claim7 := { stood := { row := rangesPlaysUptoRow, standIns := [], harness := (true, "a61f6e8d11d39e7f70bc3bf567207a603f66851673583db66d7afd277cea0a1f"), looks := false }, kinds := [], alts := [], laidByText := true, laidKinds := [.data], laidTests := true, laidLooks := .later }
def RangesPlaysUptoCardSaid : Prop := Claim7.holds Tryd.pinned (.plain (OpenSpec.upto rangesPlaysSpec)) rangesPlaysUptoCard

/-- THE SECOND FORM's CARD OF 'sumpterlaw17.RangesForks'. -/
def rangesForksUptoCard : Claim7 := { stood := { row := rangesForksUptoRow, standIns := [], harness := (true, "a61f6e8d11d39e7f70bc3bf567207a603f66851673583db66d7afd277cea0a1f"), looks := false }, kinds := [], alts := [], laidByText := true, laidKinds := [.data], laidTests := true, laidLooks := .later }
def RangesForksUptoCardSaid : Prop := Claim7.holds Tryd.pinned (.plain (OpenSpec.upto rangesForksSpec)) rangesForksUptoCard

/-- THE SECOND FORM's CARD OF 'sumpterlaw17.RangesOrder'. -/
def rangesOrderUptoCard : Claim7 := { stood := { row := rangesOrderUptoRow, standIns := [], harness := (true, "a61f6e8d11d39e7f70bc3bf567207a603f66851673583db66d7afd277cea0a1f"), looks := false }, kinds := [], alts := [], laidByText := true, laidKinds := [.data], laidTests := true, laidLooks := .later }
def RangesOrderUptoCardSaid : Prop := Claim7.holds Tryd.pinned (.plain (OpenSpec.upto rangesOrderSpec)) rangesOrderUptoCard

/-- THE SECOND FORM's CARD OF 'sumpterlaw17.RangesBack'. -/
def rangesBackUptoCard : Claim7 := { stood := { row := rangesBackUptoRow, standIns := [], harness := (true, "a61f6e8d11d39e7f70bc3bf567207a603f66851673583db66d7afd277cea0a1f"), looks := false }, kinds := [], alts := [], laidByText := true, laidKinds := [.data], laidTests := true, laidLooks := .later }
def RangesBackUptoCardSaid : Prop := Claim7.holds Tryd.pinned (.plain (OpenSpec.upto rangesBackSpec)) rangesBackUptoCard

/-- THE SECOND FORM's CARD OF 'sumpterlaw17.RangesGaps'. -/
def rangesGapsUptoCard : Claim7 := { stood := { row := rangesGapsUptoRow, standIns := [], harness := (true, "a61f6e8d11d39e7f70bc3bf567207a603f66851673583db66d7afd277cea0a1f"), looks := false }, kinds := [], alts := [], laidByText := true, laidKinds := [.data], laidTests := true, laidLooks := .later }
def RangesGapsUptoCardSaid : Prop := Claim7.holds Tryd.pinned (.plain (OpenSpec.upto rangesGapsSpec)) rangesGapsUptoCard
end Rows
end Go.Proofs.YtaghmoddalbepaaDoor
