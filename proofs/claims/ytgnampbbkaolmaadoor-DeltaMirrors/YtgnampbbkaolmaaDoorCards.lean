/-
  DERIVED. GIVEN WITH THE SEED: THE CARDS: each row of YtgnampbbkaolmaaDoorRows.lean that lists a variable, with what it lists TIED to the program's text (the seventh form; the later family's looks); each row that meets fmt, with fmt's text TOLD by the authors' own Lean function (tested against real Go, not proved from fmt's source: count such statements apart). THE CARD IS WHAT COUNTS. Prove the row's statement (the work); the ties are given (YtgnampbbkaolmaaDoorTie.lean); close each card by the builder's one call (the guide's Derived/Test/ToyasCard.lean, 'card_holds'). Laid BY PROGRAM, IN A SANDBOX (cutbox-door.mjs). By AI agents, Wed Nov 11 2026. No macro, syntax, notation, axiom, sorry.
-/
import Derived.Test.YtgnampbbkaolmaaDoorRows
import GoSem.ClaimSeven
namespace Go.Proofs.YtgnampbbkaolmaaDoor
namespace Rows

/-- THE TIED CARD OF 'sumpterlaw13.DeltaApplies'. -/
def deltaAppliesCard : Claim7 := { stood := { row := deltaAppliesRow, standIns := [], harness := (true, "3bca11e914967d4ca04d863c4ec454b86f9197e8ecc76f08d20b3893f079cbdf"), looks := true }, kinds := [], alts := [], laidByText := true, laidKinds := [.data], laidTests := true, laidLooks := .later }
def DeltaAppliesCardSaid : Prop := Claim7.holds Tryd.pinned (.plain (OpenSpec.ofChange deltaAppliesSpec)) deltaAppliesCard

/-- THE TIED CARD OF 'sumpterlaw13.DeltaFeeds'. -/
def deltaFeedsCard : Claim7 := { stood := { row := deltaFeedsRow, standIns := [], harness := (true, "3bca11e914967d4ca04d863c4ec454b86f9197e8ecc76f08d20b3893f079cbdf"), looks := true }, kinds := [], alts := [], laidByText := true, laidKinds := [.data], laidTests := true, laidLooks := .later }
def DeltaFeedsCardSaid : Prop := Claim7.holds Tryd.pinned (.plain (OpenSpec.ofChange deltaFeedsSpec)) deltaFeedsCard

/-- THE TIED CARD OF 'sumpterlaw13.DeltaBack'. -/
def deltaBackCard : Claim7 := { stood := { row := deltaBackRow, standIns := [], harness := (true, "3bca11e914967d4ca04d863c4ec454b86f9197e8ecc76f08d20b3893f079cbdf"), looks := true }, kinds := [], alts := [], laidByText := true, laidKinds := [.data], laidTests := true, laidLooks := .later }
def DeltaBackCardSaid : Prop := Claim7.holds Tryd.pinned (.plain (OpenSpec.ofChange deltaBackSpec)) deltaBackCard

/-- THE TIED CARD OF 'sumpterlaw13.DeltaFrom'. -/
def deltaFromCard : Claim7 := { stood := { row := deltaFromRow, standIns := [], harness := (true, "3bca11e914967d4ca04d863c4ec454b86f9197e8ecc76f08d20b3893f079cbdf"), looks := true }, kinds := [], alts := [], laidByText := true, laidKinds := [.data], laidTests := true, laidLooks := .later }
def DeltaFromCardSaid : Prop := Claim7.holds Tryd.pinned (.plain (OpenSpec.ofChange deltaFromSpec)) deltaFromCard

/-- THE TIED CARD OF 'sumpterlaw13.DeltaMirrors'. -/
def deltaMirrorsCard : Claim7 := { stood := { row := deltaMirrorsRow, standIns := [], harness := (true, "3bca11e914967d4ca04d863c4ec454b86f9197e8ecc76f08d20b3893f079cbdf"), looks := true }, kinds := [], alts := [], laidByText := true, laidKinds := [.data, .data, .data], laidTests := true, laidLooks := .later }
def DeltaMirrorsCardSaid : Prop := Claim7.holds Tryd.pinned (.plain (OpenSpec.ofChange deltaMirrorsSpec)) deltaMirrorsCard

/-- THE SECOND FORM's CARD OF 'sumpterlaw13.DeltaApplies'. -/
def deltaAppliesUptoCard : Claim7 := { stood := { row := deltaAppliesUptoRow, standIns := [], harness := (true, "3bca11e914967d4ca04d863c4ec454b86f9197e8ecc76f08d20b3893f079cbdf"), looks := true }, kinds := [], alts := [], laidByText := true, laidKinds := [.data], laidTests := true, laidLooks := .later }
def DeltaAppliesUptoCardSaid : Prop := Claim7.holds Tryd.pinned (.plain (OpenSpec.upto deltaAppliesSpec)) deltaAppliesUptoCard

/-- THE SECOND FORM's CARD OF 'sumpterlaw13.DeltaFeeds'. -/
def deltaFeedsUptoCard : Claim7 := { stood := { row := deltaFeedsUptoRow, standIns := [], harness := (true, "3bca11e914967d4ca04d863c4ec454b86f9197e8ecc76f08d20b3893f079cbdf"), looks := true }, kinds := [], alts := [], laidByText := true, laidKinds := [.data], laidTests := true, laidLooks := .later }
def DeltaFeedsUptoCardSaid : Prop := Claim7.holds Tryd.pinned (.plain (OpenSpec.upto deltaFeedsSpec)) deltaFeedsUptoCard

/-- THE SECOND FORM's CARD OF 'sumpterlaw13.DeltaBack'. -/
def deltaBackUptoCard : Claim7 := { stood := { row := deltaBackUptoRow, standIns := [], harness := (true, "3bca11e914967d4ca04d863c4ec454b86f9197e8ecc76f08d20b3893f079cbdf"), looks := true }, kinds := [], alts := [], laidByText := true, laidKinds := [.data], laidTests := true, laidLooks := .later }
def DeltaBackUptoCardSaid : Prop := Claim7.holds Tryd.pinned (.plain (OpenSpec.upto deltaBackSpec)) deltaBackUptoCard

/-- THE SECOND FORM's CARD OF 'sumpterlaw13.DeltaFrom'. -/
def deltaFromUptoCard : Claim7 := { stood := { row := deltaFromUptoRow, standIns := [], harness := (true, "3bca11e914967d4ca04d863c4ec454b86f9197e8ecc76f08d20b3893f079cbdf"), looks := true }, kinds := [], alts := [], laidByText := true, laidKinds := [.data], laidTests := true, laidLooks := .later }
def DeltaFromUptoCardSaid : Prop := Claim7.holds Tryd.pinned (.plain (OpenSpec.upto deltaFromSpec)) deltaFromUptoCard

/-- THE SECOND FORM's CARD OF 'sumpterlaw13.DeltaMirrors'. -/
def deltaMirrorsUptoCard : Claim7 := { stood := { row := deltaMirrorsUptoRow, standIns := [], harness := (true, "3bca11e914967d4ca04d863c4ec454b86f9197e8ecc76f08d20b3893f079cbdf"), looks := true }, kinds := [], alts := [], laidByText := true, laidKinds := [.data, .data, .data], laidTests := true, laidLooks := .later }
def DeltaMirrorsUptoCardSaid : Prop := Claim7.holds Tryd.pinned (.plain (OpenSpec.upto deltaMirrorsSpec)) deltaMirrorsUptoCard
end Rows
end Go.Proofs.YtgnampbbkaolmaaDoor
