/-
  DERIVED. GIVEN WITH THE SEED: THE CARDS: each row of YtfccjeepmhgckaaDoorRows.lean that lists a variable, with what it lists TIED to the program's text (the seventh form; the later family's looks); each row that meets fmt, with fmt's text TOLD by the authors' own Lean function (tested against real Go, not proved from fmt's source: count such statements apart). THE CARD IS WHAT COUNTS. Prove the row's statement (the work); the ties are given (YtfccjeepmhgckaaDoorTie.lean); close each card by the builder's one call (the guide's Derived/Test/ToyasCard.lean, 'card_holds'). Laid BY PROGRAM, IN A SANDBOX (cutbox-door.mjs). By AI agents, Wed Nov 11 2026. No macro, syntax, notation, axiom, sorry.
-/
import Derived.Test.YtfccjeepmhgckaaDoorRows
import GoSem.ClaimSeven
namespace Go.Proofs.YtfccjeepmhgckaaDoor
namespace Rows

/-- THE TIED CARD OF 'sumpterlaw13.DeltaFeeds'. -/
def deltaFeedsCard : Claim7 := { stood := { row := deltaFeedsRow, standIns := [], harness := (true, "f741cad4b2210624a886b4b4ca6148ae6d00215c5a7304944d059b0c58f5a71a"), looks := true }, kinds := [], alts := [], laidByText := true, laidKinds := [.data], laidTests := true, laidLooks := .later }
def DeltaFeedsCardSaid : Prop := Claim7.holds Tryd.pinned (.plain (OpenSpec.ofChange deltaFeedsSpec)) deltaFeedsCard

/-- THE TIED CARD OF 'sumpterlaw13.DeltaForks'. -/
def deltaForksCard : Claim7 := { stood := { row := deltaForksRow, standIns := [], harness := (true, "f741cad4b2210624a886b4b4ca6148ae6d00215c5a7304944d059b0c58f5a71a"), looks := true }, kinds := [], alts := [], laidByText := true, laidKinds := [.data], laidTests := true, laidLooks := .later }
def DeltaForksCardSaid : Prop := Claim7.holds Tryd.pinned (.plain (OpenSpec.ofChange deltaForksSpec)) deltaForksCard

/-- THE SECOND FORM's CARD OF 'sumpterlaw13.DeltaFeeds'. -/
def deltaFeedsUptoCard : Claim7 := { stood := { row := deltaFeedsUptoRow, standIns := [], harness := (true, "f741cad4b2210624a886b4b4ca6148ae6d00215c5a7304944d059b0c58f5a71a"), looks := true }, kinds := [], alts := [], laidByText := true, laidKinds := [.data], laidTests := true, laidLooks := .later }
def DeltaFeedsUptoCardSaid : Prop := Claim7.holds Tryd.pinned (.plain (OpenSpec.upto deltaFeedsSpec)) deltaFeedsUptoCard

/-- THE SECOND FORM's CARD OF 'sumpterlaw13.DeltaForks'. -/
def deltaForksUptoCard : Claim7 := { stood := { row := deltaForksUptoRow, standIns := [], harness := (true, "f741cad4b2210624a886b4b4ca6148ae6d00215c5a7304944d059b0c58f5a71a"), looks := true }, kinds := [], alts := [], laidByText := true, laidKinds := [.data], laidTests := true, laidLooks := .later }
def DeltaForksUptoCardSaid : Prop := Claim7.holds Tryd.pinned (.plain (OpenSpec.upto deltaForksSpec)) deltaForksUptoCard
end Rows
end Go.Proofs.YtfccjeepmhgckaaDoor
