/-
  DERIVED. GIVEN WITH THE SEED: THE CARDS: each row of YtiollhmbdhepkaaGreatDoorRows.lean that lists a variable, with what it lists TIED to the program's text (the seventh form; the later family's looks); each row that meets fmt, with fmt's text TOLD by the authors' own Lean function (tested against real Go, not proved from fmt's source: count such statements apart). THE CARD IS WHAT COUNTS. Prove the row's statement (the work); the ties are given (YtiollhmbdhepkaaGreatDoorTie.lean); close each card by the builder's one call (the guide's Derived/Test/ToyasCard.lean, 'card_holds'). Laid BY PROGRAM, IN A SANDBOX (cutbox-door.mjs). By AI agents, Wed Nov 11 2026. No macro, syntax, notation, axiom, sorry.
-/
import Derived.Test.YtiollhmbdhepkaaGreatDoorRows
import GoSem.ClaimSeven
namespace Go.Proofs.YtiollhmbdhepkaaGreatDoor
namespace Rows

/-- THE TIED CARD OF 'sumpterlaw18.FramePuts'. -/
def framePutsCard : Claim7 := { stood := { row := framePutsRow, standIns := [], harness := (true, "5edc8abce0f0e80a565a12ebc361d01cfb55196ef1f7d7d4c4a4a9d927eb3a4c"), looks := true }, kinds := [], alts := [], laidByText := true, laidKinds := [.data, .data], laidTests := true, laidLooks := .later }
def FramePutsCardSaid : Prop := Claim7.holds Tryz.pinned (.plain (OpenSpec.ofChange framePutsSpec)) framePutsCard

/-- THE TIED CARD OF 'sumpterlaw19.PacketSeals'. -/
def packetSealsCard : Claim7 := { stood := { row := packetSealsRow, standIns := [], harness := (true, "5edc8abce0f0e80a565a12ebc361d01cfb55196ef1f7d7d4c4a4a9d927eb3a4c"), looks := true }, kinds := [], alts := [], laidByText := true, laidKinds := [.data, .data, .data, .data], laidTests := true, laidLooks := .later }
def PacketSealsCardSaid : Prop := Claim7.holds Tryz.pinned (.plain (OpenSpec.ofChange packetSealsSpec)) packetSealsCard

/-- THE TIED CARD OF 'sumpterlaw19.PacketKeys'. -/
def packetKeysCard : Claim7 := { stood := { row := packetKeysRow, standIns := [], harness := (true, "5edc8abce0f0e80a565a12ebc361d01cfb55196ef1f7d7d4c4a4a9d927eb3a4c"), looks := true }, kinds := [], alts := [], laidByText := true, laidKinds := [.data, .data, .data, .data], laidTests := true, laidLooks := .later }
def PacketKeysCardSaid : Prop := Claim7.holds Tryz.pinned (.plain (OpenSpec.ofChange packetKeysSpec)) packetKeysCard

/-- THE TIED CARD OF 'sumpterlaw19.PacketBack'. -/
def packetBackCard : Claim7 := { stood := { row := packetBackRow, standIns := [], harness := (true, "5edc8abce0f0e80a565a12ebc361d01cfb55196ef1f7d7d4c4a4a9d927eb3a4c"), looks := true }, kinds := [], alts := [], laidByText := true, laidKinds := [.data, .data, .data, .data], laidTests := true, laidLooks := .later }
def PacketBackCardSaid : Prop := Claim7.holds Tryz.pinned (.plain (OpenSpec.ofChange packetBackSpec)) packetBackCard

/-- THE TIED CARD OF 'sumpterlaw19.PacketRoom'. -/
def packetRoomCard : Claim7 := { stood := { row := packetRoomRow, standIns := [], harness := (true, "5edc8abce0f0e80a565a12ebc361d01cfb55196ef1f7d7d4c4a4a9d927eb3a4c"), looks := true }, kinds := [], alts := [], laidByText := true, laidKinds := [.data, .data, .data, .data], laidTests := true, laidLooks := .later }
def PacketRoomCardSaid : Prop := Claim7.holds Tryz.pinned (.plain (OpenSpec.ofChange packetRoomSpec)) packetRoomCard

/-- THE SECOND FORM's CARD OF 'sumpterlaw18.FramePuts'. -/
def framePutsUptoCard : Claim7 := { stood := { row := framePutsUptoRow, standIns := [], harness := (true, "5edc8abce0f0e80a565a12ebc361d01cfb55196ef1f7d7d4c4a4a9d927eb3a4c"), looks := true }, kinds := [], alts := [], laidByText := true, laidKinds := [.data, .data], laidTests := true, laidLooks := .later }
def FramePutsUptoCardSaid : Prop := Claim7.holds Tryz.pinned (.plain (OpenSpec.upto framePutsSpec)) framePutsUptoCard

/-- THE SECOND FORM's CARD OF 'sumpterlaw19.PacketSeals'. -/
def packetSealsUptoCard : Claim7 := { stood := { row := packetSealsUptoRow, standIns := [], harness := (true, "5edc8abce0f0e80a565a12ebc361d01cfb55196ef1f7d7d4c4a4a9d927eb3a4c"), looks := true }, kinds := [], alts := [], laidByText := true, laidKinds := [.data, .data, .data, .data], laidTests := true, laidLooks := .later }
def PacketSealsUptoCardSaid : Prop := Claim7.holds Tryz.pinned (.plain (OpenSpec.upto packetSealsSpec)) packetSealsUptoCard

/-- THE SECOND FORM's CARD OF 'sumpterlaw19.PacketKeys'. -/
def packetKeysUptoCard : Claim7 := { stood := { row := packetKeysUptoRow, standIns := [], harness := (true, "5edc8abce0f0e80a565a12ebc361d01cfb55196ef1f7d7d4c4a4a9d927eb3a4c"), looks := true }, kinds := [], alts := [], laidByText := true, laidKinds := [.data, .data, .data, .data], laidTests := true, laidLooks := .later }
def PacketKeysUptoCardSaid : Prop := Claim7.holds Tryz.pinned (.plain (OpenSpec.upto packetKeysSpec)) packetKeysUptoCard

/-- THE SECOND FORM's CARD OF 'sumpterlaw19.PacketBack'. -/
def packetBackUptoCard : Claim7 := { stood := { row := packetBackUptoRow, standIns := [], harness := (true, "5edc8abce0f0e80a565a12ebc361d01cfb55196ef1f7d7d4c4a4a9d927eb3a4c"), looks := true }, kinds := [], alts := [], laidByText := true, laidKinds := [.data, .data, .data, .data], laidTests := true, laidLooks := .later }
def PacketBackUptoCardSaid : Prop := Claim7.holds Tryz.pinned (.plain (OpenSpec.upto packetBackSpec)) packetBackUptoCard

/-- THE SECOND FORM's CARD OF 'sumpterlaw19.PacketRoom'. -/
def packetRoomUptoCard : Claim7 := { stood := { row := packetRoomUptoRow, standIns := [], harness := (true, "5edc8abce0f0e80a565a12ebc361d01cfb55196ef1f7d7d4c4a4a9d927eb3a4c"), looks := true }, kinds := [], alts := [], laidByText := true, laidKinds := [.data, .data, .data, .data], laidTests := true, laidLooks := .later }
def PacketRoomUptoCardSaid : Prop := Claim7.holds Tryz.pinned (.plain (OpenSpec.upto packetRoomSpec)) packetRoomUptoCard
end Rows
end Go.Proofs.YtiollhmbdhepkaaGreatDoor
