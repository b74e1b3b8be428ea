/-
  What the document's run, Of and More answer: the register's plain function; nothing is written.
-/
import Derived.Test.YtpkobpdiddjnpabDoorCrSum
namespace Go.Proofs.YtpkobpdiddjnpabDoor.Cr
open Go.RowKit
set_option maxRecDepth 100000

theorem xorP (q : Nat) (h : q < 4294967296) : bits .xor .u32 (q : Int) 3988292384 = ((q ^^^ Reg.P : Nat) : Int) := by
  have e : (3988292384 : Int) = ((Reg.P : Nat) : Int) := by decide
  rw [e]
  exact u32_xor_nat q Reg.P h (by decide)

end Go.Proofs.YtpkobpdiddjnpabDoor.Cr
