/-
  What the statements of layer 1 share: the listed table of widths gives the walks what they read.
-/
import Derived.Test.YtidgmgebpancmaaDoorAwake
import Derived.Test.YtidgmgebpancmaaDoorTie
import Derived.Test.YtidgmgebpancmaaDoorCards
import Derived.ProofKit
import Derived.OpenShut
import Derived.Carry
import Derived.ChangeOld
import Derived.Deep.DeepHandedRow
import Derived.Lib.LaidTab
namespace Go.Proofs.YtidgmgebpancmaaDoor
open Go.ChangeShapes Go.WideShapes Go.ChangeAt Go.RowKit

theorem own : ownKnob Tryd.prog.godebug = none := by kernel_rfl
theorem laidOut : laidOutB Tryd.prog = true := by kernel_rfl
theorem gWid : Tryd.prog.globalNamed "sumpter/varint.widths" = some 0 := by kernel_rfl
theorem tWid : (Tryd.prog.globals[0]?).map (·.type) = some 41 := by kernel_rfl
theorem cells41 : Tryd.prog.cellsOf 41 = 4 := by kernel_rfl
theorem cells3 : Tryd.prog.cellsOf 3 = 1 := by kernel_rfl
theorem cells5 : Tryd.prog.cellsOf 5 = 1 := by kernel_rfl

theorem wid_of {W : World} (h : laidMetH Tryd.prog [("sumpter/varint.widths", Rows.laid_sumpter_varint_widths)] W) : Wid W := by
  have t : Lib.TabIs Tryd.prog W "sumpter/varint.widths" .i64 [1, 2, 4, 8] := Lib.tabIs_of_head (rest := []) gWid tWid Tryd.underlying41 Tryd.underlying3 cells3 cells41 h
  exact ⟨t.cell gWid 0 (by decide), t.cell gWid 1 (by decide), t.cell gWid 2 (by decide), t.cell gWid 3 (by decide)⟩

end Go.Proofs.YtidgmgebpancmaaDoor
