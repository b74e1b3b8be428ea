/-
  The tables that DeltaMirrors lists: widths, sha's two.
-/
import Derived.Test.YtgnampbbkaolmaaDoorFr
import Derived.Test.YtgnampbbkaolmaaDoorPkD
namespace Go.Proofs.YtgnampbbkaolmaaDoor
open Go.ChangeShapes Go.WideShapes Go.ChangeAt Go.RowKit Go.Deep
set_option maxRecDepth 100000

theorem gT0 : Tryd.prog.globalNamed "sumpter/sha.first" = some 0 := by kernel_rfl
theorem gT1 : Tryd.prog.globalNamed "sumpter/sha.rounds" = some 1 := by kernel_rfl
theorem tT0 : (Tryd.prog.globals[0]?).map (·.type) = some 120 := by kernel_rfl
theorem tT1 : (Tryd.prog.globals[1]?).map (·.type) = some 133 := by kernel_rfl
theorem cellsT0 : Tryd.prog.cellsOf 120 = 8 := by kernel_rfl
theorem cellsT1 : Tryd.prog.cellsOf 133 = 64 := by kernel_rfl
theorem cellsTE : Tryd.prog.cellsOf 81 = 1 := by kernel_rfl
def firstZ : List Int := (Sh.Pl.words Sh.Pl.init).map (fun n : Nat => (n : Int))
def roundZ : List Int := Sh.Pl.K.map (fun n : Nat => (n : Int))
def shaFirst : Array Value := (firstZ.map (Value.int .u32)).toArray
def shaRounds : Array Value := (roundZ.map (Value.int .u32)).toArray
theorem tb_of {W : World} (h : laidMetH Tryd.prog Rows.deltaMirrorsRow.laid W) : Tb W := by
  have t2 : Lib.TabIs Tryd.prog W "sumpter/varint.widths" .i64 widZ := Lib.tabIs_of_head gTW tTW Tryd.underlying151 Tryd.underlying3 cells3 cellsTW h
  have t0 : Lib.TabIs Tryd.prog W "sumpter/sha.first" .u32 firstZ := Lib.tabIs_of_head gT0 tT0 Tryd.underlying120 Tryd.underlying81 cellsTE cellsT0 (laidMet.tail h)
  have t1 : Lib.TabIs Tryd.prog W "sumpter/sha.rounds" .u32 roundZ := Lib.tabIs_of_head gT1 tT1 Tryd.underlying133 Tryd.underlying81 cellsTE cellsT1 (laidMet.tail (laidMet.tail h))
  refine ⟨⟨fun i hi => ?_, fun i hi => ?_⟩, ⟨t2.cell gTW 0 (by decide), t2.cell gTW 1 (by decide), t2.cell gTW 2 (by decide), t2.cell gTW 3 (by decide)⟩⟩
  · rw [t0.cell gT0 i (show i < firstZ.length from hi)]
    have hi2 : i < (Sh.Pl.words Sh.Pl.init).length := hi
    simp [firstZ, List.getD, List.getElem?_eq_getElem hi2]
  · rw [t1.cell gT1 i (show i < roundZ.length from hi)]
    have hi2 : i < Sh.Pl.K.length := hi
    simp [roundZ, List.getD, List.getElem?_eq_getElem hi2]
end Go.Proofs.YtgnampbbkaolmaaDoor
