/-
  The listed table gives DeltaForks' walk what it reads.
-/
import Derived.Test.YtfccjeepmhgckaaDoorFr
namespace Go.Proofs.YtfccjeepmhgckaaDoor
open Go.ChangeShapes Go.WideShapes Go.ChangeAt Go.RowKit Go.Deep
set_option maxRecDepth 100000

theorem wj_of {W : World} (h : laidMetH Tryd.prog Rows.deltaForksRow.laid W) : Fi.Wid W := by
  have t0 : Lib.TabIs Tryd.prog W "sumpter/varint.widths" .i64 widZ := Lib.tabIs_of_head gTW tTW Tryd.underlying76 Tryd.underlying3 cells3 cellsTW h
  exact ⟨t0.cell gTW 0 (by decide), t0.cell gTW 1 (by decide), t0.cell gTW 2 (by decide), t0.cell gTW 3 (by decide)⟩
end Go.Proofs.YtfccjeepmhgckaaDoor
