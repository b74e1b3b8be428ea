/-
  NARROWER THAN 'FOR EVERY INPUT', by the rows' own cells (each row's printed sentence says how): RangesPlays: laid · RangesForks: laid · RangesOrder: laid · RangesBack: laid · RangesGaps: laid.
  DERIVED. THE GIVEN ROWS OF THIS SEAT. 5 by the template 'for every input the law returns true; each argument reads behind the call as it read before'; 0 by the template 'total and deterministic' (their statements: YtaghmoddalbepaaDoorTotals.lean).
  GIVEN WITH THE SEED: the statements are not yours to turn. If you find one false, say at which input.
  Laid BY PROGRAM, IN A SANDBOX (cutbox-rows.mjs): the forced cells as the released guide's own fill.sh prints them over the translation d3d6d7db4f4f3868… (all of the seat's roots in one cut). By AI agents, Wed Nov 11 2026. No macro, syntax, notation, axiom, sorry.
-/
import Derived.Test.YtaghmoddalbepaaDoorChecked
import GoSem.Claim
import GoSem.ClaimJoined
import GoSem.ClaimMapViews
import Derived.JoinedTies
import Derived.KernelRfl
namespace Go.Proofs.YtaghmoddalbepaaDoor
/- THE CELL 'sum', in the pinned program and in every row, IS THE sha256 OF THE DUMP (.gsa) THAT YtaghmoddalbepaaDoorProg.lean LOADS. Nothing in Lean hashes anything: it is a label: what it is worth is what the hold of that sum in a sandbox is worth. -/
noncomputable def Tryd.pinned : Pinned := { name := "ytaghmoddalbepaadoor", sum := "d3d6d7db4f4f3868ed00dde4f6659501c5469580251af28d9bf51aebe49fe630", checked := Tryd.checked }
namespace Rows
def none {H : Type} : Left H := { results := [], args := [] }

/- WHAT THE LISTED PACKAGE-LEVEL VARIABLES READ AS WHEN THE CALL BEGINS. Each datum BY PROGRAM (the guide's laid-datum.mjs) off the statement by which the dump's own 'gosem.cut.vars' lays the variable. In a bare row this is a premise. The card (YtaghmoddalbepaaDoorCards.lean) ties it to the program's text. -/
def laid_sumpter_varint_widths {H : Type} : DataW H := .agg [.lit (.int .i64 1), .lit (.int .i64 2), .lit (.int .i64 4), .lit (.int .i64 8)]

/-- 'sumpterlaw17.RangesPlays': WHATEVER THE INPUT: true; the input reads as it did. -/
def rangesPlaysSpec : ChangeSpec := { name := "rangesPlays", fn := fun _ => fun
  | [d1, d2] => { results := [.lit (.bool true)], args := [d1, d2] }
  | _ => none }
def rangesPlaysRow : OpenClaim := { program := "ytaghmoddalbepaadoor", sum := "d3d6d7db4f4f3868ed00dde4f6659501c5469580251af28d9bf51aebe49fe630", func := "sumpter/sumpterlaw17.RangesPlays", spec := "rangesPlays", inPlace := ["slices.overlaps[sumpter/api.Span]"], unfollowed := true, recurses := true, named := ["sumpter/varint.widths"], apart := false, laid := [("sumpter/varint.widths", laid_sumpter_varint_widths)] }
def RangesPlaysSaid : Prop := rangesPlaysRow.holds Tryd.pinned (OpenSpec.ofChange rangesPlaysSpec)

/-- ITS FALSE NEIGHBOUR: 'it returns false'. Refute it at one input. -/
def rangesPlaysWrong : ChangeSpec := { name := "rangesPlays", fn := fun _ => fun
  | [d1, d2] => { results := [.lit (.bool false)], args := [d1, d2] }
  | _ => none }
def RangesPlaysWrongFalsely : Prop := rangesPlaysRow.holds Tryd.pinned (OpenSpec.ofChange rangesPlaysWrong)

/-- 'sumpterlaw17.RangesForks': WHATEVER THE INPUT: true; the input reads as it did. -/
def rangesForksSpec : ChangeSpec := { name := "rangesForks", fn := fun _ => fun
  | [d1, d2] => { results := [.lit (.bool true)], args := [d1, d2] }
  | _ => none }
def rangesForksRow : OpenClaim := { program := "ytaghmoddalbepaadoor", sum := "d3d6d7db4f4f3868ed00dde4f6659501c5469580251af28d9bf51aebe49fe630", func := "sumpter/sumpterlaw17.RangesForks", spec := "rangesForks", inPlace := ["slices.overlaps[sumpter/api.Span]"], unfollowed := true, recurses := true, named := ["sumpter/varint.widths"], apart := false, laid := [("sumpter/varint.widths", laid_sumpter_varint_widths)] }
def RangesForksSaid : Prop := rangesForksRow.holds Tryd.pinned (OpenSpec.ofChange rangesForksSpec)

/-- ITS FALSE NEIGHBOUR: 'it returns false'. Refute it at one input. -/
def rangesForksWrong : ChangeSpec := { name := "rangesForks", fn := fun _ => fun
  | [d1, d2] => { results := [.lit (.bool false)], args := [d1, d2] }
  | _ => none }
def RangesForksWrongFalsely : Prop := rangesForksRow.holds Tryd.pinned (OpenSpec.ofChange rangesForksWrong)

/-- 'sumpterlaw17.RangesOrder': WHATEVER THE INPUT: true; the input reads as it did. -/
def rangesOrderSpec : ChangeSpec := { name := "rangesOrder", fn := fun _ => fun
  | [d1, d2] => { results := [.lit (.bool true)], args := [d1, d2] }
  | _ => none }
def rangesOrderRow : OpenClaim := { program := "ytaghmoddalbepaadoor", sum := "d3d6d7db4f4f3868ed00dde4f6659501c5469580251af28d9bf51aebe49fe630", func := "sumpter/sumpterlaw17.RangesOrder", spec := "rangesOrder", inPlace := ["slices.overlaps[sumpter/api.Span]"], unfollowed := true, recurses := true, named := ["sumpter/varint.widths"], apart := false, laid := [("sumpter/varint.widths", laid_sumpter_varint_widths)] }
def RangesOrderSaid : Prop := rangesOrderRow.holds Tryd.pinned (OpenSpec.ofChange rangesOrderSpec)

/-- ITS FALSE NEIGHBOUR: 'it returns false'. Refute it at one input. -/
def rangesOrderWrong : ChangeSpec := { name := "rangesOrder", fn := fun _ => fun
  | [d1, d2] => { results := [.lit (.bool false)], args := [d1, d2] }
  | _ => none }
def RangesOrderWrongFalsely : Prop := rangesOrderRow.holds Tryd.pinned (OpenSpec.ofChange rangesOrderWrong)

/-- 'sumpterlaw17.RangesBack': WHATEVER THE INPUT: true; the input reads as it did. -/
def rangesBackSpec : ChangeSpec := { name := "rangesBack", fn := fun _ => fun
  | [d1, d2, d3] => { results := [.lit (.bool true)], args := [d1, d2, d3] }
  | _ => none }
def rangesBackRow : OpenClaim := { program := "ytaghmoddalbepaadoor", sum := "d3d6d7db4f4f3868ed00dde4f6659501c5469580251af28d9bf51aebe49fe630", func := "sumpter/sumpterlaw17.RangesBack", spec := "rangesBack", inPlace := ["slices.overlaps[sumpter/api.Span]"], unfollowed := true, recurses := true, named := ["sumpter/varint.widths"], apart := false, laid := [("sumpter/varint.widths", laid_sumpter_varint_widths)] }
def RangesBackSaid : Prop := rangesBackRow.holds Tryd.pinned (OpenSpec.ofChange rangesBackSpec)

/-- ITS FALSE NEIGHBOUR: 'it returns false'. Refute it at one input. -/
def rangesBackWrong : ChangeSpec := { name := "rangesBack", fn := fun _ => fun
  | [d1, d2, d3] => { results := [.lit (.bool false)], args := [d1, d2, d3] }
  | _ => none }
def RangesBackWrongFalsely : Prop := rangesBackRow.holds Tryd.pinned (OpenSpec.ofChange rangesBackWrong)

/-- 'sumpterlaw17.RangesGaps': WHATEVER THE INPUT: true; the input reads as it did. -/
def rangesGapsSpec : ChangeSpec := { name := "rangesGaps", fn := fun _ => fun
  | [d1, d2] => { results := [.lit (.bool true)], args := [d1, d2] }
  | _ => none }
def rangesGapsRow : OpenClaim := { program := "ytaghmoddalbepaadoor", sum := "d3d6d7db4f4f3868ed00dde4f6659501c5469580251af28d9bf51aebe49fe630", func := "sumpter/sumpterlaw17.RangesGaps", spec := "rangesGaps", inPlace := ["slices.overlaps[sumpter/api.Span]"], unfollowed := true, recurses := true, named := ["sumpter/varint.widths"], apart := false, laid := [("sumpter/varint.widths", laid_sumpter_varint_widths)] }
def RangesGapsSaid : Prop := rangesGapsRow.holds Tryd.pinned (OpenSpec.ofChange rangesGapsSpec)

/-- ITS FALSE NEIGHBOUR: 'it returns false'. Refute it at one input. -/
def rangesGapsWrong : ChangeSpec := { name := "rangesGaps", fn := fun _ => fun
  | [d1, d2] => { results := [.lit (.bool false)], args := [d1, d2] }
  | _ => none }
def RangesGapsWrongFalsely : Prop := rangesGapsRow.holds Tryd.pinned (OpenSpec.ofChange rangesGapsWrong)

/- THE SECOND FORM. 'bulk': how many values and letters a reading holds, each counted each time it is reached (what is shared counts as often as it is met; a slice's spare places count too). A statement '..UptoSaid' is the law's where the arguments, and the package variables that the reading takes, are together of bulk at most 1048576: NARROWER than '..Said'. Prove '..Said' where nothing that the law and all that it calls make is longer than what came in: it says more and counts as full. Else prove '..UptoSaid'. A law counts once. -/
mutual
def uptoBulk {H : Type} : DataW H → Nat
  | .lit (.string bytes) => bytes.length + 1
  | .lit _ => 1
  | .nil => 1
  | .ptr d => uptoBulk d + 1
  | .slice elems spare => uptoBulkAll elems + uptoBulkAll spare + 1
  | .agg parts => uptoBulkAll parts + 1
  | .iface _ d => uptoBulk d + 1
  | .map entries => uptoBulkEntries entries + 1
  | .held _ => 1
def uptoBulkAll {H : Type} : List (DataW H) → Nat
  | [] => 0
  | d :: r => uptoBulk d + uptoBulkAll r
def uptoBulkEntries {H : Type} : List (Lit × DataW H) → Nat
  | [] => 0
  | x :: r => uptoBulkEntry x + uptoBulkEntries r
def uptoBulkEntry {H : Type} : Lit × DataW H → Nat
  | (.string bytes, d) => bytes.length + uptoBulk d + 1
  | (_, d) => uptoBulk d + 1
 end
def uptoSmall : (H : Type) → List (DataW H) → Bool := fun _ ds => decide (uptoBulkAll ds ≤ 1048576)
def OpenSpec.upto (s : _root_.Go.ChangeSpec) : _root_.Go.OpenSpec := { _root_.Go.OpenSpec.ofChange s with cond := some uptoSmall }

/-- 'sumpterlaw17.RangesPlays', WHERE WHAT IT READS IS OF BULK AT MOST 1048576: true; the input reads as it did. -/
def rangesPlaysUptoRow : OpenClaim := { program := "ytaghmoddalbepaadoor", sum := "d3d6d7db4f4f3868ed00dde4f6659501c5469580251af28d9bf51aebe49fe630", func := "sumpter/sumpterlaw17.RangesPlays", spec := "rangesPlays", inPlace := ["slices.overlaps[sumpter/api.Span]"], unfollowed := true, recurses := true, named := ["sumpter/varint.widths"], apart := false, laid := [("sumpter/varint.widths", laid_sumpter_varint_widths)], narrowed := true }
def RangesPlaysUptoSaid : Prop := rangesPlaysUptoRow.holds Tryd.pinned (OpenSpec.upto rangesPlaysSpec)

/-- 'sumpterlaw17.RangesForks', WHERE WHAT IT READS IS OF BULK AT MOST 1048576: true; the input reads as it did. -/
def rangesForksUptoRow : OpenClaim := { program := "ytaghmoddalbepaadoor", sum := "d3d6d7db4f4f3868ed00dde4f6659501c5469580251af28d9bf51aebe49fe630", func := "sumpter/sumpterlaw17.RangesForks", spec := "rangesForks", inPlace := ["slices.overlaps[sumpter/api.Span]"], unfollowed := true, recurses := true, named := ["sumpter/varint.widths"], apart := false, laid := [("sumpter/varint.widths", laid_sumpter_varint_widths)], narrowed := true }
def RangesForksUptoSaid : Prop := rangesForksUptoRow.holds Tryd.pinned (OpenSpec.upto rangesForksSpec)

/-- 'sumpterlaw17.RangesOrder', WHERE WHAT IT READS IS OF BULK AT MOST 1048576: true; the input reads as it did. -/
def rangesOrderUptoRow : OpenClaim := { program := "ytaghmoddalbepaadoor", sum := "d3d6d7db4f4f3868ed00dde4f6659501c5469580251af28d9bf51aebe49fe630", func := "sumpter/sumpterlaw17.RangesOrder", spec := "rangesOrder", inPlace := ["slices.overlaps[sumpter/api.Span]"], unfollowed := true, recurses := true, named := ["sumpter/varint.widths"], apart := false, laid := [("sumpter/varint.widths", laid_sumpter_varint_widths)], narrowed := true }
def RangesOrderUptoSaid : Prop := rangesOrderUptoRow.holds Tryd.pinned (OpenSpec.upto rangesOrderSpec)

/-- 'sumpterlaw17.RangesBack', WHERE WHAT IT READS IS OF BULK AT MOST 1048576: true; the input reads as it did. -/
def rangesBackUptoRow : OpenClaim := { program := "ytaghmoddalbepaadoor", sum := "d3d6d7db4f4f3868ed00dde4f6659501c5469580251af28d9bf51aebe49fe630", func := "sumpter/sumpterlaw17.RangesBack", spec := "rangesBack", inPlace := ["slices.overlaps[sumpter/api.Span]"], unfollowed := true, recurses := true, named := ["sumpter/varint.widths"], apart := false, laid := [("sumpter/varint.widths", laid_sumpter_varint_widths)], narrowed := true }
def RangesBackUptoSaid : Prop := rangesBackUptoRow.holds Tryd.pinned (OpenSpec.upto rangesBackSpec)

/-- 'sumpterlaw17.RangesGaps', WHERE WHAT IT READS IS OF BULK AT MOST 1048576: true; the input reads as it did. -/
def rangesGapsUptoRow : OpenClaim := { program := "ytaghmoddalbepaadoor", sum := "d3d6d7db4f4f3868ed00dde4f6659501c5469580251af28d9bf51aebe49fe630", func := "sumpter/sumpterlaw17.RangesGaps", spec := "rangesGaps", inPlace := ["slices.overlaps[sumpter/api.Span]"], unfollowed := true, recurses := true, named := ["sumpter/varint.widths"], apart := false, laid := [("sumpter/varint.widths", laid_sumpter_varint_widths)], narrowed := true }
def RangesGapsUptoSaid : Prop := rangesGapsUptoRow.holds Tryd.pinned (OpenSpec.upto rangesGapsSpec)

end Rows
end Go.Proofs.YtaghmoddalbepaaDoor
