/-
  NARROWER THAN 'FOR EVERY INPUT', by the rows' own cells (each row's printed sentence says how): FieldLays: laid · FieldTakes: laid · FieldBack: laid · FieldBounds: laid · FieldCuts: laid.
  DERIVED. THE GIVEN ROWS OF THIS SEAT. 5 by the template 'for every input the law returns true; each argument reads behind the call as it read before'; 0 by the template 'total and deterministic' (their statements: YtmlnocjljhhmdaaDoorTotals.lean).
  GIVEN WITH THE SEED: the statements are not yours to turn. If you find one false, say at which input.
  Laid BY PROGRAM, IN A SANDBOX (cutbox-rows.mjs): the forced cells as the released guide's own fill.sh prints them over the translation d0f8b5497b23b203… (all of the seat's roots in one cut). By AI agents, Wed Nov 11 2026. No macro, syntax, notation, axiom, sorry.
-/
import Derived.Test.YtmlnocjljhhmdaaDoorChecked
import GoSem.Claim
import GoSem.ClaimJoined
import GoSem.ClaimMapViews
import Derived.JoinedTies
import Derived.KernelRfl
namespace Go.Proofs.YtmlnocjljhhmdaaDoor
/- THE CELL 'sum', in the pinned program and in every row, IS THE sha256 OF THE DUMP (.gsa) THAT YtmlnocjljhhmdaaDoorProg.lean LOADS. Nothing in Lean hashes anything: it is a label: what it is worth is what the hold of that sum in a sandbox is worth. -/
noncomputable def Tryd.pinned : Pinned := { name := "ytmlnocjljhhmdaadoor", sum := "d0f8b5497b23b203d37e32da9b68e787bbdc3165706715ee2196fda5c55d06ea", checked := Tryd.checked }
namespace Rows
def none {H : Type} : Left H := { results := [], args := [] }

/- WHAT THE LISTED PACKAGE-LEVEL VARIABLES READ AS WHEN THE CALL BEGINS. Each datum BY PROGRAM (the guide's laid-datum.mjs) off the statement by which the dump's own 'gosem.cut.vars' lays the variable. In a bare row this is a premise. The card (YtmlnocjljhhmdaaDoorCards.lean) ties it to the program's text. -/
def laid_sumpter_varint_widths {H : Type} : DataW H := .agg [.lit (.int .i64 1), .lit (.int .i64 2), .lit (.int .i64 4), .lit (.int .i64 8)]

/-- 'sumpterlaw02.FieldLays': WHATEVER THE INPUT: true; the input reads as it did. -/
def fieldLaysSpec : ChangeSpec := { name := "fieldLays", fn := fun _ => fun
  | [d1, d2] => { results := [.lit (.bool true)], args := [d1, d2] }
  | _ => none }
def fieldLaysRow : OpenClaim := { program := "ytmlnocjljhhmdaadoor", sum := "d0f8b5497b23b203d37e32da9b68e787bbdc3165706715ee2196fda5c55d06ea", func := "sumpter/sumpterlaw02.FieldLays", spec := "fieldLays", named := ["sumpter/varint.widths"], apart := false, laid := [("sumpter/varint.widths", laid_sumpter_varint_widths)] }
def FieldLaysSaid : Prop := fieldLaysRow.holds Tryd.pinned (OpenSpec.ofChange fieldLaysSpec)

/-- ITS FALSE NEIGHBOUR: 'it returns false'. Refute it at one input. -/
def fieldLaysWrong : ChangeSpec := { name := "fieldLays", fn := fun _ => fun
  | [d1, d2] => { results := [.lit (.bool false)], args := [d1, d2] }
  | _ => none }
def FieldLaysWrongFalsely : Prop := fieldLaysRow.holds Tryd.pinned (OpenSpec.ofChange fieldLaysWrong)

/-- 'sumpterlaw02.FieldTakes': WHATEVER THE INPUT: true; the input reads as it did. -/
def fieldTakesSpec : ChangeSpec := { name := "fieldTakes", fn := fun _ => fun
  | [d1, d2] => { results := [.lit (.bool true)], args := [d1, d2] }
  | _ => none }
def fieldTakesRow : OpenClaim := { program := "ytmlnocjljhhmdaadoor", sum := "d0f8b5497b23b203d37e32da9b68e787bbdc3165706715ee2196fda5c55d06ea", func := "sumpter/sumpterlaw02.FieldTakes", spec := "fieldTakes", named := ["sumpter/varint.widths"], apart := false, laid := [("sumpter/varint.widths", laid_sumpter_varint_widths)] }
def FieldTakesSaid : Prop := fieldTakesRow.holds Tryd.pinned (OpenSpec.ofChange fieldTakesSpec)

/-- ITS FALSE NEIGHBOUR: 'it returns false'. Refute it at one input. -/
def fieldTakesWrong : ChangeSpec := { name := "fieldTakes", fn := fun _ => fun
  | [d1, d2] => { results := [.lit (.bool false)], args := [d1, d2] }
  | _ => none }
def FieldTakesWrongFalsely : Prop := fieldTakesRow.holds Tryd.pinned (OpenSpec.ofChange fieldTakesWrong)

/-- 'sumpterlaw02.FieldBack': WHATEVER THE INPUT: true; the input reads as it did. -/
def fieldBackSpec : ChangeSpec := { name := "fieldBack", fn := fun _ => fun
  | [d1, d2, d3] => { results := [.lit (.bool true)], args := [d1, d2, d3] }
  | _ => none }
def fieldBackRow : OpenClaim := { program := "ytmlnocjljhhmdaadoor", sum := "d0f8b5497b23b203d37e32da9b68e787bbdc3165706715ee2196fda5c55d06ea", func := "sumpter/sumpterlaw02.FieldBack", spec := "fieldBack", named := ["sumpter/varint.widths"], apart := false, laid := [("sumpter/varint.widths", laid_sumpter_varint_widths)] }
def FieldBackSaid : Prop := fieldBackRow.holds Tryd.pinned (OpenSpec.ofChange fieldBackSpec)

/-- ITS FALSE NEIGHBOUR: 'it returns false'. Refute it at one input. -/
def fieldBackWrong : ChangeSpec := { name := "fieldBack", fn := fun _ => fun
  | [d1, d2, d3] => { results := [.lit (.bool false)], args := [d1, d2, d3] }
  | _ => none }
def FieldBackWrongFalsely : Prop := fieldBackRow.holds Tryd.pinned (OpenSpec.ofChange fieldBackWrong)

/-- 'sumpterlaw02.FieldBounds': WHATEVER THE INPUT: true; the input reads as it did. -/
def fieldBoundsSpec : ChangeSpec := { name := "fieldBounds", fn := fun _ => fun
  | [d1, d2] => { results := [.lit (.bool true)], args := [d1, d2] }
  | _ => none }
def fieldBoundsRow : OpenClaim := { program := "ytmlnocjljhhmdaadoor", sum := "d0f8b5497b23b203d37e32da9b68e787bbdc3165706715ee2196fda5c55d06ea", func := "sumpter/sumpterlaw02.FieldBounds", spec := "fieldBounds", named := ["sumpter/varint.widths"], apart := false, laid := [("sumpter/varint.widths", laid_sumpter_varint_widths)] }
def FieldBoundsSaid : Prop := fieldBoundsRow.holds Tryd.pinned (OpenSpec.ofChange fieldBoundsSpec)

/-- ITS FALSE NEIGHBOUR: 'it returns false'. Refute it at one input. -/
def fieldBoundsWrong : ChangeSpec := { name := "fieldBounds", fn := fun _ => fun
  | [d1, d2] => { results := [.lit (.bool false)], args := [d1, d2] }
  | _ => none }
def FieldBoundsWrongFalsely : Prop := fieldBoundsRow.holds Tryd.pinned (OpenSpec.ofChange fieldBoundsWrong)

/-- 'sumpterlaw02.FieldCuts': WHATEVER THE INPUT: true; the input reads as it did. -/
def fieldCutsSpec : ChangeSpec := { name := "fieldCuts", fn := fun _ => fun
  | [d1, d2] => { results := [.lit (.bool true)], args := [d1, d2] }
  | _ => none }
def fieldCutsRow : OpenClaim := { program := "ytmlnocjljhhmdaadoor", sum := "d0f8b5497b23b203d37e32da9b68e787bbdc3165706715ee2196fda5c55d06ea", func := "sumpter/sumpterlaw02.FieldCuts", spec := "fieldCuts", named := ["sumpter/varint.widths"], apart := false, laid := [("sumpter/varint.widths", laid_sumpter_varint_widths)] }
def FieldCutsSaid : Prop := fieldCutsRow.holds Tryd.pinned (OpenSpec.ofChange fieldCutsSpec)

/-- ITS FALSE NEIGHBOUR: 'it returns false'. Refute it at one input. -/
def fieldCutsWrong : ChangeSpec := { name := "fieldCuts", fn := fun _ => fun
  | [d1, d2] => { results := [.lit (.bool false)], args := [d1, d2] }
  | _ => none }
def FieldCutsWrongFalsely : Prop := fieldCutsRow.holds Tryd.pinned (OpenSpec.ofChange fieldCutsWrong)

/- THE SECOND FORM. 'bulk': how many values and letters a reading holds, each counted each time it is reached (what is shared counts as often as it is met; a slice's spare places count too). A statement '..UptoSaid' is the law's where the arguments, and the package variables that the reading takes, are together of bulk at most 1048576: NARROWER than '..Said'. Prove '..Said' where nothing that the law and all that it calls make is longer than what came in: it says more and counts as full. Else prove '..UptoSaid'. A law counts once. -/
mutual
def uptoBulk {H : Type} : DataW H → Nat
  | .lit (.string bytes) => bytes.length + 1
  | .lit _ => 1
  | .nil => 1
  | .ptr d => uptoBulk d + 1
  | .slice elems spare => uptoBulkAll elems + uptoBulkAll spare + 1
  | .agg parts => uptoBulkAll parts + 1
  | .iface _ d => uptoBulk d + 1
  | .map entries => uptoBulkEntries entries + 1
  | .held _ => 1
def uptoBulkAll {H : Type} : List (DataW H) → Nat
  | [] => 0
  | d :: r => uptoBulk d + uptoBulkAll r
def uptoBulkEntries {H : Type} : List (Lit × DataW H) → Nat
  | [] => 0
  | x :: r => uptoBulkEntry x + uptoBulkEntries r
def uptoBulkEntry {H : Type} : Lit × DataW H → Nat
  | (.string bytes, d) => bytes.length + uptoBulk d + 1
  | (_, d) => uptoBulk d + 1
 end
def uptoSmall : (H : Type) → List (DataW H) → Bool := fun _ ds => decide (uptoBulkAll ds ≤ 1048576)
def OpenSpec.upto (s : _root_.Go.ChangeSpec) : _root_.Go.OpenSpec := { _root_.Go.OpenSpec.ofChange s with cond := some uptoSmall }

/-- 'sumpterlaw02.FieldLays', WHERE WHAT IT READS IS OF BULK AT MOST 1048576: true; the input reads as it did. -/
def fieldLaysUptoRow : OpenClaim := { program := "ytmlnocjljhhmdaadoor", sum := "d0f8b5497b23b203d37e32da9b68e787bbdc3165706715ee2196fda5c55d06ea", func := "sumpter/sumpterlaw02.FieldLays", spec := "fieldLays", named := ["sumpter/varint.widths"], apart := false, laid := [("sumpter/varint.widths", laid_sumpter_varint_widths)], narrowed := true }
def FieldLaysUptoSaid : Prop := fieldLaysUptoRow.holds Tryd.pinned (OpenSpec.upto fieldLaysSpec)

/-- 'sumpterlaw02.FieldTakes', WHERE WHAT IT READS IS OF BULK AT MOST 1048576: true; the input reads as it did. -/
def fieldTakesUptoRow : OpenClaim := { program := "ytmlnocjljhhmdaadoor", sum := "d0f8b5497b23b203d37e32da9b68e787bbdc3165706715ee2196fda5c55d06ea", func := "sumpter/sumpterlaw02.FieldTakes", spec := "fieldTakes", named := ["sumpter/varint.widths"], apart := false, laid := [("sumpter/varint.widths", laid_sumpter_varint_widths)], narrowed := true }
def FieldTakesUptoSaid : Prop := fieldTakesUptoRow.holds Tryd.pinned (OpenSpec.upto fieldTakesSpec)

/-- 'sumpterlaw02.FieldBack', WHERE WHAT IT READS IS OF BULK AT MOST 1048576: true; the input reads as it did. -/
def fieldBackUptoRow : OpenClaim := { program := "ytmlnocjljhhmdaadoor", sum := "d0f8b5497b23b203d37e32da9b68e787bbdc3165706715ee2196fda5c55d06ea", func := "sumpter/sumpterlaw02.FieldBack", spec := "fieldBack", named := ["sumpter/varint.widths"], apart := false, laid := [("sumpter/varint.widths", laid_sumpter_varint_widths)], narrowed := true }
def FieldBackUptoSaid : Prop := fieldBackUptoRow.holds Tryd.pinned (OpenSpec.upto fieldBackSpec)

/-- 'sumpterlaw02.FieldBounds', WHERE WHAT IT READS IS OF BULK AT MOST 1048576: true; the input reads as it did. -/
def fieldBoundsUptoRow : OpenClaim := { program := "ytmlnocjljhhmdaadoor", sum := "d0f8b5497b23b203d37e32da9b68e787bbdc3165706715ee2196fda5c55d06ea", func := "sumpter/sumpterlaw02.FieldBounds", spec := "fieldBounds", named := ["sumpter/varint.widths"], apart := false, laid := [("sumpter/varint.widths", laid_sumpter_varint_widths)], narrowed := true }
def FieldBoundsUptoSaid : Prop := fieldBoundsUptoRow.holds Tryd.pinned (OpenSpec.upto fieldBoundsSpec)

/-- 'sumpterlaw02.FieldCuts', WHERE WHAT IT READS IS OF BULK AT MOST 1048576: true; the input reads as it did. -/
def fieldCutsUptoRow : OpenClaim := { program := "ytmlnocjljhhmdaadoor", sum := "d0f8b5497b23b203d37e32da9b68e787bbdc3165706715ee2196fda5c55d06ea", func := "sumpter/sumpterlaw02.FieldCuts", spec := "fieldCuts", named := ["sumpter/varint.widths"], apart := false, laid := [("sumpter/varint.widths", laid_sumpter_varint_widths)], narrowed := true }
def FieldCutsUptoSaid : Prop := fieldCutsUptoRow.holds Tryd.pinned (OpenSpec.upto fieldCutsSpec)

end Rows
end Go.Proofs.YtmlnocjljhhmdaaDoor
