/-
  No cell of these rows narrows 'for every input' (looked for: loops, veiled, ifaces, maps, wideKeys, modest, calm, conditions, laid).
  DERIVED. THE GIVEN ROWS OF THIS SEAT. 5 by the template 'for every input the law returns true; each argument reads behind the call as it read before'; 0 by the template 'total and deterministic' (their statements: YtbomkapnkpjjbaaTotals.lean).
  GIVEN WITH THE SEED: the statements are not yours to turn. If you find one false, say at which input.
  Laid BY PROGRAM, IN A SANDBOX (cutbox-rows.mjs): the forced cells as the released guide's own fill.sh prints them over the translation 7c97568d7c022b00… (all of the seat's roots in one cut). By AI agents, Wed Nov 11 2026. No macro, syntax, notation, axiom, sorry.
-/
import Derived.Test.YtbomkapnkpjjbaaChecked
import GoSem.Claim
import GoSem.ClaimJoined
import GoSem.ClaimMapViews
import Derived.JoinedTies
import Derived.KernelRfl
namespace Go.Proofs.Ytbomkapnkpjjbaa
/- THE CELL 'sum', in the pinned program and in every row, IS THE sha256 OF THE DUMP (.gsa) THAT YtbomkapnkpjjbaaProg.lean LOADS. Nothing in Lean hashes anything: it is a label: what it is worth is what the hold of that sum in a sandbox is worth. -/
noncomputable def Try.pinned : Pinned := { name := "ytbomkapnkpjjbaa", sum := "7c97568d7c022b0083c041dad5d2679414bf9c785de12af3065e91b2349b71c8", checked := Try.checked }
namespace Rows
def none {H : Type} : Left H := { results := [], args := [] }

/-- 'sumpterlaw20.RttSamples': WHATEVER THE INPUT: true; the input reads as it did. -/
def rttSamplesSpec : ChangeSpec := { name := "rttSamples", fn := fun _ => fun
  | [d1, d2, d3] => { results := [.lit (.bool true)], args := [d1, d2, d3] }
  | _ => none }
def rttSamplesRow : OpenClaim := { program := "ytbomkapnkpjjbaa", sum := "7c97568d7c022b0083c041dad5d2679414bf9c785de12af3065e91b2349b71c8", func := "sumpter/sumpterlaw20.RttSamples", spec := "rttSamples", apart := false }
def RttSamplesSaid : Prop := rttSamplesRow.holds Try.pinned (OpenSpec.ofChange rttSamplesSpec)

/-- ITS FALSE NEIGHBOUR: 'it returns false'. Refute it at one input. -/
def rttSamplesWrong : ChangeSpec := { name := "rttSamples", fn := fun _ => fun
  | [d1, d2, d3] => { results := [.lit (.bool false)], args := [d1, d2, d3] }
  | _ => none }
def RttSamplesWrongFalsely : Prop := rttSamplesRow.holds Try.pinned (OpenSpec.ofChange rttSamplesWrong)

/-- 'sumpterlaw20.RttWaits': WHATEVER THE INPUT: true; the input reads as it did. -/
def rttWaitsSpec : ChangeSpec := { name := "rttWaits", fn := fun _ => fun
  | [d1, d2] => { results := [.lit (.bool true)], args := [d1, d2] }
  | _ => none }
def rttWaitsRow : OpenClaim := { program := "ytbomkapnkpjjbaa", sum := "7c97568d7c022b0083c041dad5d2679414bf9c785de12af3065e91b2349b71c8", func := "sumpter/sumpterlaw20.RttWaits", spec := "rttWaits", apart := false }
def RttWaitsSaid : Prop := rttWaitsRow.holds Try.pinned (OpenSpec.ofChange rttWaitsSpec)

/-- ITS FALSE NEIGHBOUR: 'it returns false'. Refute it at one input. -/
def rttWaitsWrong : ChangeSpec := { name := "rttWaits", fn := fun _ => fun
  | [d1, d2] => { results := [.lit (.bool false)], args := [d1, d2] }
  | _ => none }
def RttWaitsWrongFalsely : Prop := rttWaitsRow.holds Try.pinned (OpenSpec.ofChange rttWaitsWrong)

/-- 'sumpterlaw20.RttMakes': WHATEVER THE INPUT: true; the input reads as it did. -/
def rttMakesSpec : ChangeSpec := { name := "rttMakes", fn := fun _ => fun
  | [d] => { results := [.lit (.bool true)], args := [d] }
  | _ => none }
def rttMakesRow : OpenClaim := { program := "ytbomkapnkpjjbaa", sum := "7c97568d7c022b0083c041dad5d2679414bf9c785de12af3065e91b2349b71c8", func := "sumpter/sumpterlaw20.RttMakes", spec := "rttMakes", apart := false }
def RttMakesSaid : Prop := rttMakesRow.holds Try.pinned (OpenSpec.ofChange rttMakesSpec)

/-- ITS FALSE NEIGHBOUR: 'it returns false'. Refute it at one input. -/
def rttMakesWrong : ChangeSpec := { name := "rttMakes", fn := fun _ => fun
  | [d] => { results := [.lit (.bool false)], args := [d] }
  | _ => none }
def RttMakesWrongFalsely : Prop := rttMakesRow.holds Try.pinned (OpenSpec.ofChange rttMakesWrong)

/-- 'sumpterlaw20.RttSteady': WHATEVER THE INPUT: true; the input reads as it did. -/
def rttSteadySpec : ChangeSpec := { name := "rttSteady", fn := fun _ => fun
  | [d1, d2] => { results := [.lit (.bool true)], args := [d1, d2] }
  | _ => none }
def rttSteadyRow : OpenClaim := { program := "ytbomkapnkpjjbaa", sum := "7c97568d7c022b0083c041dad5d2679414bf9c785de12af3065e91b2349b71c8", func := "sumpter/sumpterlaw20.RttSteady", spec := "rttSteady", apart := false }
def RttSteadySaid : Prop := rttSteadyRow.holds Try.pinned (OpenSpec.ofChange rttSteadySpec)

/-- ITS FALSE NEIGHBOUR: 'it returns false'. Refute it at one input. -/
def rttSteadyWrong : ChangeSpec := { name := "rttSteady", fn := fun _ => fun
  | [d1, d2] => { results := [.lit (.bool false)], args := [d1, d2] }
  | _ => none }
def RttSteadyWrongFalsely : Prop := rttSteadyRow.holds Try.pinned (OpenSpec.ofChange rttSteadyWrong)

/-- 'sumpterlaw20.RttBacks': WHATEVER THE INPUT: true; the input reads as it did. -/
def rttBacksSpec : ChangeSpec := { name := "rttBacks", fn := fun _ => fun
  | [d1, d2, d3] => { results := [.lit (.bool true)], args := [d1, d2, d3] }
  | _ => none }
def rttBacksRow : OpenClaim := { program := "ytbomkapnkpjjbaa", sum := "7c97568d7c022b0083c041dad5d2679414bf9c785de12af3065e91b2349b71c8", func := "sumpter/sumpterlaw20.RttBacks", spec := "rttBacks", apart := false }
def RttBacksSaid : Prop := rttBacksRow.holds Try.pinned (OpenSpec.ofChange rttBacksSpec)

/-- ITS FALSE NEIGHBOUR: 'it returns false'. Refute it at one input. -/
def rttBacksWrong : ChangeSpec := { name := "rttBacks", fn := fun _ => fun
  | [d1, d2, d3] => { results := [.lit (.bool false)], args := [d1, d2, d3] }
  | _ => none }
def RttBacksWrongFalsely : Prop := rttBacksRow.holds Try.pinned (OpenSpec.ofChange rttBacksWrong)

/- THE SECOND FORM. 'bulk': how many values and letters a reading holds, each counted each time it is reached (what is shared counts as often as it is met; a slice's spare places count too). A statement '..UptoSaid' is the law's where the arguments, and the package variables that the reading takes, are together of bulk at most 1048576: NARROWER than '..Said'. Prove '..Said' where nothing that the law and all that it calls make is longer than what came in: it says more and counts as full. Else prove '..UptoSaid'. A law counts once. -/
mutual
def uptoBulk {H : Type} : DataW H → Nat
  | .lit (.string bytes) => bytes.length + 1
  | .lit _ => 1
  | .nil => 1
  | .ptr d => uptoBulk d + 1
  | .slice elems spare => uptoBulkAll elems + uptoBulkAll spare + 1
  | .agg parts => uptoBulkAll parts + 1
  | .iface _ d => uptoBulk d + 1
  | .map entries => uptoBulkEntries entries + 1
  | .held _ => 1
def uptoBulkAll {H : Type} : List (DataW H) → Nat
  | [] => 0
  | d :: r => uptoBulk d + uptoBulkAll r
def uptoBulkEntries {H : Type} : List (Lit × DataW H) → Nat
  | [] => 0
  | x :: r => uptoBulkEntry x + uptoBulkEntries r
def uptoBulkEntry {H : Type} : Lit × DataW H → Nat
  | (.string bytes, d) => bytes.length + uptoBulk d + 1
  | (_, d) => uptoBulk d + 1
 end
def uptoSmall : (H : Type) → List (DataW H) → Bool := fun _ ds => decide (uptoBulkAll ds ≤ 1048576)
def OpenSpec.upto (s : _root_.Go.ChangeSpec) : _root_.Go.OpenSpec := { _root_.Go.OpenSpec.ofChange s with cond := some uptoSmall }

/-- 'sumpterlaw20.RttSamples', WHERE WHAT IT READS IS OF BULK AT MOST 1048576: true; the input reads as it did. -/
def rttSamplesUptoRow : OpenClaim := { program := "ytbomkapnkpjjbaa", sum := "7c97568d7c022b0083c041dad5d2679414bf9c785de12af3065e91b2349b71c8", func := "sumpter/sumpterlaw20.RttSamples", spec := "rttSamples", apart := false, narrowed := true }
def RttSamplesUptoSaid : Prop := rttSamplesUptoRow.holds Try.pinned (OpenSpec.upto rttSamplesSpec)

/-- 'sumpterlaw20.RttWaits', WHERE WHAT IT READS IS OF BULK AT MOST 1048576: true; the input reads as it did. -/
def rttWaitsUptoRow : OpenClaim := { program := "ytbomkapnkpjjbaa", sum := "7c97568d7c022b0083c041dad5d2679414bf9c785de12af3065e91b2349b71c8", func := "sumpter/sumpterlaw20.RttWaits", spec := "rttWaits", apart := false, narrowed := true }
def RttWaitsUptoSaid : Prop := rttWaitsUptoRow.holds Try.pinned (OpenSpec.upto rttWaitsSpec)

/-- 'sumpterlaw20.RttMakes', WHERE WHAT IT READS IS OF BULK AT MOST 1048576: true; the input reads as it did. -/
def rttMakesUptoRow : OpenClaim := { program := "ytbomkapnkpjjbaa", sum := "7c97568d7c022b0083c041dad5d2679414bf9c785de12af3065e91b2349b71c8", func := "sumpter/sumpterlaw20.RttMakes", spec := "rttMakes", apart := false, narrowed := true }
def RttMakesUptoSaid : Prop := rttMakesUptoRow.holds Try.pinned (OpenSpec.upto rttMakesSpec)

/-- 'sumpterlaw20.RttSteady', WHERE WHAT IT READS IS OF BULK AT MOST 1048576: true; the input reads as it did. -/
def rttSteadyUptoRow : OpenClaim := { program := "ytbomkapnkpjjbaa", sum := "7c97568d7c022b0083c041dad5d2679414bf9c785de12af3065e91b2349b71c8", func := "sumpter/sumpterlaw20.RttSteady", spec := "rttSteady", apart := false, narrowed := true }
def RttSteadyUptoSaid : Prop := rttSteadyUptoRow.holds Try.pinned (OpenSpec.upto rttSteadySpec)

/-- 'sumpterlaw20.RttBacks', WHERE WHAT IT READS IS OF BULK AT MOST 1048576: true; the input reads as it did. -/
def rttBacksUptoRow : OpenClaim := { program := "ytbomkapnkpjjbaa", sum := "7c97568d7c022b0083c041dad5d2679414bf9c785de12af3065e91b2349b71c8", func := "sumpter/sumpterlaw20.RttBacks", spec := "rttBacks", apart := false, narrowed := true }
def RttBacksUptoSaid : Prop := rttBacksUptoRow.holds Try.pinned (OpenSpec.upto rttBacksSpec)

end Rows
end Go.Proofs.Ytbomkapnkpjjbaa
