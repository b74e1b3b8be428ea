/-
  No cell of these rows narrows 'for every input' (looked for: loops, veiled, ifaces, maps, wideKeys, modest, calm, conditions, laid).
  DERIVED. THE GIVEN ROWS OF THIS SEAT. 5 by the template 'for every input the law returns true; each argument reads behind the call as it read before'; 0 by the template 'total and deterministic' (their statements: YtamjbmbflllbfaaTotals.lean).
  GIVEN WITH THE SEED: the statements are not yours to turn. If you find one false, say at which input.
  Laid BY PROGRAM, IN A SANDBOX (cutbox-rows.mjs): the forced cells as the released guide's own fill.sh prints them over the translation 8add0bbfcdb1d642… (all of the seat's roots in one cut). By AI agents, Wed Nov 11 2026. No macro, syntax, notation, axiom, sorry.
-/
import Derived.Test.YtamjbmbflllbfaaChecked
import GoSem.Claim
import GoSem.ClaimJoined
import GoSem.ClaimMapViews
import Derived.JoinedTies
import Derived.KernelRfl
namespace Go.Proofs.Ytamjbmbflllbfaa
/- THE CELL 'sum', in the pinned program and in every row, IS THE sha256 OF THE DUMP (.gsa) THAT YtamjbmbflllbfaaProg.lean LOADS. Nothing in Lean hashes anything: it is a label: what it is worth is what the hold of that sum in a sandbox is worth. -/
noncomputable def Try.pinned : Pinned := { name := "ytamjbmbflllbfaa", sum := "8add0bbfcdb1d642f34dfcccf4dfae41416789f7f5a6512165717a52a7603ef7", checked := Try.checked }
namespace Rows
def none {H : Type} : Left H := { results := [], args := [] }

/-- 'sumpterlaw21.LossPlays': WHATEVER THE INPUT: true; the input reads as it did. -/
def lossPlaysSpec : ChangeSpec := { name := "lossPlays", fn := fun _ => fun
  | [d1, d2] => { results := [.lit (.bool true)], args := [d1, d2] }
  | _ => none }
def lossPlaysRow : OpenClaim := { program := "ytamjbmbflllbfaa", sum := "8add0bbfcdb1d642f34dfcccf4dfae41416789f7f5a6512165717a52a7603ef7", func := "sumpter/sumpterlaw21.LossPlays", spec := "lossPlays", inPlace := ["slices.overlaps[sumpter/api.Span]"], unfollowed := true, recurses := true, apart := false }
def LossPlaysSaid : Prop := lossPlaysRow.holds Try.pinned (OpenSpec.ofChange lossPlaysSpec)

/-- ITS FALSE NEIGHBOUR: 'it returns false'. Refute it at one input. -/
def lossPlaysWrong : ChangeSpec := { name := "lossPlays", fn := fun _ => fun
  | [d1, d2] => { results := [.lit (.bool false)], args := [d1, d2] }
  | _ => none }
def LossPlaysWrongFalsely : Prop := lossPlaysRow.holds Try.pinned (OpenSpec.ofChange lossPlaysWrong)

/-- 'sumpterlaw21.LossForks': WHATEVER THE INPUT: true; the input reads as it did. -/
def lossForksSpec : ChangeSpec := { name := "lossForks", fn := fun _ => fun
  | [d1, d2] => { results := [.lit (.bool true)], args := [d1, d2] }
  | _ => none }
def lossForksRow : OpenClaim := { program := "ytamjbmbflllbfaa", sum := "8add0bbfcdb1d642f34dfcccf4dfae41416789f7f5a6512165717a52a7603ef7", func := "sumpter/sumpterlaw21.LossForks", spec := "lossForks", inPlace := ["slices.overlaps[sumpter/api.Span]"], unfollowed := true, recurses := true, apart := false }
def LossForksSaid : Prop := lossForksRow.holds Try.pinned (OpenSpec.ofChange lossForksSpec)

/-- ITS FALSE NEIGHBOUR: 'it returns false'. Refute it at one input. -/
def lossForksWrong : ChangeSpec := { name := "lossForks", fn := fun _ => fun
  | [d1, d2] => { results := [.lit (.bool false)], args := [d1, d2] }
  | _ => none }
def LossForksWrongFalsely : Prop := lossForksRow.holds Try.pinned (OpenSpec.ofChange lossForksWrong)

/-- 'sumpterlaw21.LossOnce': WHATEVER THE INPUT: true; the input reads as it did. -/
def lossOnceSpec : ChangeSpec := { name := "lossOnce", fn := fun _ => fun
  | [d] => { results := [.lit (.bool true)], args := [d] }
  | _ => none }
def lossOnceRow : OpenClaim := { program := "ytamjbmbflllbfaa", sum := "8add0bbfcdb1d642f34dfcccf4dfae41416789f7f5a6512165717a52a7603ef7", func := "sumpter/sumpterlaw21.LossOnce", spec := "lossOnce", inPlace := ["slices.overlaps[sumpter/api.Span]"], unfollowed := true, recurses := true, apart := false }
def LossOnceSaid : Prop := lossOnceRow.holds Try.pinned (OpenSpec.ofChange lossOnceSpec)

/-- ITS FALSE NEIGHBOUR: 'it returns false'. Refute it at one input. -/
def lossOnceWrong : ChangeSpec := { name := "lossOnce", fn := fun _ => fun
  | [d] => { results := [.lit (.bool false)], args := [d] }
  | _ => none }
def LossOnceWrongFalsely : Prop := lossOnceRow.holds Try.pinned (OpenSpec.ofChange lossOnceWrong)

/-- 'sumpterlaw21.LossThree': WHATEVER THE INPUT: true; the input reads as it did. -/
def lossThreeSpec : ChangeSpec := { name := "lossThree", fn := fun _ => fun
  | [d1, d2, d3] => { results := [.lit (.bool true)], args := [d1, d2, d3] }
  | _ => none }
def lossThreeRow : OpenClaim := { program := "ytamjbmbflllbfaa", sum := "8add0bbfcdb1d642f34dfcccf4dfae41416789f7f5a6512165717a52a7603ef7", func := "sumpter/sumpterlaw21.LossThree", spec := "lossThree", inPlace := ["slices.overlaps[sumpter/api.Span]"], unfollowed := true, recurses := true, apart := false }
def LossThreeSaid : Prop := lossThreeRow.holds Try.pinned (OpenSpec.ofChange lossThreeSpec)

/-- ITS FALSE NEIGHBOUR: 'it returns false'. Refute it at one input. -/
def lossThreeWrong : ChangeSpec := { name := "lossThree", fn := fun _ => fun
  | [d1, d2, d3] => { results := [.lit (.bool false)], args := [d1, d2, d3] }
  | _ => none }
def LossThreeWrongFalsely : Prop := lossThreeRow.holds Try.pinned (OpenSpec.ofChange lossThreeWrong)

/-- 'sumpterlaw21.LossNext': WHATEVER THE INPUT: true; the input reads as it did. -/
def lossNextSpec : ChangeSpec := { name := "lossNext", fn := fun _ => fun
  | [d1, d2] => { results := [.lit (.bool true)], args := [d1, d2] }
  | _ => none }
def lossNextRow : OpenClaim := { program := "ytamjbmbflllbfaa", sum := "8add0bbfcdb1d642f34dfcccf4dfae41416789f7f5a6512165717a52a7603ef7", func := "sumpter/sumpterlaw21.LossNext", spec := "lossNext", inPlace := ["slices.overlaps[sumpter/api.Span]"], unfollowed := true, recurses := true, apart := false }
def LossNextSaid : Prop := lossNextRow.holds Try.pinned (OpenSpec.ofChange lossNextSpec)

/-- ITS FALSE NEIGHBOUR: 'it returns false'. Refute it at one input. -/
def lossNextWrong : ChangeSpec := { name := "lossNext", fn := fun _ => fun
  | [d1, d2] => { results := [.lit (.bool false)], args := [d1, d2] }
  | _ => none }
def LossNextWrongFalsely : Prop := lossNextRow.holds Try.pinned (OpenSpec.ofChange lossNextWrong)

/- THE SECOND FORM. 'bulk': how many values and letters a reading holds, each counted each time it is reached (what is shared counts as often as it is met; a slice's spare places count too). A statement '..UptoSaid' is the law's where the arguments, and the package variables that the reading takes, are together of bulk at most 1048576: NARROWER than '..Said'. Prove '..Said' where nothing that the law and all that it calls make is longer than what came in: it says more and counts as full. Else prove '..UptoSaid'. A law counts once. -/
mutual
def uptoBulk {H : Type} : DataW H → Nat
  | .lit (.string bytes) => bytes.length + 1
  | .lit _ => 1
  | .nil => 1
  | .ptr d => uptoBulk d + 1
  | .slice elems spare => uptoBulkAll elems + uptoBulkAll spare + 1
  | .agg parts => uptoBulkAll parts + 1
  | .iface _ d => uptoBulk d + 1
  | .map entries => uptoBulkEntries entries + 1
  | .held _ => 1
def uptoBulkAll {H : Type} : List (DataW H) → Nat
  | [] => 0
  | d :: r => uptoBulk d + uptoBulkAll r
def uptoBulkEntries {H : Type} : List (Lit × DataW H) → Nat
  | [] => 0
  | x :: r => uptoBulkEntry x + uptoBulkEntries r
def uptoBulkEntry {H : Type} : Lit × DataW H → Nat
  | (.string bytes, d) => bytes.length + uptoBulk d + 1
  | (_, d) => uptoBulk d + 1
 end
def uptoSmall : (H : Type) → List (DataW H) → Bool := fun _ ds => decide (uptoBulkAll ds ≤ 1048576)
def OpenSpec.upto (s : _root_.Go.ChangeSpec) : _root_.Go.OpenSpec := { _root_.Go.OpenSpec.ofChange s with cond := some uptoSmall }

/-- 'sumpterlaw21.LossPlays', WHERE WHAT IT READS IS OF BULK AT MOST 1048576: true; the input reads as it did. -/
def lossPlaysUptoRow : OpenClaim := { program := "ytamjbmbflllbfaa", sum := "8add0bbfcdb1d642f34dfcccf4dfae41416789f7f5a6512165717a52a7603ef7", func := "sumpter/sumpterlaw21.LossPlays", spec := "lossPlays", inPlace := ["slices.overlaps[sumpter/api.Span]"], unfollowed := true, recurses := true, apart := false, narrowed := true }
def LossPlaysUptoSaid : Prop := lossPlaysUptoRow.holds Try.pinned (OpenSpec.upto lossPlaysSpec)

/-- 'sumpterlaw21.LossForks', WHERE WHAT IT READS IS OF BULK AT MOST 1048576: true; the input reads as it did. -/
def lossForksUptoRow : OpenClaim := { program := "ytamjbmbflllbfaa", sum := "8add0bbfcdb1d642f34dfcccf4dfae41416789f7f5a6512165717a52a7603ef7", func := "sumpter/sumpterlaw21.LossForks", spec := "lossForks", inPlace := ["slices.overlaps[sumpter/api.Span]"], unfollowed := true, recurses := true, apart := false, narrowed := true }
def LossForksUptoSaid : Prop := lossForksUptoRow.holds Try.pinned (OpenSpec.upto lossForksSpec)

/-- 'sumpterlaw21.LossOnce', WHERE WHAT IT READS IS OF BULK AT MOST 1048576: true; the input reads as it did. -/
def lossOnceUptoRow : OpenClaim := { program := "ytamjbmbflllbfaa", sum := "8add0bbfcdb1d642f34dfcccf4dfae41416789f7f5a6512165717a52a7603ef7", func := "sumpter/sumpterlaw21.LossOnce", spec := "lossOnce", inPlace := ["slices.overlaps[sumpter/api.Span]"], unfollowed := true, recurses := true, apart := false, narrowed := true }
def LossOnceUptoSaid : Prop := lossOnceUptoRow.holds Try.pinned (OpenSpec.upto lossOnceSpec)

/-- 'sumpterlaw21.LossThree', WHERE WHAT IT READS IS OF BULK AT MOST 1048576: true; the input reads as it did. -/
def lossThreeUptoRow : OpenClaim := { program := "ytamjbmbflllbfaa", sum := "8add0bbfcdb1d642f34dfcccf4dfae41416789f7f5a6512165717a52a7603ef7", func := "sumpter/sumpterlaw21.LossThree", spec := "lossThree", inPlace := ["slices.overlaps[sumpter/api.Span]"], unfollowed := true, recurses := true, apart := false, narrowed := true }
def LossThreeUptoSaid : Prop := lossThreeUptoRow.holds Try.pinned (OpenSpec.upto lossThreeSpec)

/-- 'sumpterlaw21.LossNext', WHERE WHAT IT READS IS OF BULK AT MOST 1048576: true; the input reads as it did. -/
def lossNextUptoRow : OpenClaim := { program := "ytamjbmbflllbfaa", sum := "8add0bbfcdb1d642f34dfcccf4dfae41416789f7f5a6512165717a52a7603ef7", func := "sumpter/sumpterlaw21.LossNext", spec := "lossNext", inPlace := ["slices.overlaps[sumpter/api.Span]"], unfollowed := true, recurses := true, apart := false, narrowed := true }
def LossNextUptoSaid : Prop := lossNextUptoRow.holds Try.pinned (OpenSpec.upto lossNextSpec)

end Rows
end Go.Proofs.Ytamjbmbflllbfaa
