/-
  NARROWER THAN 'FOR EVERY INPUT', by the rows' own cells (each row's printed sentence says how): DeltaApplies: laid · DeltaFeeds: laid · DeltaBack: laid · DeltaFrom: laid · DeltaMirrors: laid.
  DERIVED. THE GIVEN ROWS OF THIS SEAT. 5 by the template 'for every input the law returns true; each argument reads behind the call as it read before'; 0 by the template 'total and deterministic' (their statements: YtgnampbbkaolmaaDoorTotals.lean).
  GIVEN WITH THE SEED: the statements are not yours to turn. If you find one false, say at which input.
  Laid BY PROGRAM, IN A SANDBOX (cutbox-rows.mjs): the forced cells as the released guide's own fill.sh prints them over the translation a24e2c231704da84… (all of the seat's roots in one cut). By AI agents, Wed Nov 11 2026. No macro, syntax, notation, axiom, sorry.
-/
import Derived.Test.YtgnampbbkaolmaaDoorChecked
import GoSem.Claim
import GoSem.ClaimJoined
import GoSem.ClaimMapViews
import Derived.JoinedTies
import Derived.KernelRfl
namespace Go.Proofs.YtgnampbbkaolmaaDoor
/- THE CELL 'sum', in the pinned program and in every row, IS THE sha256 OF THE DUMP (.gsa) THAT YtgnampbbkaolmaaDoorProg.lean LOADS. Nothing in Lean hashes anything: it is a label: what it is worth is what the hold of that sum in a sandbox is worth. -/
noncomputable def Tryd.pinned : Pinned := { name := "ytgnampbbkaolmaadoor", sum := "a24e2c231704da846cc99bdfc3ecdbe436afe813937487461b5f20e1f88ebea6", checked := Tryd.checked }
namespace Rows
def none {H : Type} : Left H := { results := [], args := [] }

/- WHAT THE LISTED PACKAGE-LEVEL VARIABLES READ AS WHEN THE CALL BEGINS. Each datum BY PROGRAM (the guide's laid-datum.mjs) off the statement by which the dump's own 'gosem.cut.vars' lays the variable. In a bare row this is a premise. The card (YtgnampbbkaolmaaDoorCards.lean) ties it to the program's text. -/
def laid_sumpter_varint_widths {H : Type} : DataW H := .agg [.lit (.int .i64 1), .lit (.int .i64 2), .lit (.int .i64 4), .lit (.int .i64 8)]
def laid_sumpter_sha_first {H : Type} : DataW H := .agg [.lit (.int .u32 1779033703), .lit (.int .u32 3144134277), .lit (.int .u32 1013904242), .lit (.int .u32 2773480762), .lit (.int .u32 1359893119), .lit (.int .u32 2600822924), .lit (.int .u32 528734635), .lit (.int .u32 1541459225)]
def laid_sumpter_sha_rounds {H : Type} : DataW H := .agg [.lit (.int .u32 1116352408), .lit (.int .u32 1899447441), .lit (.int .u32 3049323471), .lit (.int .u32 3921009573), .lit (.int .u32 961987163), .lit (.int .u32 1508970993), .lit (.int .u32 2453635748), .lit (.int .u32 2870763221), .lit (.int .u32 3624381080), .lit (.int .u32 310598401), .lit (.int .u32 607225278), .lit (.int .u32 1426881987), .lit (.int .u32 1925078388), .lit (.int .u32 2162078206), .lit (.int .u32 2614888103), .lit (.int .u32 3248222580), .lit (.int .u32 3835390401), .lit (.int .u32 4022224774), .lit (.int .u32 264347078), .lit (.int .u32 604807628), .lit (.int .u32 770255983), .lit (.int .u32 1249150122), .lit (.int .u32 1555081692), .lit (.int .u32 1996064986), .lit (.int .u32 2554220882), .lit (.int .u32 2821834349), .lit (.int .u32 2952996808), .lit (.int .u32 3210313671), .lit (.int .u32 3336571891), .lit (.int .u32 3584528711), .lit (.int .u32 113926993), .lit (.int .u32 338241895), .lit (.int .u32 666307205), .lit (.int .u32 773529912), .lit (.int .u32 1294757372), .lit (.int .u32 1396182291), .lit (.int .u32 1695183700), .lit (.int .u32 1986661051), .lit (.int .u32 2177026350), .lit (.int .u32 2456956037), .lit (.int .u32 2730485921), .lit (.int .u32 2820302411), .lit (.int .u32 3259730800), .lit (.int .u32 3345764771), .lit (.int .u32 3516065817), .lit (.int .u32 3600352804), .lit (.int .u32 4094571909), .lit (.int .u32 275423344), .lit (.int .u32 430227734), .lit (.int .u32 506948616), .lit (.int .u32 659060556), .lit (.int .u32 883997877), .lit (.int .u32 958139571), .lit (.int .u32 1322822218), .lit (.int .u32 1537002063), .lit (.int .u32 1747873779), .lit (.int .u32 1955562222), .lit (.int .u32 2024104815), .lit (.int .u32 2227730452), .lit (.int .u32 2361852424), .lit (.int .u32 2428436474), .lit (.int .u32 2756734187), .lit (.int .u32 3204031479), .lit (.int .u32 3329325298)]

/-- 'sumpterlaw13.DeltaApplies': WHATEVER THE INPUT: true; the input reads as it did. -/
def deltaAppliesSpec : ChangeSpec := { name := "deltaApplies", fn := fun _ => fun
  | [d1, d2] => { results := [.lit (.bool true)], args := [d1, d2] }
  | _ => none }
def deltaAppliesRow : OpenClaim := { program := "ytgnampbbkaolmaadoor", sum := "a24e2c231704da846cc99bdfc3ecdbe436afe813937487461b5f20e1f88ebea6", func := "sumpter/sumpterlaw13.DeltaApplies", spec := "deltaApplies", unfollowed := true, recurses := true, named := ["sumpter/varint.widths"], plainKeys := false, apart := false, laid := [("sumpter/varint.widths", laid_sumpter_varint_widths)] }
def DeltaAppliesSaid : Prop := deltaAppliesRow.holds Tryd.pinned (OpenSpec.ofChange deltaAppliesSpec)

/-- ITS FALSE NEIGHBOUR: 'it returns false'. Refute it at one input. -/
def deltaAppliesWrong : ChangeSpec := { name := "deltaApplies", fn := fun _ => fun
  | [d1, d2] => { results := [.lit (.bool false)], args := [d1, d2] }
  | _ => none }
def DeltaAppliesWrongFalsely : Prop := deltaAppliesRow.holds Tryd.pinned (OpenSpec.ofChange deltaAppliesWrong)

/-- 'sumpterlaw13.DeltaFeeds': WHATEVER THE INPUT: true; the input reads as it did. -/
def deltaFeedsSpec : ChangeSpec := { name := "deltaFeeds", fn := fun _ => fun
  | [d1, d2] => { results := [.lit (.bool true)], args := [d1, d2] }
  | _ => none }
def deltaFeedsRow : OpenClaim := { program := "ytgnampbbkaolmaadoor", sum := "a24e2c231704da846cc99bdfc3ecdbe436afe813937487461b5f20e1f88ebea6", func := "sumpter/sumpterlaw13.DeltaFeeds", spec := "deltaFeeds", unfollowed := true, recurses := true, named := ["sumpter/varint.widths"], plainKeys := false, apart := false, laid := [("sumpter/varint.widths", laid_sumpter_varint_widths)] }
def DeltaFeedsSaid : Prop := deltaFeedsRow.holds Tryd.pinned (OpenSpec.ofChange deltaFeedsSpec)

/-- ITS FALSE NEIGHBOUR: 'it returns false'. Refute it at one input. -/
def deltaFeedsWrong : ChangeSpec := { name := "deltaFeeds", fn := fun _ => fun
  | [d1, d2] => { results := [.lit (.bool false)], args := [d1, d2] }
  | _ => none }
def DeltaFeedsWrongFalsely : Prop := deltaFeedsRow.holds Tryd.pinned (OpenSpec.ofChange deltaFeedsWrong)

/-- 'sumpterlaw13.DeltaBack': WHATEVER THE INPUT: true; the input reads as it did. -/
def deltaBackSpec : ChangeSpec := { name := "deltaBack", fn := fun _ => fun
  | [d1, d2, d3] => { results := [.lit (.bool true)], args := [d1, d2, d3] }
  | _ => none }
def deltaBackRow : OpenClaim := { program := "ytgnampbbkaolmaadoor", sum := "a24e2c231704da846cc99bdfc3ecdbe436afe813937487461b5f20e1f88ebea6", func := "sumpter/sumpterlaw13.DeltaBack", spec := "deltaBack", unfollowed := true, recurses := true, named := ["sumpter/varint.widths"], plainKeys := false, apart := false, laid := [("sumpter/varint.widths", laid_sumpter_varint_widths)] }
def DeltaBackSaid : Prop := deltaBackRow.holds Tryd.pinned (OpenSpec.ofChange deltaBackSpec)

/-- ITS FALSE NEIGHBOUR: 'it returns false'. Refute it at one input. -/
def deltaBackWrong : ChangeSpec := { name := "deltaBack", fn := fun _ => fun
  | [d1, d2, d3] => { results := [.lit (.bool false)], args := [d1, d2, d3] }
  | _ => none }
def DeltaBackWrongFalsely : Prop := deltaBackRow.holds Tryd.pinned (OpenSpec.ofChange deltaBackWrong)

/-- 'sumpterlaw13.DeltaFrom': WHATEVER THE INPUT: true; the input reads as it did. -/
def deltaFromSpec : ChangeSpec := { name := "deltaFrom", fn := fun _ => fun
  | [d1, d2, d3] => { results := [.lit (.bool true)], args := [d1, d2, d3] }
  | _ => none }
def deltaFromRow : OpenClaim := { program := "ytgnampbbkaolmaadoor", sum := "a24e2c231704da846cc99bdfc3ecdbe436afe813937487461b5f20e1f88ebea6", func := "sumpter/sumpterlaw13.DeltaFrom", spec := "deltaFrom", unfollowed := true, recurses := true, named := ["sumpter/varint.widths"], plainKeys := false, apart := false, laid := [("sumpter/varint.widths", laid_sumpter_varint_widths)] }
def DeltaFromSaid : Prop := deltaFromRow.holds Tryd.pinned (OpenSpec.ofChange deltaFromSpec)

/-- ITS FALSE NEIGHBOUR: 'it returns false'. Refute it at one input. -/
def deltaFromWrong : ChangeSpec := { name := "deltaFrom", fn := fun _ => fun
  | [d1, d2, d3] => { results := [.lit (.bool false)], args := [d1, d2, d3] }
  | _ => none }
def DeltaFromWrongFalsely : Prop := deltaFromRow.holds Tryd.pinned (OpenSpec.ofChange deltaFromWrong)

/-- 'sumpterlaw13.DeltaMirrors': WHATEVER THE INPUT: true; the input reads as it did. -/
def deltaMirrorsSpec : ChangeSpec := { name := "deltaMirrors", fn := fun _ => fun
  | [d1, d2, d3] => { results := [.lit (.bool true)], args := [d1, d2, d3] }
  | _ => none }
def deltaMirrorsRow : OpenClaim := { program := "ytgnampbbkaolmaadoor", sum := "a24e2c231704da846cc99bdfc3ecdbe436afe813937487461b5f20e1f88ebea6", func := "sumpter/sumpterlaw13.DeltaMirrors", spec := "deltaMirrors", unfollowed := true, recurses := true, named := ["sumpter/varint.widths", "sumpter/sha.first", "sumpter/sha.rounds"], plainKeys := false, apart := false, laid := [("sumpter/varint.widths", laid_sumpter_varint_widths), ("sumpter/sha.first", laid_sumpter_sha_first), ("sumpter/sha.rounds", laid_sumpter_sha_rounds)] }
def DeltaMirrorsSaid : Prop := deltaMirrorsRow.holds Tryd.pinned (OpenSpec.ofChange deltaMirrorsSpec)

/-- ITS FALSE NEIGHBOUR: 'it returns false'. Refute it at one input. -/
def deltaMirrorsWrong : ChangeSpec := { name := "deltaMirrors", fn := fun _ => fun
  | [d1, d2, d3] => { results := [.lit (.bool false)], args := [d1, d2, d3] }
  | _ => none }
def DeltaMirrorsWrongFalsely : Prop := deltaMirrorsRow.holds Tryd.pinned (OpenSpec.ofChange deltaMirrorsWrong)

/- THE SECOND FORM. 'bulk': how many values and letters a reading holds, each counted each time it is reached (what is shared counts as often as it is met; a slice's spare places count too). A statement '..UptoSaid' is the law's where the arguments, and the package variables that the reading takes, are together of bulk at most 1048576: NARROWER than '..Said'. Prove '..Said' where nothing that the law and all that it calls make is longer than what came in: it says more and counts as full. Else prove '..UptoSaid'. A law counts once. -/
mutual
def uptoBulk {H : Type} : DataW H → Nat
  | .lit (.string bytes) => bytes.length + 1
  | .lit _ => 1
  | .nil => 1
  | .ptr d => uptoBulk d + 1
  | .slice elems spare => uptoBulkAll elems + uptoBulkAll spare + 1
  | .agg parts => uptoBulkAll parts + 1
  | .iface _ d => uptoBulk d + 1
  | .map entries => uptoBulkEntries entries + 1
  | .held _ => 1
def uptoBulkAll {H : Type} : List (DataW H) → Nat
  | [] => 0
  | d :: r => uptoBulk d + uptoBulkAll r
def uptoBulkEntries {H : Type} : List (Lit × DataW H) → Nat
  | [] => 0
  | x :: r => uptoBulkEntry x + uptoBulkEntries r
def uptoBulkEntry {H : Type} : Lit × DataW H → Nat
  | (.string bytes, d) => bytes.length + uptoBulk d + 1
  | (_, d) => uptoBulk d + 1
 end
def uptoSmall : (H : Type) → List (DataW H) → Bool := fun _ ds => decide (uptoBulkAll ds ≤ 1048576)
def OpenSpec.upto (s : _root_.Go.ChangeSpec) : _root_.Go.OpenSpec := { _root_.Go.OpenSpec.ofChange s with cond := some uptoSmall }

/-- 'sumpterlaw13.DeltaApplies', WHERE WHAT IT READS IS OF BULK AT MOST 1048576: true; the input reads as it did. -/
def deltaAppliesUptoRow : OpenClaim := { program := "ytgnampbbkaolmaadoor", sum := "a24e2c231704da846cc99bdfc3ecdbe436afe813937487461b5f20e1f88ebea6", func := "sumpter/sumpterlaw13.DeltaApplies", spec := "deltaApplies", unfollowed := true, recurses := true, named := ["sumpter/varint.widths"], plainKeys := false, apart := false, laid := [("sumpter/varint.widths", laid_sumpter_varint_widths)], narrowed := true }
def DeltaAppliesUptoSaid : Prop := deltaAppliesUptoRow.holds Tryd.pinned (OpenSpec.upto deltaAppliesSpec)

/-- 'sumpterlaw13.DeltaFeeds', WHERE WHAT IT READS IS OF BULK AT MOST 1048576: true; the input reads as it did. -/
def deltaFeedsUptoRow : OpenClaim := { program := "ytgnampbbkaolmaadoor", sum := "a24e2c231704da846cc99bdfc3ecdbe436afe813937487461b5f20e1f88ebea6", func := "sumpter/sumpterlaw13.DeltaFeeds", spec := "deltaFeeds", unfollowed := true, recurses := true, named := ["sumpter/varint.widths"], plainKeys := false, apart := false, laid := [("sumpter/varint.widths", laid_sumpter_varint_widths)], narrowed := true }
def DeltaFeedsUptoSaid : Prop := deltaFeedsUptoRow.holds Tryd.pinned (OpenSpec.upto deltaFeedsSpec)

/-- 'sumpterlaw13.DeltaBack', WHERE WHAT IT READS IS OF BULK AT MOST 1048576: true; the input reads as it did. -/
def deltaBackUptoRow : OpenClaim := { program := "ytgnampbbkaolmaadoor", sum := "a24e2c231704da846cc99bdfc3ecdbe436afe813937487461b5f20e1f88ebea6", func := "sumpter/sumpterlaw13.DeltaBack", spec := "deltaBack", unfollowed := true, recurses := true, named := ["sumpter/varint.widths"], plainKeys := false, apart := false, laid := [("sumpter/varint.widths", laid_sumpter_varint_widths)], narrowed := true }
def DeltaBackUptoSaid : Prop := deltaBackUptoRow.holds Tryd.pinned (OpenSpec.upto deltaBackSpec)

/-- 'sumpterlaw13.DeltaFrom', WHERE WHAT IT READS IS OF BULK AT MOST 1048576: true; the input reads as it did. -/
def deltaFromUptoRow : OpenClaim := { program := "ytgnampbbkaolmaadoor", sum := "a24e2c231704da846cc99bdfc3ecdbe436afe813937487461b5f20e1f88ebea6", func := "sumpter/sumpterlaw13.DeltaFrom", spec := "deltaFrom", unfollowed := true, recurses := true, named := ["sumpter/varint.widths"], plainKeys := false, apart := false, laid := [("sumpter/varint.widths", laid_sumpter_varint_widths)], narrowed := true }
def DeltaFromUptoSaid : Prop := deltaFromUptoRow.holds Tryd.pinned (OpenSpec.upto deltaFromSpec)

/-- 'sumpterlaw13.DeltaMirrors', WHERE WHAT IT READS IS OF BULK AT MOST 1048576: true; the input reads as it did. -/
def deltaMirrorsUptoRow : OpenClaim := { program := "ytgnampbbkaolmaadoor", sum := "a24e2c231704da846cc99bdfc3ecdbe436afe813937487461b5f20e1f88ebea6", func := "sumpter/sumpterlaw13.DeltaMirrors", spec := "deltaMirrors", unfollowed := true, recurses := true, named := ["sumpter/varint.widths", "sumpter/sha.first", "sumpter/sha.rounds"], plainKeys := false, apart := false, laid := [("sumpter/varint.widths", laid_sumpter_varint_widths), ("sumpter/sha.first", laid_sumpter_sha_first), ("sumpter/sha.rounds", laid_sumpter_sha_rounds)], narrowed := true }
def DeltaMirrorsUptoSaid : Prop := deltaMirrorsUptoRow.holds Tryd.pinned (OpenSpec.upto deltaMirrorsSpec)

end Rows
end Go.Proofs.YtgnampbbkaolmaaDoor
