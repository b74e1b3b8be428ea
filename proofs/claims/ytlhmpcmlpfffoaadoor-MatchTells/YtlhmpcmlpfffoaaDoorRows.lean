/-
  NARROWER THAN 'FOR EVERY INPUT', by the rows' own cells (each row's printed sentence says how): MatchSearches: laid · MatchSums: laid · MatchCounts: laid · MatchTells: laid · MatchSelf: laid · MatchMoved: laid.
  DERIVED. THE GIVEN ROWS OF THIS SEAT. 6 by the template 'for every input the law returns true; each argument reads behind the call as it read before'; 0 by the template 'total and deterministic' (their statements: YtlhmpcmlpfffoaaDoorTotals.lean).
  GIVEN WITH THE SEED: the statements are not yours to turn. If you find one false, say at which input.
  Laid BY PROGRAM, IN A SANDBOX (cutbox-rows.mjs): the forced cells as the released guide's own fill.sh prints them over the translation 09b68c5dcc6b56de… (all of the seat's roots in one cut). By AI agents, Wed Nov 11 2026. No macro, syntax, notation, axiom, sorry.
-/
import Derived.Test.YtlhmpcmlpfffoaaDoorChecked
import GoSem.Claim
import GoSem.ClaimJoined
import GoSem.ClaimMapViews
import Derived.JoinedTies
import Derived.KernelRfl
namespace Go.Proofs.YtlhmpcmlpfffoaaDoor
/- THE CELL 'sum', in the pinned program and in every row, IS THE sha256 OF THE DUMP (.gsa) THAT YtlhmpcmlpfffoaaDoorProg.lean LOADS. Nothing in Lean hashes anything: it is a label: what it is worth is what the hold of that sum in a sandbox is worth. -/
noncomputable def Tryd.pinned : Pinned := { name := "ytlhmpcmlpfffoaadoor", sum := "09b68c5dcc6b56de8aad1fd38044f851621893a1519685541e8d3b2eb1afb3e8", checked := Tryd.checked }
namespace Rows
def none {H : Type} : Left H := { results := [], args := [] }

/- WHAT THE LISTED PACKAGE-LEVEL VARIABLES READ AS WHEN THE CALL BEGINS. Each datum BY PROGRAM (the guide's laid-datum.mjs) off the statement by which the dump's own 'gosem.cut.vars' lays the variable. In a bare row this is a premise. The card (YtlhmpcmlpfffoaaDoorCards.lean) ties it to the program's text. -/
def laid_sumpter_sha_first {H : Type} : DataW H := .agg [.lit (.int .u32 1779033703), .lit (.int .u32 3144134277), .lit (.int .u32 1013904242), .lit (.int .u32 2773480762), .lit (.int .u32 1359893119), .lit (.int .u32 2600822924), .lit (.int .u32 528734635), .lit (.int .u32 1541459225)]
def laid_sumpter_sha_rounds {H : Type} : DataW H := .agg [.lit (.int .u32 1116352408), .lit (.int .u32 1899447441), .lit (.int .u32 3049323471), .lit (.int .u32 3921009573), .lit (.int .u32 961987163), .lit (.int .u32 1508970993), .lit (.int .u32 2453635748), .lit (.int .u32 2870763221), .lit (.int .u32 3624381080), .lit (.int .u32 310598401), .lit (.int .u32 607225278), .lit (.int .u32 1426881987), .lit (.int .u32 1925078388), .lit (.int .u32 2162078206), .lit (.int .u32 2614888103), .lit (.int .u32 3248222580), .lit (.int .u32 3835390401), .lit (.int .u32 4022224774), .lit (.int .u32 264347078), .lit (.int .u32 604807628), .lit (.int .u32 770255983), .lit (.int .u32 1249150122), .lit (.int .u32 1555081692), .lit (.int .u32 1996064986), .lit (.int .u32 2554220882), .lit (.int .u32 2821834349), .lit (.int .u32 2952996808), .lit (.int .u32 3210313671), .lit (.int .u32 3336571891), .lit (.int .u32 3584528711), .lit (.int .u32 113926993), .lit (.int .u32 338241895), .lit (.int .u32 666307205), .lit (.int .u32 773529912), .lit (.int .u32 1294757372), .lit (.int .u32 1396182291), .lit (.int .u32 1695183700), .lit (.int .u32 1986661051), .lit (.int .u32 2177026350), .lit (.int .u32 2456956037), .lit (.int .u32 2730485921), .lit (.int .u32 2820302411), .lit (.int .u32 3259730800), .lit (.int .u32 3345764771), .lit (.int .u32 3516065817), .lit (.int .u32 3600352804), .lit (.int .u32 4094571909), .lit (.int .u32 275423344), .lit (.int .u32 430227734), .lit (.int .u32 506948616), .lit (.int .u32 659060556), .lit (.int .u32 883997877), .lit (.int .u32 958139571), .lit (.int .u32 1322822218), .lit (.int .u32 1537002063), .lit (.int .u32 1747873779), .lit (.int .u32 1955562222), .lit (.int .u32 2024104815), .lit (.int .u32 2227730452), .lit (.int .u32 2361852424), .lit (.int .u32 2428436474), .lit (.int .u32 2756734187), .lit (.int .u32 3204031479), .lit (.int .u32 3329325298)]

/-- 'sumpterlaw12.MatchSearches': WHATEVER THE INPUT: true; the input reads as it did. -/
def matchSearchesSpec : ChangeSpec := { name := "matchSearches", fn := fun _ => fun
  | [d1, d2, d3] => { results := [.lit (.bool true)], args := [d1, d2, d3] }
  | _ => none }
def matchSearchesRow : OpenClaim := { program := "ytlhmpcmlpfffoaadoor", sum := "09b68c5dcc6b56de8aad1fd38044f851621893a1519685541e8d3b2eb1afb3e8", func := "sumpter/sumpterlaw12.MatchSearches", spec := "matchSearches", unfollowed := true, recurses := true, named := ["sumpter/sha.first", "sumpter/sha.rounds"], plainKeys := false, apart := false, laid := [("sumpter/sha.first", laid_sumpter_sha_first), ("sumpter/sha.rounds", laid_sumpter_sha_rounds)] }
def MatchSearchesSaid : Prop := matchSearchesRow.holds Tryd.pinned (OpenSpec.ofChange matchSearchesSpec)

/-- ITS FALSE NEIGHBOUR: 'it returns false'. Refute it at one input. -/
def matchSearchesWrong : ChangeSpec := { name := "matchSearches", fn := fun _ => fun
  | [d1, d2, d3] => { results := [.lit (.bool false)], args := [d1, d2, d3] }
  | _ => none }
def MatchSearchesWrongFalsely : Prop := matchSearchesRow.holds Tryd.pinned (OpenSpec.ofChange matchSearchesWrong)

/-- 'sumpterlaw12.MatchSums': WHATEVER THE INPUT: true; the input reads as it did. -/
def matchSumsSpec : ChangeSpec := { name := "matchSums", fn := fun _ => fun
  | [d1, d2, d3] => { results := [.lit (.bool true)], args := [d1, d2, d3] }
  | _ => none }
def matchSumsRow : OpenClaim := { program := "ytlhmpcmlpfffoaadoor", sum := "09b68c5dcc6b56de8aad1fd38044f851621893a1519685541e8d3b2eb1afb3e8", func := "sumpter/sumpterlaw12.MatchSums", spec := "matchSums", unfollowed := true, recurses := true, named := ["sumpter/sha.first", "sumpter/sha.rounds"], plainKeys := false, apart := false, laid := [("sumpter/sha.first", laid_sumpter_sha_first), ("sumpter/sha.rounds", laid_sumpter_sha_rounds)] }
def MatchSumsSaid : Prop := matchSumsRow.holds Tryd.pinned (OpenSpec.ofChange matchSumsSpec)

/-- ITS FALSE NEIGHBOUR: 'it returns false'. Refute it at one input. -/
def matchSumsWrong : ChangeSpec := { name := "matchSums", fn := fun _ => fun
  | [d1, d2, d3] => { results := [.lit (.bool false)], args := [d1, d2, d3] }
  | _ => none }
def MatchSumsWrongFalsely : Prop := matchSumsRow.holds Tryd.pinned (OpenSpec.ofChange matchSumsWrong)

/-- 'sumpterlaw12.MatchCounts': WHATEVER THE INPUT: true; the input reads as it did. -/
def matchCountsSpec : ChangeSpec := { name := "matchCounts", fn := fun _ => fun
  | [d1, d2, d3] => { results := [.lit (.bool true)], args := [d1, d2, d3] }
  | _ => none }
def matchCountsRow : OpenClaim := { program := "ytlhmpcmlpfffoaadoor", sum := "09b68c5dcc6b56de8aad1fd38044f851621893a1519685541e8d3b2eb1afb3e8", func := "sumpter/sumpterlaw12.MatchCounts", spec := "matchCounts", unfollowed := true, recurses := true, named := ["sumpter/sha.first", "sumpter/sha.rounds"], plainKeys := false, apart := false, laid := [("sumpter/sha.first", laid_sumpter_sha_first), ("sumpter/sha.rounds", laid_sumpter_sha_rounds)] }
def MatchCountsSaid : Prop := matchCountsRow.holds Tryd.pinned (OpenSpec.ofChange matchCountsSpec)

/-- ITS FALSE NEIGHBOUR: 'it returns false'. Refute it at one input. -/
def matchCountsWrong : ChangeSpec := { name := "matchCounts", fn := fun _ => fun
  | [d1, d2, d3] => { results := [.lit (.bool false)], args := [d1, d2, d3] }
  | _ => none }
def MatchCountsWrongFalsely : Prop := matchCountsRow.holds Tryd.pinned (OpenSpec.ofChange matchCountsWrong)

/-- 'sumpterlaw12.MatchTells': WHATEVER THE INPUT: true; the input reads as it did. -/
def matchTellsSpec : ChangeSpec := { name := "matchTells", fn := fun _ => fun
  | [d1, d2, d3] => { results := [.lit (.bool true)], args := [d1, d2, d3] }
  | _ => none }
def matchTellsRow : OpenClaim := { program := "ytlhmpcmlpfffoaadoor", sum := "09b68c5dcc6b56de8aad1fd38044f851621893a1519685541e8d3b2eb1afb3e8", func := "sumpter/sumpterlaw12.MatchTells", spec := "matchTells", unfollowed := true, recurses := true, named := ["sumpter/sha.first", "sumpter/sha.rounds"], plainKeys := false, apart := false, laid := [("sumpter/sha.first", laid_sumpter_sha_first), ("sumpter/sha.rounds", laid_sumpter_sha_rounds)] }
def MatchTellsSaid : Prop := matchTellsRow.holds Tryd.pinned (OpenSpec.ofChange matchTellsSpec)

/-- ITS FALSE NEIGHBOUR: 'it returns false'. Refute it at one input. -/
def matchTellsWrong : ChangeSpec := { name := "matchTells", fn := fun _ => fun
  | [d1, d2, d3] => { results := [.lit (.bool false)], args := [d1, d2, d3] }
  | _ => none }
def MatchTellsWrongFalsely : Prop := matchTellsRow.holds Tryd.pinned (OpenSpec.ofChange matchTellsWrong)

/-- 'sumpterlaw12.MatchSelf': WHATEVER THE INPUT: true; the input reads as it did. -/
def matchSelfSpec : ChangeSpec := { name := "matchSelf", fn := fun _ => fun
  | [d1, d2] => { results := [.lit (.bool true)], args := [d1, d2] }
  | _ => none }
def matchSelfRow : OpenClaim := { program := "ytlhmpcmlpfffoaadoor", sum := "09b68c5dcc6b56de8aad1fd38044f851621893a1519685541e8d3b2eb1afb3e8", func := "sumpter/sumpterlaw12.MatchSelf", spec := "matchSelf", unfollowed := true, recurses := true, named := ["sumpter/sha.first", "sumpter/sha.rounds"], plainKeys := false, apart := false, laid := [("sumpter/sha.first", laid_sumpter_sha_first), ("sumpter/sha.rounds", laid_sumpter_sha_rounds)] }
def MatchSelfSaid : Prop := matchSelfRow.holds Tryd.pinned (OpenSpec.ofChange matchSelfSpec)

/-- ITS FALSE NEIGHBOUR: 'it returns false'. Refute it at one input. -/
def matchSelfWrong : ChangeSpec := { name := "matchSelf", fn := fun _ => fun
  | [d1, d2] => { results := [.lit (.bool false)], args := [d1, d2] }
  | _ => none }
def MatchSelfWrongFalsely : Prop := matchSelfRow.holds Tryd.pinned (OpenSpec.ofChange matchSelfWrong)

/-- 'sumpterlaw12.MatchMoved': WHATEVER THE INPUT: true; the input reads as it did. -/
def matchMovedSpec : ChangeSpec := { name := "matchMoved", fn := fun _ => fun
  | [d1, d2, d3] => { results := [.lit (.bool true)], args := [d1, d2, d3] }
  | _ => none }
def matchMovedRow : OpenClaim := { program := "ytlhmpcmlpfffoaadoor", sum := "09b68c5dcc6b56de8aad1fd38044f851621893a1519685541e8d3b2eb1afb3e8", func := "sumpter/sumpterlaw12.MatchMoved", spec := "matchMoved", unfollowed := true, recurses := true, named := ["sumpter/sha.first", "sumpter/sha.rounds"], plainKeys := false, apart := false, laid := [("sumpter/sha.first", laid_sumpter_sha_first), ("sumpter/sha.rounds", laid_sumpter_sha_rounds)] }
def MatchMovedSaid : Prop := matchMovedRow.holds Tryd.pinned (OpenSpec.ofChange matchMovedSpec)

/-- ITS FALSE NEIGHBOUR: 'it returns false'. Refute it at one input. -/
def matchMovedWrong : ChangeSpec := { name := "matchMoved", fn := fun _ => fun
  | [d1, d2, d3] => { results := [.lit (.bool false)], args := [d1, d2, d3] }
  | _ => none }
def MatchMovedWrongFalsely : Prop := matchMovedRow.holds Tryd.pinned (OpenSpec.ofChange matchMovedWrong)

/- THE SECOND FORM. 'bulk': how many values and letters a reading holds, each counted each time it is reached (what is shared counts as often as it is met; a slice's spare places count too). A statement '..UptoSaid' is the law's where the arguments, and the package variables that the reading takes, are together of bulk at most 1048576: NARROWER than '..Said'. Prove '..Said' where nothing that the law and all that it calls make is longer than what came in: it says more and counts as full. Else prove '..UptoSaid'. A law counts once. -/
mutual
def uptoBulk {H : Type} : DataW H → Nat
  | .lit (.string bytes) => bytes.length + 1
  | .lit _ => 1
  | .nil => 1
  | .ptr d => uptoBulk d + 1
  | .slice elems spare => uptoBulkAll elems + uptoBulkAll spare + 1
  | .agg parts => uptoBulkAll parts + 1
  | .iface _ d => uptoBulk d + 1
  | .map entries => uptoBulkEntries entries + 1
  | .held _ => 1
def uptoBulkAll {H : Type} : List (DataW H) → Nat
  | [] => 0
  | d :: r => uptoBulk d + uptoBulkAll r
def uptoBulkEntries {H : Type} : List (Lit × DataW H) → Nat
  | [] => 0
  | x :: r => uptoBulkEntry x + uptoBulkEntries r
def uptoBulkEntry {H : Type} : Lit × DataW H → Nat
  | (.string bytes, d) => bytes.length + uptoBulk d + 1
  | (_, d) => uptoBulk d + 1
 end
def uptoSmall : (H : Type) → List (DataW H) → Bool := fun _ ds => decide (uptoBulkAll ds ≤ 1048576)
def OpenSpec.upto (s : _root_.Go.ChangeSpec) : _root_.Go.OpenSpec := { _root_.Go.OpenSpec.ofChange s with cond := some uptoSmall }

/-- 'sumpterlaw12.MatchSearches', WHERE WHAT IT READS IS OF BULK AT MOST 1048576: true; the input reads as it did. -/
def matchSearchesUptoRow : OpenClaim := { program := "ytlhmpcmlpfffoaadoor", sum := "09b68c5dcc6b56de8aad1fd38044f851621893a1519685541e8d3b2eb1afb3e8", func := "sumpter/sumpterlaw12.MatchSearches", spec := "matchSearches", unfollowed := true, recurses := true, named := ["sumpter/sha.first", "sumpter/sha.rounds"], plainKeys := false, apart := false, laid := [("sumpter/sha.first", laid_sumpter_sha_first), ("sumpter/sha.rounds", laid_sumpter_sha_rounds)], narrowed := true }
def MatchSearchesUptoSaid : Prop := matchSearchesUptoRow.holds Tryd.pinned (OpenSpec.upto matchSearchesSpec)

/-- 'sumpterlaw12.MatchSums', WHERE WHAT IT READS IS OF BULK AT MOST 1048576: true; the input reads as it did. -/
def matchSumsUptoRow : OpenClaim := { program := "ytlhmpcmlpfffoaadoor", sum := "09b68c5dcc6b56de8aad1fd38044f851621893a1519685541e8d3b2eb1afb3e8", func := "sumpter/sumpterlaw12.MatchSums", spec := "matchSums", unfollowed := true, recurses := true, named := ["sumpter/sha.first", "sumpter/sha.rounds"], plainKeys := false, apart := false, laid := [("sumpter/sha.first", laid_sumpter_sha_first), ("sumpter/sha.rounds", laid_sumpter_sha_rounds)], narrowed := true }
def MatchSumsUptoSaid : Prop := matchSumsUptoRow.holds Tryd.pinned (OpenSpec.upto matchSumsSpec)

/-- 'sumpterlaw12.MatchCounts', WHERE WHAT IT READS IS OF BULK AT MOST 1048576: true; the input reads as it did. -/
def matchCountsUptoRow : OpenClaim := { program := "ytlhmpcmlpfffoaadoor", sum := "09b68c5dcc6b56de8aad1fd38044f851621893a1519685541e8d3b2eb1afb3e8", func := "sumpter/sumpterlaw12.MatchCounts", spec := "matchCounts", unfollowed := true, recurses := true, named := ["sumpter/sha.first", "sumpter/sha.rounds"], plainKeys := false, apart := false, laid := [("sumpter/sha.first", laid_sumpter_sha_first), ("sumpter/sha.rounds", laid_sumpter_sha_rounds)], narrowed := true }
def MatchCountsUptoSaid : Prop := matchCountsUptoRow.holds Tryd.pinned (OpenSpec.upto matchCountsSpec)

/-- 'sumpterlaw12.MatchTells', WHERE WHAT IT READS IS OF BULK AT MOST 1048576: true; the input reads as it did. -/
def matchTellsUptoRow : OpenClaim := { program := "ytlhmpcmlpfffoaadoor", sum := "09b68c5dcc6b56de8aad1fd38044f851621893a1519685541e8d3b2eb1afb3e8", func := "sumpter/sumpterlaw12.MatchTells", spec := "matchTells", unfollowed := true, recurses := true, named := ["sumpter/sha.first", "sumpter/sha.rounds"], plainKeys := false, apart := false, laid := [("sumpter/sha.first", laid_sumpter_sha_first), ("sumpter/sha.rounds", laid_sumpter_sha_rounds)], narrowed := true }
def MatchTellsUptoSaid : Prop := matchTellsUptoRow.holds Tryd.pinned (OpenSpec.upto matchTellsSpec)

/-- 'sumpterlaw12.MatchSelf', WHERE WHAT IT READS IS OF BULK AT MOST 1048576: true; the input reads as it did. -/
def matchSelfUptoRow : OpenClaim := { program := "ytlhmpcmlpfffoaadoor", sum := "09b68c5dcc6b56de8aad1fd38044f851621893a1519685541e8d3b2eb1afb3e8", func := "sumpter/sumpterlaw12.MatchSelf", spec := "matchSelf", unfollowed := true, recurses := true, named := ["sumpter/sha.first", "sumpter/sha.rounds"], plainKeys := false, apart := false, laid := [("sumpter/sha.first", laid_sumpter_sha_first), ("sumpter/sha.rounds", laid_sumpter_sha_rounds)], narrowed := true }
def MatchSelfUptoSaid : Prop := matchSelfUptoRow.holds Tryd.pinned (OpenSpec.upto matchSelfSpec)

/-- 'sumpterlaw12.MatchMoved', WHERE WHAT IT READS IS OF BULK AT MOST 1048576: true; the input reads as it did. -/
def matchMovedUptoRow : OpenClaim := { program := "ytlhmpcmlpfffoaadoor", sum := "09b68c5dcc6b56de8aad1fd38044f851621893a1519685541e8d3b2eb1afb3e8", func := "sumpter/sumpterlaw12.MatchMoved", spec := "matchMoved", unfollowed := true, recurses := true, named := ["sumpter/sha.first", "sumpter/sha.rounds"], plainKeys := false, apart := false, laid := [("sumpter/sha.first", laid_sumpter_sha_first), ("sumpter/sha.rounds", laid_sumpter_sha_rounds)], narrowed := true }
def MatchMovedUptoSaid : Prop := matchMovedUptoRow.holds Tryd.pinned (OpenSpec.upto matchMovedSpec)

end Rows
end Go.Proofs.YtlhmpcmlpfffoaaDoor
