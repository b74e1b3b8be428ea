/-
  NARROWER THAN 'FOR EVERY INPUT', by the rows' own cells (each row's printed sentence says how): FramePuts: laid · PacketSeals: laid · PacketKeys: laid · PacketBack: laid · PacketRoom: laid.
  DERIVED. THE GIVEN ROWS OF THIS SEAT. 5 by the template 'for every input the law returns true; each argument reads behind the call as it read before'; 0 by the template 'total and deterministic' (their statements: YtiollhmbdhepkaaGreatDoorTotals.lean).
  GIVEN WITH THE SEED: the statements are not yours to turn. If you find one false, say at which input.
  Laid BY PROGRAM, IN A SANDBOX (cutbox-rows.mjs): the forced cells as the released guide's own fill.sh prints them over the translation cbb864e5df39d1fe… (all of the seat's roots in one cut). By AI agents, Wed Nov 11 2026. No macro, syntax, notation, axiom, sorry.
-/
import Derived.Test.YtiollhmbdhepkaaGreatDoorChecked
import GoSem.Claim
import GoSem.ClaimJoined
import GoSem.ClaimMapViews
import Derived.JoinedTies
import Derived.KernelRfl
namespace Go.Proofs.YtiollhmbdhepkaaGreatDoor
/- THE CELL 'sum', in the pinned program and in every row, IS THE sha256 OF THE DUMP (.gsa) THAT YtiollhmbdhepkaaGreatDoorProg.lean LOADS. Nothing in Lean hashes anything: it is a label: what it is worth is what the hold of that sum in a sandbox is worth. -/
noncomputable def Tryz.pinned : Pinned := { name := "ytiollhmbdhepkaagreatdoor", sum := "cbb864e5df39d1fe5e79667d3483a3f1470f71ad0979d2f75c6ba9578ec7d4f4", checked := Tryz.checked }
namespace Rows
def none {H : Type} : Left H := { results := [], args := [] }

/- WHAT THE LISTED PACKAGE-LEVEL VARIABLES READ AS WHEN THE CALL BEGINS. Each datum BY PROGRAM (the guide's laid-datum.mjs) off the statement by which the dump's own 'gosem.cut.vars' lays the variable. In a bare row this is a premise. The card (YtiollhmbdhepkaaGreatDoorCards.lean) ties it to the program's text. -/
def laid_sumpter_varint_widths {H : Type} : DataW H := .agg [.lit (.int .i64 1), .lit (.int .i64 2), .lit (.int .i64 4), .lit (.int .i64 8)]
def laid_sumpter_frame_shapes {H : Type} : DataW H := .agg [.agg [.lit (.int .i64 0), .lit (.int .i64 0)], .agg [.lit (.int .i64 0), .lit (.int .i64 0)], .agg [.lit (.int .i64 66), .lit (.int .i64 0)], .agg [.lit (.int .i64 39), .lit (.int .i64 1100)], .agg [.lit (.int .i64 11), .lit (.int .i64 0)], .agg [.lit (.int .i64 9), .lit (.int .i64 0)], .agg [.lit (.int .i64 2), .lit (.int .i64 0)], .agg [.lit (.int .i64 3), .lit (.int .i64 0)], .agg [.lit (.int .i64 2), .lit (.int .i64 0)], .agg [.lit (.int .i64 48), .lit (.int .i64 256)], .agg [.lit (.int .i64 40), .lit (.int .i64 64)]]
def laid_sumpter_sha_first {H : Type} : DataW H := .agg [.lit (.int .u32 1779033703), .lit (.int .u32 3144134277), .lit (.int .u32 1013904242), .lit (.int .u32 2773480762), .lit (.int .u32 1359893119), .lit (.int .u32 2600822924), .lit (.int .u32 528734635), .lit (.int .u32 1541459225)]
def laid_sumpter_sha_rounds {H : Type} : DataW H := .agg [.lit (.int .u32 1116352408), .lit (.int .u32 1899447441), .lit (.int .u32 3049323471), .lit (.int .u32 3921009573), .lit (.int .u32 961987163), .lit (.int .u32 1508970993), .lit (.int .u32 2453635748), .lit (.int .u32 2870763221), .lit (.int .u32 3624381080), .lit (.int .u32 310598401), .lit (.int .u32 607225278), .lit (.int .u32 1426881987), .lit (.int .u32 1925078388), .lit (.int .u32 2162078206), .lit (.int .u32 2614888103), .lit (.int .u32 3248222580), .lit (.int .u32 3835390401), .lit (.int .u32 4022224774), .lit (.int .u32 264347078), .lit (.int .u32 604807628), .lit (.int .u32 770255983), .lit (.int .u32 1249150122), .lit (.int .u32 1555081692), .lit (.int .u32 1996064986), .lit (.int .u32 2554220882), .lit (.int .u32 2821834349), .lit (.int .u32 2952996808), .lit (.int .u32 3210313671), .lit (.int .u32 3336571891), .lit (.int .u32 3584528711), .lit (.int .u32 113926993), .lit (.int .u32 338241895), .lit (.int .u32 666307205), .lit (.int .u32 773529912), .lit (.int .u32 1294757372), .lit (.int .u32 1396182291), .lit (.int .u32 1695183700), .lit (.int .u32 1986661051), .lit (.int .u32 2177026350), .lit (.int .u32 2456956037), .lit (.int .u32 2730485921), .lit (.int .u32 2820302411), .lit (.int .u32 3259730800), .lit (.int .u32 3345764771), .lit (.int .u32 3516065817), .lit (.int .u32 3600352804), .lit (.int .u32 4094571909), .lit (.int .u32 275423344), .lit (.int .u32 430227734), .lit (.int .u32 506948616), .lit (.int .u32 659060556), .lit (.int .u32 883997877), .lit (.int .u32 958139571), .lit (.int .u32 1322822218), .lit (.int .u32 1537002063), .lit (.int .u32 1747873779), .lit (.int .u32 1955562222), .lit (.int .u32 2024104815), .lit (.int .u32 2227730452), .lit (.int .u32 2361852424), .lit (.int .u32 2428436474), .lit (.int .u32 2756734187), .lit (.int .u32 3204031479), .lit (.int .u32 3329325298)]

/-- 'sumpterlaw18.FramePuts': WHATEVER THE INPUT: true; the input reads as it did. -/
def framePutsSpec : ChangeSpec := { name := "framePuts", fn := fun _ => fun
  | [d] => { results := [.lit (.bool true)], args := [d] }
  | _ => none }
def framePutsRow : OpenClaim := { program := "ytiollhmbdhepkaagreatdoor", sum := "cbb864e5df39d1fe5e79667d3483a3f1470f71ad0979d2f75c6ba9578ec7d4f4", func := "sumpter/sumpterlaw18.FramePuts", spec := "framePuts", inPlace := ["slices.overlaps[sumpter/api.Span]"], unfollowed := true, recurses := true, named := ["sumpter/frame.shapes", "sumpter/varint.widths"], apart := false, laid := [("sumpter/varint.widths", laid_sumpter_varint_widths), ("sumpter/frame.shapes", laid_sumpter_frame_shapes)] }
def FramePutsSaid : Prop := framePutsRow.holds Tryz.pinned (OpenSpec.ofChange framePutsSpec)

/-- ITS FALSE NEIGHBOUR: 'it returns false'. Refute it at one input. -/
def framePutsWrong : ChangeSpec := { name := "framePuts", fn := fun _ => fun
  | [d] => { results := [.lit (.bool false)], args := [d] }
  | _ => none }
def FramePutsWrongFalsely : Prop := framePutsRow.holds Tryz.pinned (OpenSpec.ofChange framePutsWrong)

/-- 'sumpterlaw19.PacketSeals': WHATEVER THE INPUT: true; the input reads as it did. -/
def packetSealsSpec : ChangeSpec := { name := "packetSeals", fn := fun _ => fun
  | [d1, d2] => { results := [.lit (.bool true)], args := [d1, d2] }
  | _ => none }
def packetSealsRow : OpenClaim := { program := "ytiollhmbdhepkaagreatdoor", sum := "cbb864e5df39d1fe5e79667d3483a3f1470f71ad0979d2f75c6ba9578ec7d4f4", func := "sumpter/sumpterlaw19.PacketSeals", spec := "packetSeals", inPlace := ["slices.overlaps[sumpter/api.Span]"], unfollowed := true, recurses := true, named := ["sumpter/frame.shapes", "sumpter/varint.widths", "sumpter/sha.first", "sumpter/sha.rounds"], apart := false, laid := [("sumpter/varint.widths", laid_sumpter_varint_widths), ("sumpter/frame.shapes", laid_sumpter_frame_shapes), ("sumpter/sha.first", laid_sumpter_sha_first), ("sumpter/sha.rounds", laid_sumpter_sha_rounds)] }
def PacketSealsSaid : Prop := packetSealsRow.holds Tryz.pinned (OpenSpec.ofChange packetSealsSpec)

/-- ITS FALSE NEIGHBOUR: 'it returns false'. Refute it at one input. -/
def packetSealsWrong : ChangeSpec := { name := "packetSeals", fn := fun _ => fun
  | [d1, d2] => { results := [.lit (.bool false)], args := [d1, d2] }
  | _ => none }
def PacketSealsWrongFalsely : Prop := packetSealsRow.holds Tryz.pinned (OpenSpec.ofChange packetSealsWrong)

/-- 'sumpterlaw19.PacketKeys': WHATEVER THE INPUT: true; the input reads as it did. -/
def packetKeysSpec : ChangeSpec := { name := "packetKeys", fn := fun _ => fun
  | [d1, d2, d3] => { results := [.lit (.bool true)], args := [d1, d2, d3] }
  | _ => none }
def packetKeysRow : OpenClaim := { program := "ytiollhmbdhepkaagreatdoor", sum := "cbb864e5df39d1fe5e79667d3483a3f1470f71ad0979d2f75c6ba9578ec7d4f4", func := "sumpter/sumpterlaw19.PacketKeys", spec := "packetKeys", inPlace := ["slices.overlaps[sumpter/api.Span]"], unfollowed := true, recurses := true, named := ["sumpter/frame.shapes", "sumpter/varint.widths", "sumpter/sha.first", "sumpter/sha.rounds"], apart := false, laid := [("sumpter/varint.widths", laid_sumpter_varint_widths), ("sumpter/frame.shapes", laid_sumpter_frame_shapes), ("sumpter/sha.first", laid_sumpter_sha_first), ("sumpter/sha.rounds", laid_sumpter_sha_rounds)] }
def PacketKeysSaid : Prop := packetKeysRow.holds Tryz.pinned (OpenSpec.ofChange packetKeysSpec)

/-- ITS FALSE NEIGHBOUR: 'it returns false'. Refute it at one input. -/
def packetKeysWrong : ChangeSpec := { name := "packetKeys", fn := fun _ => fun
  | [d1, d2, d3] => { results := [.lit (.bool false)], args := [d1, d2, d3] }
  | _ => none }
def PacketKeysWrongFalsely : Prop := packetKeysRow.holds Tryz.pinned (OpenSpec.ofChange packetKeysWrong)

/-- 'sumpterlaw19.PacketBack': WHATEVER THE INPUT: true; the input reads as it did. -/
def packetBackSpec : ChangeSpec := { name := "packetBack", fn := fun _ => fun
  | [d1, d2, d3] => { results := [.lit (.bool true)], args := [d1, d2, d3] }
  | _ => none }
def packetBackRow : OpenClaim := { program := "ytiollhmbdhepkaagreatdoor", sum := "cbb864e5df39d1fe5e79667d3483a3f1470f71ad0979d2f75c6ba9578ec7d4f4", func := "sumpter/sumpterlaw19.PacketBack", spec := "packetBack", inPlace := ["slices.overlaps[sumpter/api.Span]"], unfollowed := true, recurses := true, named := ["sumpter/frame.shapes", "sumpter/varint.widths", "sumpter/sha.first", "sumpter/sha.rounds"], apart := false, laid := [("sumpter/varint.widths", laid_sumpter_varint_widths), ("sumpter/frame.shapes", laid_sumpter_frame_shapes), ("sumpter/sha.first", laid_sumpter_sha_first), ("sumpter/sha.rounds", laid_sumpter_sha_rounds)] }
def PacketBackSaid : Prop := packetBackRow.holds Tryz.pinned (OpenSpec.ofChange packetBackSpec)

/-- ITS FALSE NEIGHBOUR: 'it returns false'. Refute it at one input. -/
def packetBackWrong : ChangeSpec := { name := "packetBack", fn := fun _ => fun
  | [d1, d2, d3] => { results := [.lit (.bool false)], args := [d1, d2, d3] }
  | _ => none }
def PacketBackWrongFalsely : Prop := packetBackRow.holds Tryz.pinned (OpenSpec.ofChange packetBackWrong)

/-- 'sumpterlaw19.PacketRoom': WHATEVER THE INPUT: true; the input reads as it did. -/
def packetRoomSpec : ChangeSpec := { name := "packetRoom", fn := fun _ => fun
  | [d1, d2] => { results := [.lit (.bool true)], args := [d1, d2] }
  | _ => none }
def packetRoomRow : OpenClaim := { program := "ytiollhmbdhepkaagreatdoor", sum := "cbb864e5df39d1fe5e79667d3483a3f1470f71ad0979d2f75c6ba9578ec7d4f4", func := "sumpter/sumpterlaw19.PacketRoom", spec := "packetRoom", inPlace := ["slices.overlaps[sumpter/api.Span]"], unfollowed := true, recurses := true, named := ["sumpter/varint.widths", "sumpter/sha.first", "sumpter/sha.rounds", "sumpter/frame.shapes"], apart := false, laid := [("sumpter/varint.widths", laid_sumpter_varint_widths), ("sumpter/frame.shapes", laid_sumpter_frame_shapes), ("sumpter/sha.first", laid_sumpter_sha_first), ("sumpter/sha.rounds", laid_sumpter_sha_rounds)] }
def PacketRoomSaid : Prop := packetRoomRow.holds Tryz.pinned (OpenSpec.ofChange packetRoomSpec)

/-- ITS FALSE NEIGHBOUR: 'it returns false'. Refute it at one input. -/
def packetRoomWrong : ChangeSpec := { name := "packetRoom", fn := fun _ => fun
  | [d1, d2] => { results := [.lit (.bool false)], args := [d1, d2] }
  | _ => none }
def PacketRoomWrongFalsely : Prop := packetRoomRow.holds Tryz.pinned (OpenSpec.ofChange packetRoomWrong)

/- THE SECOND FORM. 'bulk': how many values and letters a reading holds, each counted each time it is reached (what is shared counts as often as it is met; a slice's spare places count too). A statement '..UptoSaid' is the law's where the arguments, and the package variables that the reading takes, are together of bulk at most 1048576: NARROWER than '..Said'. Prove '..Said' where nothing that the law and all that it calls make is longer than what came in: it says more and counts as full. Else prove '..UptoSaid'. A law counts once. -/
mutual
def uptoBulk {H : Type} : DataW H → Nat
  | .lit (.string bytes) => bytes.length + 1
  | .lit _ => 1
  | .nil => 1
  | .ptr d => uptoBulk d + 1
  | .slice elems spare => uptoBulkAll elems + uptoBulkAll spare + 1
  | .agg parts => uptoBulkAll parts + 1
  | .iface _ d => uptoBulk d + 1
  | .map entries => uptoBulkEntries entries + 1
  | .held _ => 1
def uptoBulkAll {H : Type} : List (DataW H) → Nat
  | [] => 0
  | d :: r => uptoBulk d + uptoBulkAll r
def uptoBulkEntries {H : Type} : List (Lit × DataW H) → Nat
  | [] => 0
  | x :: r => uptoBulkEntry x + uptoBulkEntries r
def uptoBulkEntry {H : Type} : Lit × DataW H → Nat
  | (.string bytes, d) => bytes.length + uptoBulk d + 1
  | (_, d) => uptoBulk d + 1
 end
def uptoSmall : (H : Type) → List (DataW H) → Bool := fun _ ds => decide (uptoBulkAll ds ≤ 1048576)
def OpenSpec.upto (s : _root_.Go.ChangeSpec) : _root_.Go.OpenSpec := { _root_.Go.OpenSpec.ofChange s with cond := some uptoSmall }

/-- 'sumpterlaw18.FramePuts', WHERE WHAT IT READS IS OF BULK AT MOST 1048576: true; the input reads as it did. -/
def framePutsUptoRow : OpenClaim := { program := "ytiollhmbdhepkaagreatdoor", sum := "cbb864e5df39d1fe5e79667d3483a3f1470f71ad0979d2f75c6ba9578ec7d4f4", func := "sumpter/sumpterlaw18.FramePuts", spec := "framePuts", inPlace := ["slices.overlaps[sumpter/api.Span]"], unfollowed := true, recurses := true, named := ["sumpter/frame.shapes", "sumpter/varint.widths"], apart := false, laid := [("sumpter/varint.widths", laid_sumpter_varint_widths), ("sumpter/frame.shapes", laid_sumpter_frame_shapes)], narrowed := true }
def FramePutsUptoSaid : Prop := framePutsUptoRow.holds Tryz.pinned (OpenSpec.upto framePutsSpec)

/-- 'sumpterlaw19.PacketSeals', WHERE WHAT IT READS IS OF BULK AT MOST 1048576: true; the input reads as it did. -/
def packetSealsUptoRow : OpenClaim := { program := "ytiollhmbdhepkaagreatdoor", sum := "cbb864e5df39d1fe5e79667d3483a3f1470f71ad0979d2f75c6ba9578ec7d4f4", func := "sumpter/sumpterlaw19.PacketSeals", spec := "packetSeals", inPlace := ["slices.overlaps[sumpter/api.Span]"], unfollowed := true, recurses := true, named := ["sumpter/frame.shapes", "sumpter/varint.widths", "sumpter/sha.first", "sumpter/sha.rounds"], apart := false, laid := [("sumpter/varint.widths", laid_sumpter_varint_widths), ("sumpter/frame.shapes", laid_sumpter_frame_shapes), ("sumpter/sha.first", laid_sumpter_sha_first), ("sumpter/sha.rounds", laid_sumpter_sha_rounds)], narrowed := true }
def PacketSealsUptoSaid : Prop := packetSealsUptoRow.holds Tryz.pinned (OpenSpec.upto packetSealsSpec)

/-- 'sumpterlaw19.PacketKeys', WHERE WHAT IT READS IS OF BULK AT MOST 1048576: true; the input reads as it did. -/
def packetKeysUptoRow : OpenClaim := { program := "ytiollhmbdhepkaagreatdoor", sum := "cbb864e5df39d1fe5e79667d3483a3f1470f71ad0979d2f75c6ba9578ec7d4f4", func := "sumpter/sumpterlaw19.PacketKeys", spec := "packetKeys", inPlace := ["slices.overlaps[sumpter/api.Span]"], unfollowed := true, recurses := true, named := ["sumpter/frame.shapes", "sumpter/varint.widths", "sumpter/sha.first", "sumpter/sha.rounds"], apart := false, laid := [("sumpter/varint.widths", laid_sumpter_varint_widths), ("sumpter/frame.shapes", laid_sumpter_frame_shapes), ("sumpter/sha.first", laid_sumpter_sha_first), ("sumpter/sha.rounds", laid_sumpter_sha_rounds)], narrowed := true }
def PacketKeysUptoSaid : Prop := packetKeysUptoRow.holds Tryz.pinned (OpenSpec.upto packetKeysSpec)

/-- 'sumpterlaw19.PacketBack', WHERE WHAT IT READS IS OF BULK AT MOST 1048576: true; the input reads as it did. -/
def packetBackUptoRow : OpenClaim := { program := "ytiollhmbdhepkaagreatdoor", sum := "cbb864e5df39d1fe5e79667d3483a3f1470f71ad0979d2f75c6ba9578ec7d4f4", func := "sumpter/sumpterlaw19.PacketBack", spec := "packetBack", inPlace := ["slices.overlaps[sumpter/api.Span]"], unfollowed := true, recurses := true, named := ["sumpter/frame.shapes", "sumpter/varint.widths", "sumpter/sha.first", "sumpter/sha.rounds"], apart := false, laid := [("sumpter/varint.widths", laid_sumpter_varint_widths), ("sumpter/frame.shapes", laid_sumpter_frame_shapes), ("sumpter/sha.first", laid_sumpter_sha_first), ("sumpter/sha.rounds", laid_sumpter_sha_rounds)], narrowed := true }
def PacketBackUptoSaid : Prop := packetBackUptoRow.holds Tryz.pinned (OpenSpec.upto packetBackSpec)

/-- 'sumpterlaw19.PacketRoom', WHERE WHAT IT READS IS OF BULK AT MOST 1048576: true; the input reads as it did. -/
def packetRoomUptoRow : OpenClaim := { program := "ytiollhmbdhepkaagreatdoor", sum := "cbb864e5df39d1fe5e79667d3483a3f1470f71ad0979d2f75c6ba9578ec7d4f4", func := "sumpter/sumpterlaw19.PacketRoom", spec := "packetRoom", inPlace := ["slices.overlaps[sumpter/api.Span]"], unfollowed := true, recurses := true, named := ["sumpter/varint.widths", "sumpter/sha.first", "sumpter/sha.rounds", "sumpter/frame.shapes"], apart := false, laid := [("sumpter/varint.widths", laid_sumpter_varint_widths), ("sumpter/frame.shapes", laid_sumpter_frame_shapes), ("sumpter/sha.first", laid_sumpter_sha_first), ("sumpter/sha.rounds", laid_sumpter_sha_rounds)], narrowed := true }
def PacketRoomUptoSaid : Prop := packetRoomUptoRow.holds Tryz.pinned (OpenSpec.upto packetRoomSpec)

end Rows
end Go.Proofs.YtiollhmbdhepkaaGreatDoor
