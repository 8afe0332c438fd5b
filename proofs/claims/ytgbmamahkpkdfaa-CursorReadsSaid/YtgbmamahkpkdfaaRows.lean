/-
  No cell of these rows narrows 'for every input' (looked for: loops, veiled, ifaces, maps, wideKeys, modest, calm, conditions, laid).
  DERIVED. THE GIVEN ROWS OF THIS SEAT. 12 by the template 'for every input the law returns true; each argument reads behind the call as it read before'; 0 by the template 'total and deterministic' (their statements: YtgbmamahkpkdfaaTotals.lean).
  GIVEN WITH THE SEED: the statements are not yours to turn. If you find one false, say at which input.
  Laid BY PROGRAM, IN A SANDBOX (cutbox-rows.mjs): the forced cells as the released guide's own fill.sh prints them over the translation 04ee4d13601c5b74… (all of the seat's roots in one cut). By AI agents, Wed Nov 11 2026. No macro, syntax, notation, axiom, sorry.
-/
import Derived.Test.YtgbmamahkpkdfaaChecked
import GoSem.Claim
import GoSem.ClaimJoined
import GoSem.ClaimMapViews
import Derived.JoinedTies
import Derived.KernelRfl
namespace Go.Proofs.Ytgbmamahkpkdfaa
/- THE CELL 'sum', in the pinned program and in every row, IS THE sha256 OF THE DUMP (.gsa) THAT YtgbmamahkpkdfaaProg.lean LOADS. Nothing in Lean hashes anything: it is a label: what it is worth is what the hold of that sum in a sandbox is worth. -/
noncomputable def Try.pinned : Pinned := { name := "ytgbmamahkpkdfaa", sum := "04ee4d13601c5b74d89009439fa5acf897eb41b1c5d3d600e712a85bf0956d4d", checked := Try.checked }
namespace Rows
def none {H : Type} : Left H := { results := [], args := [] }

/-- 'steelyardlaw01.CursorRuns': WHATEVER THE INPUT: true; the input reads as it did. -/
def cursorRunsSpec : ChangeSpec := { name := "cursorRuns", fn := fun _ => fun
  | [d1, d2] => { results := [.lit (.bool true)], args := [d1, d2] }
  | _ => none }
def cursorRunsRow : OpenClaim := { program := "ytgbmamahkpkdfaa", sum := "04ee4d13601c5b74d89009439fa5acf897eb41b1c5d3d600e712a85bf0956d4d", func := "steelyard/steelyardlaw01.CursorRuns", spec := "cursorRuns", unfollowed := true, recurses := true, apart := false }
def CursorRunsSaid : Prop := cursorRunsRow.holds Try.pinned (OpenSpec.ofChange cursorRunsSpec)

/-- ITS FALSE NEIGHBOUR: 'it returns false'. Refute it at one input. -/
def cursorRunsWrong : ChangeSpec := { name := "cursorRuns", fn := fun _ => fun
  | [d1, d2] => { results := [.lit (.bool false)], args := [d1, d2] }
  | _ => none }
def CursorRunsWrongFalsely : Prop := cursorRunsRow.holds Try.pinned (OpenSpec.ofChange cursorRunsWrong)

/-- 'steelyardlaw01.CursorReads': WHATEVER THE INPUT: true; the input reads as it did. -/
def cursorReadsSpec : ChangeSpec := { name := "cursorReads", fn := fun _ => fun
  | [d1, d2] => { results := [.lit (.bool true)], args := [d1, d2] }
  | _ => none }
def cursorReadsRow : OpenClaim := { program := "ytgbmamahkpkdfaa", sum := "04ee4d13601c5b74d89009439fa5acf897eb41b1c5d3d600e712a85bf0956d4d", func := "steelyard/steelyardlaw01.CursorReads", spec := "cursorReads", unfollowed := true, recurses := true, apart := false }
def CursorReadsSaid : Prop := cursorReadsRow.holds Try.pinned (OpenSpec.ofChange cursorReadsSpec)

/-- ITS FALSE NEIGHBOUR: 'it returns false'. Refute it at one input. -/
def cursorReadsWrong : ChangeSpec := { name := "cursorReads", fn := fun _ => fun
  | [d1, d2] => { results := [.lit (.bool false)], args := [d1, d2] }
  | _ => none }
def CursorReadsWrongFalsely : Prop := cursorReadsRow.holds Try.pinned (OpenSpec.ofChange cursorReadsWrong)

/-- 'steelyardlaw03.AddrBytes': WHATEVER THE INPUT: true; the input reads as it did. -/
def addrBytesSpec : ChangeSpec := { name := "addrBytes", fn := fun _ => fun
  | [d1, d2] => { results := [.lit (.bool true)], args := [d1, d2] }
  | _ => none }
def addrBytesRow : OpenClaim := { program := "ytgbmamahkpkdfaa", sum := "04ee4d13601c5b74d89009439fa5acf897eb41b1c5d3d600e712a85bf0956d4d", func := "steelyard/steelyardlaw03.AddrBytes", spec := "addrBytes", inPlace := ["internal/bytealg.Compare"], unfollowed := true, recurses := true, apart := false }
def AddrBytesSaid : Prop := addrBytesRow.holds Try.pinned (OpenSpec.ofChange addrBytesSpec)

/-- ITS FALSE NEIGHBOUR: 'it returns false'. Refute it at one input. -/
def addrBytesWrong : ChangeSpec := { name := "addrBytes", fn := fun _ => fun
  | [d1, d2] => { results := [.lit (.bool false)], args := [d1, d2] }
  | _ => none }
def AddrBytesWrongFalsely : Prop := addrBytesRow.holds Try.pinned (OpenSpec.ofChange addrBytesWrong)

/-- 'steelyardlaw04.HeaderPuts': WHATEVER THE INPUT: true; the input reads as it did. -/
def headerPutsSpec : ChangeSpec := { name := "headerPuts", fn := fun _ => fun
  | [d] => { results := [.lit (.bool true)], args := [d] }
  | _ => none }
def headerPutsRow : OpenClaim := { program := "ytgbmamahkpkdfaa", sum := "04ee4d13601c5b74d89009439fa5acf897eb41b1c5d3d600e712a85bf0956d4d", func := "steelyard/steelyardlaw04.HeaderPuts", spec := "headerPuts", unfollowed := true, recurses := true, apart := false }
def HeaderPutsSaid : Prop := headerPutsRow.holds Try.pinned (OpenSpec.ofChange headerPutsSpec)

/-- ITS FALSE NEIGHBOUR: 'it returns false'. Refute it at one input. -/
def headerPutsWrong : ChangeSpec := { name := "headerPuts", fn := fun _ => fun
  | [d] => { results := [.lit (.bool false)], args := [d] }
  | _ => none }
def HeaderPutsWrongFalsely : Prop := headerPutsRow.holds Try.pinned (OpenSpec.ofChange headerPutsWrong)

/-- 'steelyardlaw04.HeaderPseudo': WHATEVER THE INPUT: true; the input reads as it did. -/
def headerPseudoSpec : ChangeSpec := { name := "headerPseudo", fn := fun _ => fun
  | [d] => { results := [.lit (.bool true)], args := [d] }
  | _ => none }
def headerPseudoRow : OpenClaim := { program := "ytgbmamahkpkdfaa", sum := "04ee4d13601c5b74d89009439fa5acf897eb41b1c5d3d600e712a85bf0956d4d", func := "steelyard/steelyardlaw04.HeaderPseudo", spec := "headerPseudo", unfollowed := true, recurses := true, apart := false }
def HeaderPseudoSaid : Prop := headerPseudoRow.holds Try.pinned (OpenSpec.ofChange headerPseudoSpec)

/-- ITS FALSE NEIGHBOUR: 'it returns false'. Refute it at one input. -/
def headerPseudoWrong : ChangeSpec := { name := "headerPseudo", fn := fun _ => fun
  | [d] => { results := [.lit (.bool false)], args := [d] }
  | _ => none }
def HeaderPseudoWrongFalsely : Prop := headerPseudoRow.holds Try.pinned (OpenSpec.ofChange headerPseudoWrong)

/-- 'steelyardlaw04.HeaderCut': WHATEVER THE INPUT: true; the input reads as it did. -/
def headerCutSpec : ChangeSpec := { name := "headerCut", fn := fun _ => fun
  | [d1, d2, d3] => { results := [.lit (.bool true)], args := [d1, d2, d3] }
  | _ => none }
def headerCutRow : OpenClaim := { program := "ytgbmamahkpkdfaa", sum := "04ee4d13601c5b74d89009439fa5acf897eb41b1c5d3d600e712a85bf0956d4d", func := "steelyard/steelyardlaw04.HeaderCut", spec := "headerCut", unfollowed := true, recurses := true, apart := false }
def HeaderCutSaid : Prop := headerCutRow.holds Try.pinned (OpenSpec.ofChange headerCutSpec)

/-- ITS FALSE NEIGHBOUR: 'it returns false'. Refute it at one input. -/
def headerCutWrong : ChangeSpec := { name := "headerCut", fn := fun _ => fun
  | [d1, d2, d3] => { results := [.lit (.bool false)], args := [d1, d2, d3] }
  | _ => none }
def HeaderCutWrongFalsely : Prop := headerCutRow.holds Try.pinned (OpenSpec.ofChange headerCutWrong)

/-- 'steelyardlaw04.HeaderSum': WHATEVER THE INPUT: true; the input reads as it did. -/
def headerSumSpec : ChangeSpec := { name := "headerSum", fn := fun _ => fun
  | [d] => { results := [.lit (.bool true)], args := [d] }
  | _ => none }
def headerSumRow : OpenClaim := { program := "ytgbmamahkpkdfaa", sum := "04ee4d13601c5b74d89009439fa5acf897eb41b1c5d3d600e712a85bf0956d4d", func := "steelyard/steelyardlaw04.HeaderSum", spec := "headerSum", unfollowed := true, recurses := true, apart := false }
def HeaderSumSaid : Prop := headerSumRow.holds Try.pinned (OpenSpec.ofChange headerSumSpec)

/-- ITS FALSE NEIGHBOUR: 'it returns false'. Refute it at one input. -/
def headerSumWrong : ChangeSpec := { name := "headerSum", fn := fun _ => fun
  | [d] => { results := [.lit (.bool false)], args := [d] }
  | _ => none }
def HeaderSumWrongFalsely : Prop := headerSumRow.holds Try.pinned (OpenSpec.ofChange headerSumWrong)

/-- 'steelyardlaw05.SegmentPuts': WHATEVER THE INPUT: true; the input reads as it did. -/
def segmentPutsSpec : ChangeSpec := { name := "segmentPuts", fn := fun _ => fun
  | [d1, d2] => { results := [.lit (.bool true)], args := [d1, d2] }
  | _ => none }
def segmentPutsRow : OpenClaim := { program := "ytgbmamahkpkdfaa", sum := "04ee4d13601c5b74d89009439fa5acf897eb41b1c5d3d600e712a85bf0956d4d", func := "steelyard/steelyardlaw05.SegmentPuts", spec := "segmentPuts", unfollowed := true, recurses := true, apart := false }
def SegmentPutsSaid : Prop := segmentPutsRow.holds Try.pinned (OpenSpec.ofChange segmentPutsSpec)

/-- ITS FALSE NEIGHBOUR: 'it returns false'. Refute it at one input. -/
def segmentPutsWrong : ChangeSpec := { name := "segmentPuts", fn := fun _ => fun
  | [d1, d2] => { results := [.lit (.bool false)], args := [d1, d2] }
  | _ => none }
def SegmentPutsWrongFalsely : Prop := segmentPutsRow.holds Try.pinned (OpenSpec.ofChange segmentPutsWrong)

/-- 'steelyardlaw05.SegmentTurned': WHATEVER THE INPUT: true; the input reads as it did. -/
def segmentTurnedSpec : ChangeSpec := { name := "segmentTurned", fn := fun _ => fun
  | [d1, d2, d3] => { results := [.lit (.bool true)], args := [d1, d2, d3] }
  | _ => none }
def segmentTurnedRow : OpenClaim := { program := "ytgbmamahkpkdfaa", sum := "04ee4d13601c5b74d89009439fa5acf897eb41b1c5d3d600e712a85bf0956d4d", func := "steelyard/steelyardlaw05.SegmentTurned", spec := "segmentTurned", unfollowed := true, recurses := true, apart := false }
def SegmentTurnedSaid : Prop := segmentTurnedRow.holds Try.pinned (OpenSpec.ofChange segmentTurnedSpec)

/-- ITS FALSE NEIGHBOUR: 'it returns false'. Refute it at one input. -/
def segmentTurnedWrong : ChangeSpec := { name := "segmentTurned", fn := fun _ => fun
  | [d1, d2, d3] => { results := [.lit (.bool false)], args := [d1, d2, d3] }
  | _ => none }
def SegmentTurnedWrongFalsely : Prop := segmentTurnedRow.holds Try.pinned (OpenSpec.ofChange segmentTurnedWrong)

/-- 'steelyardlaw05.SegmentMoved': WHATEVER THE INPUT: true; the input reads as it did. -/
def segmentMovedSpec : ChangeSpec := { name := "segmentMoved", fn := fun _ => fun
  | [d1, d2, d3, d4] => { results := [.lit (.bool true)], args := [d1, d2, d3, d4] }
  | _ => none }
def segmentMovedRow : OpenClaim := { program := "ytgbmamahkpkdfaa", sum := "04ee4d13601c5b74d89009439fa5acf897eb41b1c5d3d600e712a85bf0956d4d", func := "steelyard/steelyardlaw05.SegmentMoved", spec := "segmentMoved", unfollowed := true, recurses := true, apart := false }
def SegmentMovedSaid : Prop := segmentMovedRow.holds Try.pinned (OpenSpec.ofChange segmentMovedSpec)

/-- ITS FALSE NEIGHBOUR: 'it returns false'. Refute it at one input. -/
def segmentMovedWrong : ChangeSpec := { name := "segmentMoved", fn := fun _ => fun
  | [d1, d2, d3, d4] => { results := [.lit (.bool false)], args := [d1, d2, d3, d4] }
  | _ => none }
def SegmentMovedWrongFalsely : Prop := segmentMovedRow.holds Try.pinned (OpenSpec.ofChange segmentMovedWrong)

/-- 'steelyardlaw05.SegmentCut': WHATEVER THE INPUT: true; the input reads as it did. -/
def segmentCutSpec : ChangeSpec := { name := "segmentCut", fn := fun _ => fun
  | [d1, d2, d3, d4] => { results := [.lit (.bool true)], args := [d1, d2, d3, d4] }
  | _ => none }
def segmentCutRow : OpenClaim := { program := "ytgbmamahkpkdfaa", sum := "04ee4d13601c5b74d89009439fa5acf897eb41b1c5d3d600e712a85bf0956d4d", func := "steelyard/steelyardlaw05.SegmentCut", spec := "segmentCut", unfollowed := true, recurses := true, apart := false }
def SegmentCutSaid : Prop := segmentCutRow.holds Try.pinned (OpenSpec.ofChange segmentCutSpec)

/-- ITS FALSE NEIGHBOUR: 'it returns false'. Refute it at one input. -/
def segmentCutWrong : ChangeSpec := { name := "segmentCut", fn := fun _ => fun
  | [d1, d2, d3, d4] => { results := [.lit (.bool false)], args := [d1, d2, d3, d4] }
  | _ => none }
def SegmentCutWrongFalsely : Prop := segmentCutRow.holds Try.pinned (OpenSpec.ofChange segmentCutWrong)

/-- 'steelyardlaw05.SegmentProto': WHATEVER THE INPUT: true; the input reads as it did. -/
def segmentProtoSpec : ChangeSpec := { name := "segmentProto", fn := fun _ => fun
  | [d1, d2] => { results := [.lit (.bool true)], args := [d1, d2] }
  | _ => none }
def segmentProtoRow : OpenClaim := { program := "ytgbmamahkpkdfaa", sum := "04ee4d13601c5b74d89009439fa5acf897eb41b1c5d3d600e712a85bf0956d4d", func := "steelyard/steelyardlaw05.SegmentProto", spec := "segmentProto", unfollowed := true, recurses := true, apart := false }
def SegmentProtoSaid : Prop := segmentProtoRow.holds Try.pinned (OpenSpec.ofChange segmentProtoSpec)

/-- ITS FALSE NEIGHBOUR: 'it returns false'. Refute it at one input. -/
def segmentProtoWrong : ChangeSpec := { name := "segmentProto", fn := fun _ => fun
  | [d1, d2] => { results := [.lit (.bool false)], args := [d1, d2] }
  | _ => none }
def SegmentProtoWrongFalsely : Prop := segmentProtoRow.holds Try.pinned (OpenSpec.ofChange segmentProtoWrong)

/- THE SECOND FORM. 'bulk': how many values and letters a reading holds, each counted each time it is reached (what is shared counts as often as it is met; a slice's spare places count too). A statement '..UptoSaid' is the law's where the arguments, and the package variables that the reading takes, are together of bulk at most 1048576: NARROWER than '..Said'. Prove '..Said' where nothing that the law and all that it calls make is longer than what came in: it says more and counts as full. Else prove '..UptoSaid'. A law counts once. -/
mutual
def uptoBulk {H : Type} : DataW H → Nat
  | .lit (.string bytes) => bytes.length + 1
  | .lit _ => 1
  | .nil => 1
  | .ptr d => uptoBulk d + 1
  | .slice elems spare => uptoBulkAll elems + uptoBulkAll spare + 1
  | .agg parts => uptoBulkAll parts + 1
  | .iface _ d => uptoBulk d + 1
  | .map entries => uptoBulkEntries entries + 1
  | .held _ => 1
def uptoBulkAll {H : Type} : List (DataW H) → Nat
  | [] => 0
  | d :: r => uptoBulk d + uptoBulkAll r
def uptoBulkEntries {H : Type} : List (Lit × DataW H) → Nat
  | [] => 0
  | x :: r => uptoBulkEntry x + uptoBulkEntries r
def uptoBulkEntry {H : Type} : Lit × DataW H → Nat
  | (.string bytes, d) => bytes.length + uptoBulk d + 1
  | (_, d) => uptoBulk d + 1
 end
def uptoSmall : (H : Type) → List (DataW H) → Bool := fun _ ds => decide (uptoBulkAll ds ≤ 1048576)
def OpenSpec.upto (s : _root_.Go.ChangeSpec) : _root_.Go.OpenSpec := { _root_.Go.OpenSpec.ofChange s with cond := some uptoSmall }

/-- 'steelyardlaw01.CursorRuns', WHERE WHAT IT READS IS OF BULK AT MOST 1048576: true; the input reads as it did. -/
def cursorRunsUptoRow : OpenClaim := { program := "ytgbmamahkpkdfaa", sum := "04ee4d13601c5b74d89009439fa5acf897eb41b1c5d3d600e712a85bf0956d4d", func := "steelyard/steelyardlaw01.CursorRuns", spec := "cursorRuns", unfollowed := true, recurses := true, apart := false, narrowed := true }
def CursorRunsUptoSaid : Prop := cursorRunsUptoRow.holds Try.pinned (OpenSpec.upto cursorRunsSpec)

/-- 'steelyardlaw01.CursorReads', WHERE WHAT IT READS IS OF BULK AT MOST 1048576: true; the input reads as it did. -/
def cursorReadsUptoRow : OpenClaim := { program := "ytgbmamahkpkdfaa", sum := "04ee4d13601c5b74d89009439fa5acf897eb41b1c5d3d600e712a85bf0956d4d", func := "steelyard/steelyardlaw01.CursorReads", spec := "cursorReads", unfollowed := true, recurses := true, apart := false, narrowed := true }
def CursorReadsUptoSaid : Prop := cursorReadsUptoRow.holds Try.pinned (OpenSpec.upto cursorReadsSpec)

/-- 'steelyardlaw03.AddrBytes', WHERE WHAT IT READS IS OF BULK AT MOST 1048576: true; the input reads as it did. -/
def addrBytesUptoRow : OpenClaim := { program := "ytgbmamahkpkdfaa", sum := "04ee4d13601c5b74d89009439fa5acf897eb41b1c5d3d600e712a85bf0956d4d", func := "steelyard/steelyardlaw03.AddrBytes", spec := "addrBytes", inPlace := ["internal/bytealg.Compare"], unfollowed := true, recurses := true, apart := false, narrowed := true }
def AddrBytesUptoSaid : Prop := addrBytesUptoRow.holds Try.pinned (OpenSpec.upto addrBytesSpec)

/-- 'steelyardlaw04.HeaderPuts', WHERE WHAT IT READS IS OF BULK AT MOST 1048576: true; the input reads as it did. -/
def headerPutsUptoRow : OpenClaim := { program := "ytgbmamahkpkdfaa", sum := "04ee4d13601c5b74d89009439fa5acf897eb41b1c5d3d600e712a85bf0956d4d", func := "steelyard/steelyardlaw04.HeaderPuts", spec := "headerPuts", unfollowed := true, recurses := true, apart := false, narrowed := true }
def HeaderPutsUptoSaid : Prop := headerPutsUptoRow.holds Try.pinned (OpenSpec.upto headerPutsSpec)

/-- 'steelyardlaw04.HeaderPseudo', WHERE WHAT IT READS IS OF BULK AT MOST 1048576: true; the input reads as it did. -/
def headerPseudoUptoRow : OpenClaim := { program := "ytgbmamahkpkdfaa", sum := "04ee4d13601c5b74d89009439fa5acf897eb41b1c5d3d600e712a85bf0956d4d", func := "steelyard/steelyardlaw04.HeaderPseudo", spec := "headerPseudo", unfollowed := true, recurses := true, apart := false, narrowed := true }
def HeaderPseudoUptoSaid : Prop := headerPseudoUptoRow.holds Try.pinned (OpenSpec.upto headerPseudoSpec)

/-- 'steelyardlaw04.HeaderCut', WHERE WHAT IT READS IS OF BULK AT MOST 1048576: true; the input reads as it did. -/
def headerCutUptoRow : OpenClaim := { program := "ytgbmamahkpkdfaa", sum := "04ee4d13601c5b74d89009439fa5acf897eb41b1c5d3d600e712a85bf0956d4d", func := "steelyard/steelyardlaw04.HeaderCut", spec := "headerCut", unfollowed := true, recurses := true, apart := false, narrowed := true }
def HeaderCutUptoSaid : Prop := headerCutUptoRow.holds Try.pinned (OpenSpec.upto headerCutSpec)

/-- 'steelyardlaw04.HeaderSum', WHERE WHAT IT READS IS OF BULK AT MOST 1048576: true; the input reads as it did. -/
def headerSumUptoRow : OpenClaim := { program := "ytgbmamahkpkdfaa", sum := "04ee4d13601c5b74d89009439fa5acf897eb41b1c5d3d600e712a85bf0956d4d", func := "steelyard/steelyardlaw04.HeaderSum", spec := "headerSum", unfollowed := true, recurses := true, apart := false, narrowed := true }
def HeaderSumUptoSaid : Prop := headerSumUptoRow.holds Try.pinned (OpenSpec.upto headerSumSpec)

/-- 'steelyardlaw05.SegmentPuts', WHERE WHAT IT READS IS OF BULK AT MOST 1048576: true; the input reads as it did. -/
def segmentPutsUptoRow : OpenClaim := { program := "ytgbmamahkpkdfaa", sum := "04ee4d13601c5b74d89009439fa5acf897eb41b1c5d3d600e712a85bf0956d4d", func := "steelyard/steelyardlaw05.SegmentPuts", spec := "segmentPuts", unfollowed := true, recurses := true, apart := false, narrowed := true }
def SegmentPutsUptoSaid : Prop := segmentPutsUptoRow.holds Try.pinned (OpenSpec.upto segmentPutsSpec)

/-- 'steelyardlaw05.SegmentTurned', WHERE WHAT IT READS IS OF BULK AT MOST 1048576: true; the input reads as it did. -/
def segmentTurnedUptoRow : OpenClaim := { program := "ytgbmamahkpkdfaa", sum := "04ee4d13601c5b74d89009439fa5acf897eb41b1c5d3d600e712a85bf0956d4d", func := "steelyard/steelyardlaw05.SegmentTurned", spec := "segmentTurned", unfollowed := true, recurses := true, apart := false, narrowed := true }
def SegmentTurnedUptoSaid : Prop := segmentTurnedUptoRow.holds Try.pinned (OpenSpec.upto segmentTurnedSpec)

/-- 'steelyardlaw05.SegmentMoved', WHERE WHAT IT READS IS OF BULK AT MOST 1048576: true; the input reads as it did. -/
def segmentMovedUptoRow : OpenClaim := { program := "ytgbmamahkpkdfaa", sum := "04ee4d13601c5b74d89009439fa5acf897eb41b1c5d3d600e712a85bf0956d4d", func := "steelyard/steelyardlaw05.SegmentMoved", spec := "segmentMoved", unfollowed := true, recurses := true, apart := false, narrowed := true }
def SegmentMovedUptoSaid : Prop := segmentMovedUptoRow.holds Try.pinned (OpenSpec.upto segmentMovedSpec)

/-- 'steelyardlaw05.SegmentCut', WHERE WHAT IT READS IS OF BULK AT MOST 1048576: true; the input reads as it did. -/
def segmentCutUptoRow : OpenClaim := { program := "ytgbmamahkpkdfaa", sum := "04ee4d13601c5b74d89009439fa5acf897eb41b1c5d3d600e712a85bf0956d4d", func := "steelyard/steelyardlaw05.SegmentCut", spec := "segmentCut", unfollowed := true, recurses := true, apart := false, narrowed := true }
def SegmentCutUptoSaid : Prop := segmentCutUptoRow.holds Try.pinned (OpenSpec.upto segmentCutSpec)

/-- 'steelyardlaw05.SegmentProto', WHERE WHAT IT READS IS OF BULK AT MOST 1048576: true; the input reads as it did. -/
def segmentProtoUptoRow : OpenClaim := { program := "ytgbmamahkpkdfaa", sum := "04ee4d13601c5b74d89009439fa5acf897eb41b1c5d3d600e712a85bf0956d4d", func := "steelyard/steelyardlaw05.SegmentProto", spec := "segmentProto", unfollowed := true, recurses := true, apart := false, narrowed := true }
def SegmentProtoUptoSaid : Prop := segmentProtoUptoRow.holds Try.pinned (OpenSpec.upto segmentProtoSpec)

end Rows
end Go.Proofs.Ytgbmamahkpkdfaa
