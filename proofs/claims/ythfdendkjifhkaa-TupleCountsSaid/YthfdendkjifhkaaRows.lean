/-
  No cell of these rows narrows 'for every input' (looked for: loops, veiled, ifaces, maps, wideKeys, modest, calm, conditions, laid).
  DERIVED. THE GIVEN ROWS OF THIS SEAT. 10 by the template 'for every input the law returns true; each argument reads behind the call as it read before'; 0 by the template 'total and deterministic' (their statements: YthfdendkjifhkaaTotals.lean).
  GIVEN WITH THE SEED: the statements are not yours to turn. If you find one false, say at which input.
  Laid BY PROGRAM, IN A SANDBOX (cutbox-rows.mjs): the forced cells as the released guide's own fill.sh prints them over the translation af6fce1c9a8bf888… (all of the seat's roots in one cut). By AI agents, Wed Nov 11 2026. No macro, syntax, notation, axiom, sorry.
-/
import Derived.Test.YthfdendkjifhkaaChecked
import GoSem.Claim
import GoSem.ClaimJoined
import GoSem.ClaimMapViews
import Derived.JoinedTies
import Derived.KernelRfl
namespace Go.Proofs.Ythfdendkjifhkaa
/- THE CELL 'sum', in the pinned program and in every row, IS THE sha256 OF THE DUMP (.gsa) THAT YthfdendkjifhkaaProg.lean LOADS. Nothing in Lean hashes anything: it is a label: what it is worth is what the hold of that sum in a sandbox is worth. -/
noncomputable def Try.pinned : Pinned := { name := "ythfdendkjifhkaa", sum := "af6fce1c9a8bf88882e229dde654caed4261e5f7b623ce386b1532ac8bed7e6b", checked := Try.checked }
namespace Rows
def none {H : Type} : Left H := { results := [], args := [] }

/-- 'steelyardlaw05.SegmentPuts': WHATEVER THE INPUT: true; the input reads as it did. -/
def segmentPutsSpec : ChangeSpec := { name := "segmentPuts", fn := fun _ => fun
  | [d1, d2] => { results := [.lit (.bool true)], args := [d1, d2] }
  | _ => none }
def segmentPutsRow : OpenClaim := { program := "ythfdendkjifhkaa", sum := "af6fce1c9a8bf88882e229dde654caed4261e5f7b623ce386b1532ac8bed7e6b", func := "steelyard/steelyardlaw05.SegmentPuts", spec := "segmentPuts", unfollowed := true, recurses := true, apart := false }
def SegmentPutsSaid : Prop := segmentPutsRow.holds Try.pinned (OpenSpec.ofChange segmentPutsSpec)

/-- ITS FALSE NEIGHBOUR: 'it returns false'. Refute it at one input. -/
def segmentPutsWrong : ChangeSpec := { name := "segmentPuts", fn := fun _ => fun
  | [d1, d2] => { results := [.lit (.bool false)], args := [d1, d2] }
  | _ => none }
def SegmentPutsWrongFalsely : Prop := segmentPutsRow.holds Try.pinned (OpenSpec.ofChange segmentPutsWrong)

/-- 'steelyardlaw05.SegmentTurned': WHATEVER THE INPUT: true; the input reads as it did. -/
def segmentTurnedSpec : ChangeSpec := { name := "segmentTurned", fn := fun _ => fun
  | [d1, d2, d3] => { results := [.lit (.bool true)], args := [d1, d2, d3] }
  | _ => none }
def segmentTurnedRow : OpenClaim := { program := "ythfdendkjifhkaa", sum := "af6fce1c9a8bf88882e229dde654caed4261e5f7b623ce386b1532ac8bed7e6b", func := "steelyard/steelyardlaw05.SegmentTurned", spec := "segmentTurned", unfollowed := true, recurses := true, apart := false }
def SegmentTurnedSaid : Prop := segmentTurnedRow.holds Try.pinned (OpenSpec.ofChange segmentTurnedSpec)

/-- ITS FALSE NEIGHBOUR: 'it returns false'. Refute it at one input. -/
def segmentTurnedWrong : ChangeSpec := { name := "segmentTurned", fn := fun _ => fun
  | [d1, d2, d3] => { results := [.lit (.bool false)], args := [d1, d2, d3] }
  | _ => none }
def SegmentTurnedWrongFalsely : Prop := segmentTurnedRow.holds Try.pinned (OpenSpec.ofChange segmentTurnedWrong)

/-- 'steelyardlaw05.SegmentMoved': WHATEVER THE INPUT: true; the input reads as it did. -/
def segmentMovedSpec : ChangeSpec := { name := "segmentMoved", fn := fun _ => fun
  | [d1, d2, d3, d4] => { results := [.lit (.bool true)], args := [d1, d2, d3, d4] }
  | _ => none }
def segmentMovedRow : OpenClaim := { program := "ythfdendkjifhkaa", sum := "af6fce1c9a8bf88882e229dde654caed4261e5f7b623ce386b1532ac8bed7e6b", func := "steelyard/steelyardlaw05.SegmentMoved", spec := "segmentMoved", unfollowed := true, recurses := true, apart := false }
def SegmentMovedSaid : Prop := segmentMovedRow.holds Try.pinned (OpenSpec.ofChange segmentMovedSpec)

/-- ITS FALSE NEIGHBOUR: 'it returns false'. Refute it at one input. -/
def segmentMovedWrong : ChangeSpec := { name := "segmentMoved", fn := fun _ => fun
  | [d1, d2, d3, d4] => { results := [.lit (.bool false)], args := [d1, d2, d3, d4] }
  | _ => none }
def SegmentMovedWrongFalsely : Prop := segmentMovedRow.holds Try.pinned (OpenSpec.ofChange segmentMovedWrong)

/-- 'steelyardlaw05.SegmentCut': WHATEVER THE INPUT: true; the input reads as it did. -/
def segmentCutSpec : ChangeSpec := { name := "segmentCut", fn := fun _ => fun
  | [d1, d2, d3, d4] => { results := [.lit (.bool true)], args := [d1, d2, d3, d4] }
  | _ => none }
def segmentCutRow : OpenClaim := { program := "ythfdendkjifhkaa", sum := "af6fce1c9a8bf88882e229dde654caed4261e5f7b623ce386b1532ac8bed7e6b", func := "steelyard/steelyardlaw05.SegmentCut", spec := "segmentCut", unfollowed := true, recurses := true, apart := false }
def SegmentCutSaid : Prop := segmentCutRow.holds Try.pinned (OpenSpec.ofChange segmentCutSpec)

/-- ITS FALSE NEIGHBOUR: 'it returns false'. Refute it at one input. -/
def segmentCutWrong : ChangeSpec := { name := "segmentCut", fn := fun _ => fun
  | [d1, d2, d3, d4] => { results := [.lit (.bool false)], args := [d1, d2, d3, d4] }
  | _ => none }
def SegmentCutWrongFalsely : Prop := segmentCutRow.holds Try.pinned (OpenSpec.ofChange segmentCutWrong)

/-- 'steelyardlaw05.SegmentProto': WHATEVER THE INPUT: true; the input reads as it did. -/
def segmentProtoSpec : ChangeSpec := { name := "segmentProto", fn := fun _ => fun
  | [d1, d2] => { results := [.lit (.bool true)], args := [d1, d2] }
  | _ => none }
def segmentProtoRow : OpenClaim := { program := "ythfdendkjifhkaa", sum := "af6fce1c9a8bf88882e229dde654caed4261e5f7b623ce386b1532ac8bed7e6b", func := "steelyard/steelyardlaw05.SegmentProto", spec := "segmentProto", unfollowed := true, recurses := true, apart := false }
def SegmentProtoSaid : Prop := segmentProtoRow.holds Try.pinned (OpenSpec.ofChange segmentProtoSpec)

/-- ITS FALSE NEIGHBOUR: 'it returns false'. Refute it at one input. -/
def segmentProtoWrong : ChangeSpec := { name := "segmentProto", fn := fun _ => fun
  | [d1, d2] => { results := [.lit (.bool false)], args := [d1, d2] }
  | _ => none }
def SegmentProtoWrongFalsely : Prop := segmentProtoRow.holds Try.pinned (OpenSpec.ofChange segmentProtoWrong)

/-- 'steelyardlaw06.TupleOf': WHATEVER THE INPUT: true; the input reads as it did. -/
def tupleOfSpec : ChangeSpec := { name := "tupleOf", fn := fun _ => fun
  | [d] => { results := [.lit (.bool true)], args := [d] }
  | _ => none }
def tupleOfRow : OpenClaim := { program := "ythfdendkjifhkaa", sum := "af6fce1c9a8bf88882e229dde654caed4261e5f7b623ce386b1532ac8bed7e6b", func := "steelyard/steelyardlaw06.TupleOf", spec := "tupleOf", unfollowed := true, recurses := true, apart := false }
def TupleOfSaid : Prop := tupleOfRow.holds Try.pinned (OpenSpec.ofChange tupleOfSpec)

/-- ITS FALSE NEIGHBOUR: 'it returns false'. Refute it at one input. -/
def tupleOfWrong : ChangeSpec := { name := "tupleOf", fn := fun _ => fun
  | [d] => { results := [.lit (.bool false)], args := [d] }
  | _ => none }
def TupleOfWrongFalsely : Prop := tupleOfRow.holds Try.pinned (OpenSpec.ofChange tupleOfWrong)

/-- 'steelyardlaw06.TupleMakes': WHATEVER THE INPUT: true; the input reads as it did. -/
def tupleMakesSpec : ChangeSpec := { name := "tupleMakes", fn := fun _ => fun
  | [d1, d2, d3] => { results := [.lit (.bool true)], args := [d1, d2, d3] }
  | _ => none }
def tupleMakesRow : OpenClaim := { program := "ythfdendkjifhkaa", sum := "af6fce1c9a8bf88882e229dde654caed4261e5f7b623ce386b1532ac8bed7e6b", func := "steelyard/steelyardlaw06.TupleMakes", spec := "tupleMakes", unfollowed := true, recurses := true, apart := false }
def TupleMakesSaid : Prop := tupleMakesRow.holds Try.pinned (OpenSpec.ofChange tupleMakesSpec)

/-- ITS FALSE NEIGHBOUR: 'it returns false'. Refute it at one input. -/
def tupleMakesWrong : ChangeSpec := { name := "tupleMakes", fn := fun _ => fun
  | [d1, d2, d3] => { results := [.lit (.bool false)], args := [d1, d2, d3] }
  | _ => none }
def TupleMakesWrongFalsely : Prop := tupleMakesRow.holds Try.pinned (OpenSpec.ofChange tupleMakesWrong)

/-- 'steelyardlaw06.TupleCounts': WHATEVER THE INPUT: true; the input reads as it did. -/
def tupleCountsSpec : ChangeSpec := { name := "tupleCounts", fn := fun _ => fun
  | [d1, d2] => { results := [.lit (.bool true)], args := [d1, d2] }
  | _ => none }
def tupleCountsRow : OpenClaim := { program := "ythfdendkjifhkaa", sum := "af6fce1c9a8bf88882e229dde654caed4261e5f7b623ce386b1532ac8bed7e6b", func := "steelyard/steelyardlaw06.TupleCounts", spec := "tupleCounts", unfollowed := true, recurses := true, apart := false }
def TupleCountsSaid : Prop := tupleCountsRow.holds Try.pinned (OpenSpec.ofChange tupleCountsSpec)

/-- ITS FALSE NEIGHBOUR: 'it returns false'. Refute it at one input. -/
def tupleCountsWrong : ChangeSpec := { name := "tupleCounts", fn := fun _ => fun
  | [d1, d2] => { results := [.lit (.bool false)], args := [d1, d2] }
  | _ => none }
def TupleCountsWrongFalsely : Prop := tupleCountsRow.holds Try.pinned (OpenSpec.ofChange tupleCountsWrong)

/-- 'steelyardlaw06.TupleTwice': WHATEVER THE INPUT: true; the input reads as it did. -/
def tupleTwiceSpec : ChangeSpec := { name := "tupleTwice", fn := fun _ => fun
  | [d1, d2, d3, d4] => { results := [.lit (.bool true)], args := [d1, d2, d3, d4] }
  | _ => none }
def tupleTwiceRow : OpenClaim := { program := "ythfdendkjifhkaa", sum := "af6fce1c9a8bf88882e229dde654caed4261e5f7b623ce386b1532ac8bed7e6b", func := "steelyard/steelyardlaw06.TupleTwice", spec := "tupleTwice", unfollowed := true, recurses := true, apart := false }
def TupleTwiceSaid : Prop := tupleTwiceRow.holds Try.pinned (OpenSpec.ofChange tupleTwiceSpec)

/-- ITS FALSE NEIGHBOUR: 'it returns false'. Refute it at one input. -/
def tupleTwiceWrong : ChangeSpec := { name := "tupleTwice", fn := fun _ => fun
  | [d1, d2, d3, d4] => { results := [.lit (.bool false)], args := [d1, d2, d3, d4] }
  | _ => none }
def TupleTwiceWrongFalsely : Prop := tupleTwiceRow.holds Try.pinned (OpenSpec.ofChange tupleTwiceWrong)

/-- 'steelyardlaw06.TupleTurned': WHATEVER THE INPUT: true; the input reads as it did. -/
def tupleTurnedSpec : ChangeSpec := { name := "tupleTurned", fn := fun _ => fun
  | [d1, d2, d3, d4] => { results := [.lit (.bool true)], args := [d1, d2, d3, d4] }
  | _ => none }
def tupleTurnedRow : OpenClaim := { program := "ythfdendkjifhkaa", sum := "af6fce1c9a8bf88882e229dde654caed4261e5f7b623ce386b1532ac8bed7e6b", func := "steelyard/steelyardlaw06.TupleTurned", spec := "tupleTurned", unfollowed := true, recurses := true, apart := false }
def TupleTurnedSaid : Prop := tupleTurnedRow.holds Try.pinned (OpenSpec.ofChange tupleTurnedSpec)

/-- ITS FALSE NEIGHBOUR: 'it returns false'. Refute it at one input. -/
def tupleTurnedWrong : ChangeSpec := { name := "tupleTurned", fn := fun _ => fun
  | [d1, d2, d3, d4] => { results := [.lit (.bool false)], args := [d1, d2, d3, d4] }
  | _ => none }
def TupleTurnedWrongFalsely : Prop := tupleTurnedRow.holds Try.pinned (OpenSpec.ofChange tupleTurnedWrong)

/- THE SECOND FORM. 'bulk': how many values and letters a reading holds, each counted each time it is reached (what is shared counts as often as it is met; a slice's spare places count too). A statement '..UptoSaid' is the law's where the arguments, and the package variables that the reading takes, are together of bulk at most 1048576: NARROWER than '..Said'. Prove '..Said' where nothing that the law and all that it calls make is longer than what came in: it says more and counts as full. Else prove '..UptoSaid'. A law counts once. -/
mutual
def uptoBulk {H : Type} : DataW H → Nat
  | .lit (.string bytes) => bytes.length + 1
  | .lit _ => 1
  | .nil => 1
  | .ptr d => uptoBulk d + 1
  | .slice elems spare => uptoBulkAll elems + uptoBulkAll spare + 1
  | .agg parts => uptoBulkAll parts + 1
  | .iface _ d => uptoBulk d + 1
  | .map entries => uptoBulkEntries entries + 1
  | .held _ => 1
def uptoBulkAll {H : Type} : List (DataW H) → Nat
  | [] => 0
  | d :: r => uptoBulk d + uptoBulkAll r
def uptoBulkEntries {H : Type} : List (Lit × DataW H) → Nat
  | [] => 0
  | x :: r => uptoBulkEntry x + uptoBulkEntries r
def uptoBulkEntry {H : Type} : Lit × DataW H → Nat
  | (.string bytes, d) => bytes.length + uptoBulk d + 1
  | (_, d) => uptoBulk d + 1
 end
def uptoSmall : (H : Type) → List (DataW H) → Bool := fun _ ds => decide (uptoBulkAll ds ≤ 1048576)
def OpenSpec.upto (s : _root_.Go.ChangeSpec) : _root_.Go.OpenSpec := { _root_.Go.OpenSpec.ofChange s with cond := some uptoSmall }

/-- 'steelyardlaw05.SegmentPuts', WHERE WHAT IT READS IS OF BULK AT MOST 1048576: true; the input reads as it did. -/
def segmentPutsUptoRow : OpenClaim := { program := "ythfdendkjifhkaa", sum := "af6fce1c9a8bf88882e229dde654caed4261e5f7b623ce386b1532ac8bed7e6b", func := "steelyard/steelyardlaw05.SegmentPuts", spec := "segmentPuts", unfollowed := true, recurses := true, apart := false, narrowed := true }
def SegmentPutsUptoSaid : Prop := segmentPutsUptoRow.holds Try.pinned (OpenSpec.upto segmentPutsSpec)

/-- 'steelyardlaw05.SegmentTurned', WHERE WHAT IT READS IS OF BULK AT MOST 1048576: true; the input reads as it did. -/
def segmentTurnedUptoRow : OpenClaim := { program := "ythfdendkjifhkaa", sum := "af6fce1c9a8bf88882e229dde654caed4261e5f7b623ce386b1532ac8bed7e6b", func := "steelyard/steelyardlaw05.SegmentTurned", spec := "segmentTurned", unfollowed := true, recurses := true, apart := false, narrowed := true }
def SegmentTurnedUptoSaid : Prop := segmentTurnedUptoRow.holds Try.pinned (OpenSpec.upto segmentTurnedSpec)

/-- 'steelyardlaw05.SegmentMoved', WHERE WHAT IT READS IS OF BULK AT MOST 1048576: true; the input reads as it did. -/
def segmentMovedUptoRow : OpenClaim := { program := "ythfdendkjifhkaa", sum := "af6fce1c9a8bf88882e229dde654caed4261e5f7b623ce386b1532ac8bed7e6b", func := "steelyard/steelyardlaw05.SegmentMoved", spec := "segmentMoved", unfollowed := true, recurses := true, apart := false, narrowed := true }
def SegmentMovedUptoSaid : Prop := segmentMovedUptoRow.holds Try.pinned (OpenSpec.upto segmentMovedSpec)

/-- 'steelyardlaw05.SegmentCut', WHERE WHAT IT READS IS OF BULK AT MOST 1048576: true; the input reads as it did. -/
def segmentCutUptoRow : OpenClaim := { program := "ythfdendkjifhkaa", sum := "af6fce1c9a8bf88882e229dde654caed4261e5f7b623ce386b1532ac8bed7e6b", func := "steelyard/steelyardlaw05.SegmentCut", spec := "segmentCut", unfollowed := true, recurses := true, apart := false, narrowed := true }
def SegmentCutUptoSaid : Prop := segmentCutUptoRow.holds Try.pinned (OpenSpec.upto segmentCutSpec)

/-- 'steelyardlaw05.SegmentProto', WHERE WHAT IT READS IS OF BULK AT MOST 1048576: true; the input reads as it did. -/
def segmentProtoUptoRow : OpenClaim := { program := "ythfdendkjifhkaa", sum := "af6fce1c9a8bf88882e229dde654caed4261e5f7b623ce386b1532ac8bed7e6b", func := "steelyard/steelyardlaw05.SegmentProto", spec := "segmentProto", unfollowed := true, recurses := true, apart := false, narrowed := true }
def SegmentProtoUptoSaid : Prop := segmentProtoUptoRow.holds Try.pinned (OpenSpec.upto segmentProtoSpec)

/-- 'steelyardlaw06.TupleOf', WHERE WHAT IT READS IS OF BULK AT MOST 1048576: true; the input reads as it did. -/
def tupleOfUptoRow : OpenClaim := { program := "ythfdendkjifhkaa", sum := "af6fce1c9a8bf88882e229dde654caed4261e5f7b623ce386b1532ac8bed7e6b", func := "steelyard/steelyardlaw06.TupleOf", spec := "tupleOf", unfollowed := true, recurses := true, apart := false, narrowed := true }
def TupleOfUptoSaid : Prop := tupleOfUptoRow.holds Try.pinned (OpenSpec.upto tupleOfSpec)

/-- 'steelyardlaw06.TupleMakes', WHERE WHAT IT READS IS OF BULK AT MOST 1048576: true; the input reads as it did. -/
def tupleMakesUptoRow : OpenClaim := { program := "ythfdendkjifhkaa", sum := "af6fce1c9a8bf88882e229dde654caed4261e5f7b623ce386b1532ac8bed7e6b", func := "steelyard/steelyardlaw06.TupleMakes", spec := "tupleMakes", unfollowed := true, recurses := true, apart := false, narrowed := true }
def TupleMakesUptoSaid : Prop := tupleMakesUptoRow.holds Try.pinned (OpenSpec.upto tupleMakesSpec)

/-- 'steelyardlaw06.TupleCounts', WHERE WHAT IT READS IS OF BULK AT MOST 1048576: true; the input reads as it did. -/
def tupleCountsUptoRow : OpenClaim := { program := "ythfdendkjifhkaa", sum := "af6fce1c9a8bf88882e229dde654caed4261e5f7b623ce386b1532ac8bed7e6b", func := "steelyard/steelyardlaw06.TupleCounts", spec := "tupleCounts", unfollowed := true, recurses := true, apart := false, narrowed := true }
def TupleCountsUptoSaid : Prop := tupleCountsUptoRow.holds Try.pinned (OpenSpec.upto tupleCountsSpec)

/-- 'steelyardlaw06.TupleTwice', WHERE WHAT IT READS IS OF BULK AT MOST 1048576: true; the input reads as it did. -/
def tupleTwiceUptoRow : OpenClaim := { program := "ythfdendkjifhkaa", sum := "af6fce1c9a8bf88882e229dde654caed4261e5f7b623ce386b1532ac8bed7e6b", func := "steelyard/steelyardlaw06.TupleTwice", spec := "tupleTwice", unfollowed := true, recurses := true, apart := false, narrowed := true }
def TupleTwiceUptoSaid : Prop := tupleTwiceUptoRow.holds Try.pinned (OpenSpec.upto tupleTwiceSpec)

/-- 'steelyardlaw06.TupleTurned', WHERE WHAT IT READS IS OF BULK AT MOST 1048576: true; the input reads as it did. -/
def tupleTurnedUptoRow : OpenClaim := { program := "ythfdendkjifhkaa", sum := "af6fce1c9a8bf88882e229dde654caed4261e5f7b623ce386b1532ac8bed7e6b", func := "steelyard/steelyardlaw06.TupleTurned", spec := "tupleTurned", unfollowed := true, recurses := true, apart := false, narrowed := true }
def TupleTurnedUptoSaid : Prop := tupleTurnedUptoRow.holds Try.pinned (OpenSpec.upto tupleTurnedSpec)

end Rows
end Go.Proofs.Ythfdendkjifhkaa
