/-
  No cell of these rows narrows 'for every input' (looked for: loops, veiled, ifaces, maps, wideKeys, modest, calm, conditions, laid).
  DERIVED. THE GIVEN ROWS OF THIS SEAT. 4 by the template 'for every input the law returns true; each argument reads behind the call as it read before'; 0 by the template 'total and deterministic' (their statements: YtcfckhdohcaffaaTotals.lean).
  GIVEN WITH THE SEED: the statements are not yours to turn. If you find one false, say at which input.
  Laid BY PROGRAM, IN A SANDBOX (cutbox-rows.mjs): the forced cells as the released guide's own fill.sh prints them over the translation 723a0423c190becb… (all of the seat's roots in one cut). By AI agents, Wed Nov 11 2026. No macro, syntax, notation, axiom, sorry.
-/
import Derived.Test.YtcfckhdohcaffaaChecked
import GoSem.Claim
import GoSem.ClaimJoined
import GoSem.ClaimMapViews
import Derived.JoinedTies
import Derived.KernelRfl
namespace Go.Proofs.Ytcfckhdohcaffaa
/- THE CELL 'sum', in the pinned program and in every row, IS THE sha256 OF THE DUMP (.gsa) THAT YtcfckhdohcaffaaProg.lean LOADS. Nothing in Lean hashes anything: it is a label: what it is worth is what the hold of that sum in a sandbox is worth. -/
noncomputable def Try.pinned : Pinned := { name := "ytcfckhdohcaffaa", sum := "723a0423c190becb0aab3e7d8f8d1ace883977c790b24e0e5b9af0ba713cd6b5", checked := Try.checked }
namespace Rows
def none {H : Type} : Left H := { results := [], args := [] }

/-- 'steelyardlaw05.SegmentPuts': WHATEVER THE INPUT: true; the input reads as it did. -/
def segmentPutsSpec : ChangeSpec := { name := "segmentPuts", fn := fun _ => fun
  | [d1, d2] => { results := [.lit (.bool true)], args := [d1, d2] }
  | _ => none }
def segmentPutsRow : OpenClaim := { program := "ytcfckhdohcaffaa", sum := "723a0423c190becb0aab3e7d8f8d1ace883977c790b24e0e5b9af0ba713cd6b5", func := "steelyard/steelyardlaw05.SegmentPuts", spec := "segmentPuts", unfollowed := true, recurses := true, apart := false }
def SegmentPutsSaid : Prop := segmentPutsRow.holds Try.pinned (OpenSpec.ofChange segmentPutsSpec)

/-- ITS FALSE NEIGHBOUR: 'it returns false'. Refute it at one input. -/
def segmentPutsWrong : ChangeSpec := { name := "segmentPuts", fn := fun _ => fun
  | [d1, d2] => { results := [.lit (.bool false)], args := [d1, d2] }
  | _ => none }
def SegmentPutsWrongFalsely : Prop := segmentPutsRow.holds Try.pinned (OpenSpec.ofChange segmentPutsWrong)

/-- 'steelyardlaw05.SegmentCut': WHATEVER THE INPUT: true; the input reads as it did. -/
def segmentCutSpec : ChangeSpec := { name := "segmentCut", fn := fun _ => fun
  | [d1, d2, d3, d4] => { results := [.lit (.bool true)], args := [d1, d2, d3, d4] }
  | _ => none }
def segmentCutRow : OpenClaim := { program := "ytcfckhdohcaffaa", sum := "723a0423c190becb0aab3e7d8f8d1ace883977c790b24e0e5b9af0ba713cd6b5", func := "steelyard/steelyardlaw05.SegmentCut", spec := "segmentCut", unfollowed := true, recurses := true, apart := false }
def SegmentCutSaid : Prop := segmentCutRow.holds Try.pinned (OpenSpec.ofChange segmentCutSpec)

/-- ITS FALSE NEIGHBOUR: 'it returns false'. Refute it at one input. -/
def segmentCutWrong : ChangeSpec := { name := "segmentCut", fn := fun _ => fun
  | [d1, d2, d3, d4] => { results := [.lit (.bool false)], args := [d1, d2, d3, d4] }
  | _ => none }
def SegmentCutWrongFalsely : Prop := segmentCutRow.holds Try.pinned (OpenSpec.ofChange segmentCutWrong)

/-- 'steelyardlaw06.TupleOf': WHATEVER THE INPUT: true; the input reads as it did. -/
def tupleOfSpec : ChangeSpec := { name := "tupleOf", fn := fun _ => fun
  | [d] => { results := [.lit (.bool true)], args := [d] }
  | _ => none }
def tupleOfRow : OpenClaim := { program := "ytcfckhdohcaffaa", sum := "723a0423c190becb0aab3e7d8f8d1ace883977c790b24e0e5b9af0ba713cd6b5", func := "steelyard/steelyardlaw06.TupleOf", spec := "tupleOf", unfollowed := true, recurses := true, apart := false }
def TupleOfSaid : Prop := tupleOfRow.holds Try.pinned (OpenSpec.ofChange tupleOfSpec)

/-- ITS FALSE NEIGHBOUR: 'it returns false'. Refute it at one input. -/
def tupleOfWrong : ChangeSpec := { name := "tupleOf", fn := fun _ => fun
  | [d] => { results := [.lit (.bool false)], args := [d] }
  | _ => none }
def TupleOfWrongFalsely : Prop := tupleOfRow.holds Try.pinned (OpenSpec.ofChange tupleOfWrong)

/-- 'steelyardlaw06.TupleMakes': WHATEVER THE INPUT: true; the input reads as it did. -/
def tupleMakesSpec : ChangeSpec := { name := "tupleMakes", fn := fun _ => fun
  | [d1, d2, d3] => { results := [.lit (.bool true)], args := [d1, d2, d3] }
  | _ => none }
def tupleMakesRow : OpenClaim := { program := "ytcfckhdohcaffaa", sum := "723a0423c190becb0aab3e7d8f8d1ace883977c790b24e0e5b9af0ba713cd6b5", func := "steelyard/steelyardlaw06.TupleMakes", spec := "tupleMakes", unfollowed := true, recurses := true, apart := false }
def TupleMakesSaid : Prop := tupleMakesRow.holds Try.pinned (OpenSpec.ofChange tupleMakesSpec)

/-- ITS FALSE NEIGHBOUR: 'it returns false'. Refute it at one input. -/
def tupleMakesWrong : ChangeSpec := { name := "tupleMakes", fn := fun _ => fun
  | [d1, d2, d3] => { results := [.lit (.bool false)], args := [d1, d2, d3] }
  | _ => none }
def TupleMakesWrongFalsely : Prop := tupleMakesRow.holds Try.pinned (OpenSpec.ofChange tupleMakesWrong)

/- THE SECOND FORM. 'bulk': how many values and letters a reading holds, each counted each time it is reached (what is shared counts as often as it is met; a slice's spare places count too). A statement '..UptoSaid' is the law's where the arguments, and the package variables that the reading takes, are together of bulk at most 1048576: NARROWER than '..Said'. Prove '..Said' where nothing that the law and all that it calls make is longer than what came in: it says more and counts as full. Else prove '..UptoSaid'. A law counts once. -/
mutual
def uptoBulk {H : Type} : DataW H → Nat
  | .lit (.string bytes) => bytes.length + 1
  | .lit _ => 1
  | .nil => 1
  | .ptr d => uptoBulk d + 1
  | .slice elems spare => uptoBulkAll elems + uptoBulkAll spare + 1
  | .agg parts => uptoBulkAll parts + 1
  | .iface _ d => uptoBulk d + 1
  | .map entries => uptoBulkEntries entries + 1
  | .held _ => 1
def uptoBulkAll {H : Type} : List (DataW H) → Nat
  | [] => 0
  | d :: r => uptoBulk d + uptoBulkAll r
def uptoBulkEntries {H : Type} : List (Lit × DataW H) → Nat
  | [] => 0
  | x :: r => uptoBulkEntry x + uptoBulkEntries r
def uptoBulkEntry {H : Type} : Lit × DataW H → Nat
  | (.string bytes, d) => bytes.length + uptoBulk d + 1
  | (_, d) => uptoBulk d + 1
 end
def uptoSmall : (H : Type) → List (DataW H) → Bool := fun _ ds => decide (uptoBulkAll ds ≤ 1048576)
def OpenSpec.upto (s : _root_.Go.ChangeSpec) : _root_.Go.OpenSpec := { _root_.Go.OpenSpec.ofChange s with cond := some uptoSmall }

/-- 'steelyardlaw05.SegmentPuts', WHERE WHAT IT READS IS OF BULK AT MOST 1048576: true; the input reads as it did. -/
def segmentPutsUptoRow : OpenClaim := { program := "ytcfckhdohcaffaa", sum := "723a0423c190becb0aab3e7d8f8d1ace883977c790b24e0e5b9af0ba713cd6b5", func := "steelyard/steelyardlaw05.SegmentPuts", spec := "segmentPuts", unfollowed := true, recurses := true, apart := false, narrowed := true }
def SegmentPutsUptoSaid : Prop := segmentPutsUptoRow.holds Try.pinned (OpenSpec.upto segmentPutsSpec)

/-- 'steelyardlaw05.SegmentCut', WHERE WHAT IT READS IS OF BULK AT MOST 1048576: true; the input reads as it did. -/
def segmentCutUptoRow : OpenClaim := { program := "ytcfckhdohcaffaa", sum := "723a0423c190becb0aab3e7d8f8d1ace883977c790b24e0e5b9af0ba713cd6b5", func := "steelyard/steelyardlaw05.SegmentCut", spec := "segmentCut", unfollowed := true, recurses := true, apart := false, narrowed := true }
def SegmentCutUptoSaid : Prop := segmentCutUptoRow.holds Try.pinned (OpenSpec.upto segmentCutSpec)

/-- 'steelyardlaw06.TupleOf', WHERE WHAT IT READS IS OF BULK AT MOST 1048576: true; the input reads as it did. -/
def tupleOfUptoRow : OpenClaim := { program := "ytcfckhdohcaffaa", sum := "723a0423c190becb0aab3e7d8f8d1ace883977c790b24e0e5b9af0ba713cd6b5", func := "steelyard/steelyardlaw06.TupleOf", spec := "tupleOf", unfollowed := true, recurses := true, apart := false, narrowed := true }
def TupleOfUptoSaid : Prop := tupleOfUptoRow.holds Try.pinned (OpenSpec.upto tupleOfSpec)

/-- 'steelyardlaw06.TupleMakes', WHERE WHAT IT READS IS OF BULK AT MOST 1048576: true; the input reads as it did. -/
def tupleMakesUptoRow : OpenClaim := { program := "ytcfckhdohcaffaa", sum := "723a0423c190becb0aab3e7d8f8d1ace883977c790b24e0e5b9af0ba713cd6b5", func := "steelyard/steelyardlaw06.TupleMakes", spec := "tupleMakes", unfollowed := true, recurses := true, apart := false, narrowed := true }
def TupleMakesUptoSaid : Prop := tupleMakesUptoRow.holds Try.pinned (OpenSpec.upto tupleMakesSpec)

end Rows
end Go.Proofs.Ytcfckhdohcaffaa
