/-
  No cell of these rows narrows 'for every input' (looked for: loops, veiled, ifaces, maps, wideKeys, modest, calm, conditions, laid).
  DERIVED. THE GIVEN ROWS OF THIS SEAT. 7 by the template 'for every input the law returns true; each argument reads behind the call as it read before'; 0 by the template 'total and deterministic' (their statements: YtjppmalcaogpiaaTotals.lean).
  GIVEN WITH THE SEED: the statements are not yours to turn. If you find one false, say at which input.
  Laid BY PROGRAM, IN A SANDBOX (cutbox-rows.mjs): the forced cells as the released guide's own fill.sh prints them over the translation 93b66ff74247d3a5… (all of the seat's roots in one cut). By AI agents, Wed Nov 11 2026. No macro, syntax, notation, axiom, sorry.
-/
import Derived.Test.YtjppmalcaogpiaaChecked
import GoSem.Claim
import GoSem.ClaimJoined
import GoSem.ClaimMapViews
import Derived.JoinedTies
import Derived.KernelRfl
namespace Go.Proofs.Ytjppmalcaogpiaa
/- THE CELL 'sum', in the pinned program and in every row, IS THE sha256 OF THE DUMP (.gsa) THAT YtjppmalcaogpiaaProg.lean LOADS. Nothing in Lean hashes anything: it is a label: what it is worth is what the hold of that sum in a sandbox is worth. -/
noncomputable def Try.pinned : Pinned := { name := "ytjppmalcaogpiaa", sum := "93b66ff74247d3a5849939f08cc01a602247c48c90885bed6a456d3719183624", checked := Try.checked }
namespace Rows
def none {H : Type} : Left H := { results := [], args := [] }

/-- 'steelyardlaw08.WeightClean': WHATEVER THE INPUT: true; the input reads as it did. -/
def weightCleanSpec : ChangeSpec := { name := "weightClean", fn := fun _ => fun
  | [d1, d2] => { results := [.lit (.bool true)], args := [d1, d2] }
  | _ => none }
def weightCleanRow : OpenClaim := { program := "ytjppmalcaogpiaa", sum := "93b66ff74247d3a5849939f08cc01a602247c48c90885bed6a456d3719183624", func := "steelyard/steelyardlaw08.WeightClean", spec := "weightClean", inPlace := ["math.Float64bits", "math.Float64frombits"], apart := false }
def WeightCleanSaid : Prop := weightCleanRow.holds Try.pinned (OpenSpec.ofChange weightCleanSpec)

/-- ITS FALSE NEIGHBOUR: 'it returns false'. Refute it at one input. -/
def weightCleanWrong : ChangeSpec := { name := "weightClean", fn := fun _ => fun
  | [d1, d2] => { results := [.lit (.bool false)], args := [d1, d2] }
  | _ => none }
def WeightCleanWrongFalsely : Prop := weightCleanRow.holds Try.pinned (OpenSpec.ofChange weightCleanWrong)

/-- 'steelyardlaw08.WeightOrder': WHATEVER THE INPUT: true; the input reads as it did. -/
def weightOrderSpec : ChangeSpec := { name := "weightOrder", fn := fun _ => fun
  | [d1, d2, d3] => { results := [.lit (.bool true)], args := [d1, d2, d3] }
  | _ => none }
def weightOrderRow : OpenClaim := { program := "ytjppmalcaogpiaa", sum := "93b66ff74247d3a5849939f08cc01a602247c48c90885bed6a456d3719183624", func := "steelyard/steelyardlaw08.WeightOrder", spec := "weightOrder", inPlace := ["math.Float64bits", "math.Float64frombits"], apart := false }
def WeightOrderSaid : Prop := weightOrderRow.holds Try.pinned (OpenSpec.ofChange weightOrderSpec)

/-- ITS FALSE NEIGHBOUR: 'it returns false'. Refute it at one input. -/
def weightOrderWrong : ChangeSpec := { name := "weightOrder", fn := fun _ => fun
  | [d1, d2, d3] => { results := [.lit (.bool false)], args := [d1, d2, d3] }
  | _ => none }
def WeightOrderWrongFalsely : Prop := weightOrderRow.holds Try.pinned (OpenSpec.ofChange weightOrderWrong)

/-- 'steelyardlaw08.WeightLists': WHATEVER THE INPUT: true; the input reads as it did. -/
def weightListsSpec : ChangeSpec := { name := "weightLists", fn := fun _ => fun
  | [d] => { results := [.lit (.bool true)], args := [d] }
  | _ => none }
def weightListsRow : OpenClaim := { program := "ytjppmalcaogpiaa", sum := "93b66ff74247d3a5849939f08cc01a602247c48c90885bed6a456d3719183624", func := "steelyard/steelyardlaw08.WeightLists", spec := "weightLists", inPlace := ["math.Float64bits", "math.Float64frombits"], apart := false }
def WeightListsSaid : Prop := weightListsRow.holds Try.pinned (OpenSpec.ofChange weightListsSpec)

/-- ITS FALSE NEIGHBOUR: 'it returns false'. Refute it at one input. -/
def weightListsWrong : ChangeSpec := { name := "weightLists", fn := fun _ => fun
  | [d] => { results := [.lit (.bool false)], args := [d] }
  | _ => none }
def WeightListsWrongFalsely : Prop := weightListsRow.holds Try.pinned (OpenSpec.ofChange weightListsWrong)

/-- 'steelyardlaw08.WeightTurns': WHATEVER THE INPUT: true; the input reads as it did. -/
def weightTurnsSpec : ChangeSpec := { name := "weightTurns", fn := fun _ => fun
  | [d1, d2] => { results := [.lit (.bool true)], args := [d1, d2] }
  | _ => none }
def weightTurnsRow : OpenClaim := { program := "ytjppmalcaogpiaa", sum := "93b66ff74247d3a5849939f08cc01a602247c48c90885bed6a456d3719183624", func := "steelyard/steelyardlaw08.WeightTurns", spec := "weightTurns", inPlace := ["math.Float64bits", "math.Float64frombits"], apart := false }
def WeightTurnsSaid : Prop := weightTurnsRow.holds Try.pinned (OpenSpec.ofChange weightTurnsSpec)

/-- ITS FALSE NEIGHBOUR: 'it returns false'. Refute it at one input. -/
def weightTurnsWrong : ChangeSpec := { name := "weightTurns", fn := fun _ => fun
  | [d1, d2] => { results := [.lit (.bool false)], args := [d1, d2] }
  | _ => none }
def WeightTurnsWrongFalsely : Prop := weightTurnsRow.holds Try.pinned (OpenSpec.ofChange weightTurnsWrong)

/-- 'steelyardlaw08.WeightFair': WHATEVER THE INPUT: true; the input reads as it did. -/
def weightFairSpec : ChangeSpec := { name := "weightFair", fn := fun _ => fun
  | [d1, d2, d3, d4] => { results := [.lit (.bool true)], args := [d1, d2, d3, d4] }
  | _ => none }
def weightFairRow : OpenClaim := { program := "ytjppmalcaogpiaa", sum := "93b66ff74247d3a5849939f08cc01a602247c48c90885bed6a456d3719183624", func := "steelyard/steelyardlaw08.WeightFair", spec := "weightFair", inPlace := ["math.Float64bits", "math.Float64frombits"], apart := false }
def WeightFairSaid : Prop := weightFairRow.holds Try.pinned (OpenSpec.ofChange weightFairSpec)

/-- ITS FALSE NEIGHBOUR: 'it returns false'. Refute it at one input. -/
def weightFairWrong : ChangeSpec := { name := "weightFair", fn := fun _ => fun
  | [d1, d2, d3, d4] => { results := [.lit (.bool false)], args := [d1, d2, d3, d4] }
  | _ => none }
def WeightFairWrongFalsely : Prop := weightFairRow.holds Try.pinned (OpenSpec.ofChange weightFairWrong)

/-- 'steelyardlaw08.WeightGrows': WHATEVER THE INPUT: true; the input reads as it did. -/
def weightGrowsSpec : ChangeSpec := { name := "weightGrows", fn := fun _ => fun
  | [d1, d2, d3, d4] => { results := [.lit (.bool true)], args := [d1, d2, d3, d4] }
  | _ => none }
def weightGrowsRow : OpenClaim := { program := "ytjppmalcaogpiaa", sum := "93b66ff74247d3a5849939f08cc01a602247c48c90885bed6a456d3719183624", func := "steelyard/steelyardlaw08.WeightGrows", spec := "weightGrows", inPlace := ["math.Float64bits", "math.Float64frombits"], apart := false }
def WeightGrowsSaid : Prop := weightGrowsRow.holds Try.pinned (OpenSpec.ofChange weightGrowsSpec)

/-- ITS FALSE NEIGHBOUR: 'it returns false'. Refute it at one input. -/
def weightGrowsWrong : ChangeSpec := { name := "weightGrows", fn := fun _ => fun
  | [d1, d2, d3, d4] => { results := [.lit (.bool false)], args := [d1, d2, d3, d4] }
  | _ => none }
def WeightGrowsWrongFalsely : Prop := weightGrowsRow.holds Try.pinned (OpenSpec.ofChange weightGrowsWrong)

/-- 'steelyardlaw08.WeightFirst': WHATEVER THE INPUT: true; the input reads as it did. -/
def weightFirstSpec : ChangeSpec := { name := "weightFirst", fn := fun _ => fun
  | [d1, d2, d3] => { results := [.lit (.bool true)], args := [d1, d2, d3] }
  | _ => none }
def weightFirstRow : OpenClaim := { program := "ytjppmalcaogpiaa", sum := "93b66ff74247d3a5849939f08cc01a602247c48c90885bed6a456d3719183624", func := "steelyard/steelyardlaw08.WeightFirst", spec := "weightFirst", inPlace := ["math.Float64bits", "math.Float64frombits"], apart := false }
def WeightFirstSaid : Prop := weightFirstRow.holds Try.pinned (OpenSpec.ofChange weightFirstSpec)

/-- ITS FALSE NEIGHBOUR: 'it returns false'. Refute it at one input. -/
def weightFirstWrong : ChangeSpec := { name := "weightFirst", fn := fun _ => fun
  | [d1, d2, d3] => { results := [.lit (.bool false)], args := [d1, d2, d3] }
  | _ => none }
def WeightFirstWrongFalsely : Prop := weightFirstRow.holds Try.pinned (OpenSpec.ofChange weightFirstWrong)

/- THE SECOND FORM. 'bulk': how many values and letters a reading holds, each counted each time it is reached (what is shared counts as often as it is met; a slice's spare places count too). A statement '..UptoSaid' is the law's where the arguments, and the package variables that the reading takes, are together of bulk at most 1048576: NARROWER than '..Said'. Prove '..Said' where nothing that the law and all that it calls make is longer than what came in: it says more and counts as full. Else prove '..UptoSaid'. A law counts once. -/
mutual
def uptoBulk {H : Type} : DataW H → Nat
  | .lit (.string bytes) => bytes.length + 1
  | .lit _ => 1
  | .nil => 1
  | .ptr d => uptoBulk d + 1
  | .slice elems spare => uptoBulkAll elems + uptoBulkAll spare + 1
  | .agg parts => uptoBulkAll parts + 1
  | .iface _ d => uptoBulk d + 1
  | .map entries => uptoBulkEntries entries + 1
  | .held _ => 1
def uptoBulkAll {H : Type} : List (DataW H) → Nat
  | [] => 0
  | d :: r => uptoBulk d + uptoBulkAll r
def uptoBulkEntries {H : Type} : List (Lit × DataW H) → Nat
  | [] => 0
  | x :: r => uptoBulkEntry x + uptoBulkEntries r
def uptoBulkEntry {H : Type} : Lit × DataW H → Nat
  | (.string bytes, d) => bytes.length + uptoBulk d + 1
  | (_, d) => uptoBulk d + 1
 end
def uptoSmall : (H : Type) → List (DataW H) → Bool := fun _ ds => decide (uptoBulkAll ds ≤ 1048576)
def OpenSpec.upto (s : _root_.Go.ChangeSpec) : _root_.Go.OpenSpec := { _root_.Go.OpenSpec.ofChange s with cond := some uptoSmall }

/-- 'steelyardlaw08.WeightClean', WHERE WHAT IT READS IS OF BULK AT MOST 1048576: true; the input reads as it did. -/
def weightCleanUptoRow : OpenClaim := { program := "ytjppmalcaogpiaa", sum := "93b66ff74247d3a5849939f08cc01a602247c48c90885bed6a456d3719183624", func := "steelyard/steelyardlaw08.WeightClean", spec := "weightClean", inPlace := ["math.Float64bits", "math.Float64frombits"], apart := false, narrowed := true }
def WeightCleanUptoSaid : Prop := weightCleanUptoRow.holds Try.pinned (OpenSpec.upto weightCleanSpec)

/-- 'steelyardlaw08.WeightOrder', WHERE WHAT IT READS IS OF BULK AT MOST 1048576: true; the input reads as it did. -/
def weightOrderUptoRow : OpenClaim := { program := "ytjppmalcaogpiaa", sum := "93b66ff74247d3a5849939f08cc01a602247c48c90885bed6a456d3719183624", func := "steelyard/steelyardlaw08.WeightOrder", spec := "weightOrder", inPlace := ["math.Float64bits", "math.Float64frombits"], apart := false, narrowed := true }
def WeightOrderUptoSaid : Prop := weightOrderUptoRow.holds Try.pinned (OpenSpec.upto weightOrderSpec)

/-- 'steelyardlaw08.WeightLists', WHERE WHAT IT READS IS OF BULK AT MOST 1048576: true; the input reads as it did. -/
def weightListsUptoRow : OpenClaim := { program := "ytjppmalcaogpiaa", sum := "93b66ff74247d3a5849939f08cc01a602247c48c90885bed6a456d3719183624", func := "steelyard/steelyardlaw08.WeightLists", spec := "weightLists", inPlace := ["math.Float64bits", "math.Float64frombits"], apart := false, narrowed := true }
def WeightListsUptoSaid : Prop := weightListsUptoRow.holds Try.pinned (OpenSpec.upto weightListsSpec)

/-- 'steelyardlaw08.WeightTurns', WHERE WHAT IT READS IS OF BULK AT MOST 1048576: true; the input reads as it did. -/
def weightTurnsUptoRow : OpenClaim := { program := "ytjppmalcaogpiaa", sum := "93b66ff74247d3a5849939f08cc01a602247c48c90885bed6a456d3719183624", func := "steelyard/steelyardlaw08.WeightTurns", spec := "weightTurns", inPlace := ["math.Float64bits", "math.Float64frombits"], apart := false, narrowed := true }
def WeightTurnsUptoSaid : Prop := weightTurnsUptoRow.holds Try.pinned (OpenSpec.upto weightTurnsSpec)

/-- 'steelyardlaw08.WeightFair', WHERE WHAT IT READS IS OF BULK AT MOST 1048576: true; the input reads as it did. -/
def weightFairUptoRow : OpenClaim := { program := "ytjppmalcaogpiaa", sum := "93b66ff74247d3a5849939f08cc01a602247c48c90885bed6a456d3719183624", func := "steelyard/steelyardlaw08.WeightFair", spec := "weightFair", inPlace := ["math.Float64bits", "math.Float64frombits"], apart := false, narrowed := true }
def WeightFairUptoSaid : Prop := weightFairUptoRow.holds Try.pinned (OpenSpec.upto weightFairSpec)

/-- 'steelyardlaw08.WeightGrows', WHERE WHAT IT READS IS OF BULK AT MOST 1048576: true; the input reads as it did. -/
def weightGrowsUptoRow : OpenClaim := { program := "ytjppmalcaogpiaa", sum := "93b66ff74247d3a5849939f08cc01a602247c48c90885bed6a456d3719183624", func := "steelyard/steelyardlaw08.WeightGrows", spec := "weightGrows", inPlace := ["math.Float64bits", "math.Float64frombits"], apart := false, narrowed := true }
def WeightGrowsUptoSaid : Prop := weightGrowsUptoRow.holds Try.pinned (OpenSpec.upto weightGrowsSpec)

/-- 'steelyardlaw08.WeightFirst', WHERE WHAT IT READS IS OF BULK AT MOST 1048576: true; the input reads as it did. -/
def weightFirstUptoRow : OpenClaim := { program := "ytjppmalcaogpiaa", sum := "93b66ff74247d3a5849939f08cc01a602247c48c90885bed6a456d3719183624", func := "steelyard/steelyardlaw08.WeightFirst", spec := "weightFirst", inPlace := ["math.Float64bits", "math.Float64frombits"], apart := false, narrowed := true }
def WeightFirstUptoSaid : Prop := weightFirstUptoRow.holds Try.pinned (OpenSpec.upto weightFirstSpec)

end Rows
end Go.Proofs.Ytjppmalcaogpiaa
