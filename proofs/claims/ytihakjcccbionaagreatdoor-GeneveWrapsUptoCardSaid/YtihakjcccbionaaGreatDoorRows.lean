/-
  NARROWER THAN 'FOR EVERY INPUT', by the rows' own cells (each row's printed sentence says how): GeneveWraps: laid.
  DERIVED. THE GIVEN ROWS OF THIS SEAT. 1 by the template 'for every input the law returns true; each argument reads behind the call as it read before'; 0 by the template 'total and deterministic' (their statements: YtihakjcccbionaaGreatDoorTotals.lean).
  GIVEN WITH THE SEED: the statements are not yours to turn. If you find one false, say at which input.
  Laid BY PROGRAM, IN A SANDBOX (cutbox-rows.mjs): the forced cells as the released guide's own fill.sh prints them over the translation efdf5aadf2dc73eb… (all of the seat's roots in one cut). By AI agents, Wed Nov 11 2026. No macro, syntax, notation, axiom, sorry.
-/
import Derived.Test.YtihakjcccbionaaGreatDoorChecked
import GoSem.Claim
import GoSem.ClaimJoined
import GoSem.ClaimMapViews
import Derived.JoinedTies
import Derived.KernelRfl
namespace Go.Proofs.YtihakjcccbionaaGreatDoor
/- THE CELL 'sum', in the pinned program and in every row, IS THE sha256 OF THE DUMP (.gsa) THAT YtihakjcccbionaaGreatDoorProg.lean LOADS. Nothing in Lean hashes anything: it is a label: what it is worth is what the hold of that sum in a sandbox is worth. -/
noncomputable def Tryz.pinned : Pinned := { name := "ytihakjcccbionaagreatdoor", sum := "efdf5aadf2dc73eb61714bb0278ea5b36d312d7b8e6c176c8081ed705c224591", checked := Tryz.checked }
namespace Rows
def none {H : Type} : Left H := { results := [], args := [] }

/- WHAT THE LISTED PACKAGE-LEVEL VARIABLES READ AS WHEN THE CALL BEGINS. Each datum BY PROGRAM (the guide's laid-datum.mjs) off the statement by which the dump's own 'gosem.cut.vars' lays the variable. In a bare row this is a premise. The card (YtihakjcccbionaaGreatDoorCards.lean) ties it to the program's text. -/
def laid_steelyard_geneve_kinds {H : Type} : DataW H := .agg [.lit (.int .i64 0), .lit (.int .i64 0), .lit (.int .i64 0), .lit (.int .i64 0), .lit (.int .i64 2048), .lit (.int .i64 0), .lit (.int .i64 34525), .lit (.int .i64 0), .lit (.int .i64 0), .lit (.int .i64 0), .lit (.int .i64 0), .lit (.int .i64 0), .lit (.int .i64 0), .lit (.int .i64 0), .lit (.int .i64 0), .lit (.int .i64 0)]

/-- 'steelyardlaw07.GeneveWraps': WHATEVER THE INPUT: true; the input reads as it did. -/
def geneveWrapsSpec : ChangeSpec := { name := "geneveWraps", fn := fun _ => fun
  | [d1, d2] => { results := [.lit (.bool true)], args := [d1, d2] }
  | _ => none }
def geneveWrapsRow : OpenClaim := { program := "ytihakjcccbionaagreatdoor", sum := "efdf5aadf2dc73eb61714bb0278ea5b36d312d7b8e6c176c8081ed705c224591", func := "steelyard/steelyardlaw07.GeneveWraps", spec := "geneveWraps", unfollowed := true, recurses := true, named := ["steelyard/geneve.kinds"], apart := false, laid := [("steelyard/geneve.kinds", laid_steelyard_geneve_kinds)] }
def GeneveWrapsSaid : Prop := geneveWrapsRow.holds Tryz.pinned (OpenSpec.ofChange geneveWrapsSpec)

/-- ITS FALSE NEIGHBOUR: 'it returns false'. Refute it at one input. -/
def geneveWrapsWrong : ChangeSpec := { name := "geneveWraps", fn := fun _ => fun
  | [d1, d2] => { results := [.lit (.bool false)], args := [d1, d2] }
  | _ => none }
def GeneveWrapsWrongFalsely : Prop := geneveWrapsRow.holds Tryz.pinned (OpenSpec.ofChange geneveWrapsWrong)

/- THE SECOND FORM. 'bulk': how many values and letters a reading holds, each counted each time it is reached (what is shared counts as often as it is met; a slice's spare places count too). A statement '..UptoSaid' is the law's where the arguments, and the package variables that the reading takes, are together of bulk at most 1048576: NARROWER than '..Said'. Prove '..Said' where nothing that the law and all that it calls make is longer than what came in: it says more and counts as full. Else prove '..UptoSaid'. A law counts once. -/
mutual
def uptoBulk {H : Type} : DataW H → Nat
  | .lit (.string bytes) => bytes.length + 1
  | .lit _ => 1
  | .nil => 1
  | .ptr d => uptoBulk d + 1
  | .slice elems spare => uptoBulkAll elems + uptoBulkAll spare + 1
  | .agg parts => uptoBulkAll parts + 1
  | .iface _ d => uptoBulk d + 1
  | .map entries => uptoBulkEntries entries + 1
  | .held _ => 1
def uptoBulkAll {H : Type} : List (DataW H) → Nat
  | [] => 0
  | d :: r => uptoBulk d + uptoBulkAll r
def uptoBulkEntries {H : Type} : List (Lit × DataW H) → Nat
  | [] => 0
  | x :: r => uptoBulkEntry x + uptoBulkEntries r
def uptoBulkEntry {H : Type} : Lit × DataW H → Nat
  | (.string bytes, d) => bytes.length + uptoBulk d + 1
  | (_, d) => uptoBulk d + 1
 end
def uptoSmall : (H : Type) → List (DataW H) → Bool := fun _ ds => decide (uptoBulkAll ds ≤ 1048576)
def OpenSpec.upto (s : _root_.Go.ChangeSpec) : _root_.Go.OpenSpec := { _root_.Go.OpenSpec.ofChange s with cond := some uptoSmall }

/-- 'steelyardlaw07.GeneveWraps', WHERE WHAT IT READS IS OF BULK AT MOST 1048576: true; the input reads as it did. -/
def geneveWrapsUptoRow : OpenClaim := { program := "ytihakjcccbionaagreatdoor", sum := "efdf5aadf2dc73eb61714bb0278ea5b36d312d7b8e6c176c8081ed705c224591", func := "steelyard/steelyardlaw07.GeneveWraps", spec := "geneveWraps", unfollowed := true, recurses := true, named := ["steelyard/geneve.kinds"], apart := false, laid := [("steelyard/geneve.kinds", laid_steelyard_geneve_kinds)], narrowed := true }
def GeneveWrapsUptoSaid : Prop := geneveWrapsUptoRow.holds Tryz.pinned (OpenSpec.upto geneveWrapsSpec)

end Rows
end Go.Proofs.YtihakjcccbionaaGreatDoor
