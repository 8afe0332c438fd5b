/-
  No cell of these rows narrows 'for every input' (looked for: loops, veiled, ifaces, maps, wideKeys, modest, calm, conditions, laid).
  DERIVED. THE GIVEN ROWS OF THIS SEAT. 7 by the template 'for every input the law returns true; each argument reads behind the call as it read before'; 0 by the template 'total and deterministic' (their statements: YtmbddengmheeeaaTotals.lean).
  GIVEN WITH THE SEED: the statements are not yours to turn. If you find one false, say at which input.
  Laid BY PROGRAM, IN A SANDBOX (cutbox-rows.mjs): the forced cells as the released guide's own fill.sh prints them over the translation 8c069d064dfc8d87… (all of the seat's roots in one cut). By AI agents, Wed Nov 11 2026. No macro, syntax, notation, axiom, sorry.
-/
import Derived.Test.YtmbddengmheeeaaChecked
import GoSem.Claim
import GoSem.ClaimJoined
import GoSem.ClaimMapViews
import Derived.JoinedTies
import Derived.KernelRfl
namespace Go.Proofs.Ytmbddengmheeeaa
/- THE CELL 'sum', in the pinned program and in every row, IS THE sha256 OF THE DUMP (.gsa) THAT YtmbddengmheeeaaProg.lean LOADS. Nothing in Lean hashes anything: it is a label: what it is worth is what the hold of that sum in a sandbox is worth. -/
noncomputable def Try.pinned : Pinned := { name := "ytmbddengmheeeaa", sum := "8c069d064dfc8d8726468e3278023e79308f89338ef052eb14377a4e84501fb3", checked := Try.checked }
namespace Rows
def none {H : Type} : Left H := { results := [], args := [] }

/-- 'steelyardlaw12.LifeGrows': WHATEVER THE INPUT: true; the input reads as it did. -/
def lifeGrowsSpec : ChangeSpec := { name := "lifeGrows", fn := fun _ => fun
  | [d1, d2, d3] => { results := [.lit (.bool true)], args := [d1, d2, d3] }
  | _ => none }
def lifeGrowsRow : OpenClaim := { program := "ytmbddengmheeeaa", sum := "8c069d064dfc8d8726468e3278023e79308f89338ef052eb14377a4e84501fb3", func := "steelyard/steelyardlaw12.LifeGrows", spec := "lifeGrows", inPlace := ["math.Float64bits", "math.Float64frombits", "internal/bytealg.Compare"], unfollowed := true, recurses := true, apart := false }
def LifeGrowsSaid : Prop := lifeGrowsRow.holds Try.pinned (OpenSpec.ofChange lifeGrowsSpec)

/-- ITS FALSE NEIGHBOUR: 'it returns false'. Refute it at one input. -/
def lifeGrowsWrong : ChangeSpec := { name := "lifeGrows", fn := fun _ => fun
  | [d1, d2, d3] => { results := [.lit (.bool false)], args := [d1, d2, d3] }
  | _ => none }
def LifeGrowsWrongFalsely : Prop := lifeGrowsRow.holds Try.pinned (OpenSpec.ofChange lifeGrowsWrong)

/-- 'steelyardlaw12.LifeTells': WHATEVER THE INPUT: true; the input reads as it did. -/
def lifeTellsSpec : ChangeSpec := { name := "lifeTells", fn := fun _ => fun
  | [d1, d2, d3, d4] => { results := [.lit (.bool true)], args := [d1, d2, d3, d4] }
  | _ => none }
def lifeTellsRow : OpenClaim := { program := "ytmbddengmheeeaa", sum := "8c069d064dfc8d8726468e3278023e79308f89338ef052eb14377a4e84501fb3", func := "steelyard/steelyardlaw12.LifeTells", spec := "lifeTells", inPlace := ["math.Float64bits", "math.Float64frombits", "internal/bytealg.Compare"], unfollowed := true, recurses := true, apart := false }
def LifeTellsSaid : Prop := lifeTellsRow.holds Try.pinned (OpenSpec.ofChange lifeTellsSpec)

/-- ITS FALSE NEIGHBOUR: 'it returns false'. Refute it at one input. -/
def lifeTellsWrong : ChangeSpec := { name := "lifeTells", fn := fun _ => fun
  | [d1, d2, d3, d4] => { results := [.lit (.bool false)], args := [d1, d2, d3, d4] }
  | _ => none }
def LifeTellsWrongFalsely : Prop := lifeTellsRow.holds Try.pinned (OpenSpec.ofChange lifeTellsWrong)

/-- 'steelyardlaw12.LifeVotes': WHATEVER THE INPUT: true; the input reads as it did. -/
def lifeVotesSpec : ChangeSpec := { name := "lifeVotes", fn := fun _ => fun
  | [d1, d2, d3, d4] => { results := [.lit (.bool true)], args := [d1, d2, d3, d4] }
  | _ => none }
def lifeVotesRow : OpenClaim := { program := "ytmbddengmheeeaa", sum := "8c069d064dfc8d8726468e3278023e79308f89338ef052eb14377a4e84501fb3", func := "steelyard/steelyardlaw12.LifeVotes", spec := "lifeVotes", inPlace := ["math.Float64bits", "math.Float64frombits", "internal/bytealg.Compare"], unfollowed := true, recurses := true, apart := false }
def LifeVotesSaid : Prop := lifeVotesRow.holds Try.pinned (OpenSpec.ofChange lifeVotesSpec)

/-- ITS FALSE NEIGHBOUR: 'it returns false'. Refute it at one input. -/
def lifeVotesWrong : ChangeSpec := { name := "lifeVotes", fn := fun _ => fun
  | [d1, d2, d3, d4] => { results := [.lit (.bool false)], args := [d1, d2, d3, d4] }
  | _ => none }
def LifeVotesWrongFalsely : Prop := lifeVotesRow.holds Try.pinned (OpenSpec.ofChange lifeVotesWrong)

/-- 'steelyardlaw12.LifeEach': WHATEVER THE INPUT: true; the input reads as it did. -/
def lifeEachSpec : ChangeSpec := { name := "lifeEach", fn := fun _ => fun
  | [d1, d2, d3] => { results := [.lit (.bool true)], args := [d1, d2, d3] }
  | _ => none }
def lifeEachRow : OpenClaim := { program := "ytmbddengmheeeaa", sum := "8c069d064dfc8d8726468e3278023e79308f89338ef052eb14377a4e84501fb3", func := "steelyard/steelyardlaw12.LifeEach", spec := "lifeEach", inPlace := ["math.Float64bits", "math.Float64frombits", "internal/bytealg.Compare"], unfollowed := true, recurses := true, apart := false }
def LifeEachSaid : Prop := lifeEachRow.holds Try.pinned (OpenSpec.ofChange lifeEachSpec)

/-- ITS FALSE NEIGHBOUR: 'it returns false'. Refute it at one input. -/
def lifeEachWrong : ChangeSpec := { name := "lifeEach", fn := fun _ => fun
  | [d1, d2, d3] => { results := [.lit (.bool false)], args := [d1, d2, d3] }
  | _ => none }
def LifeEachWrongFalsely : Prop := lifeEachRow.holds Try.pinned (OpenSpec.ofChange lifeEachWrong)

/-- 'steelyardlaw13.PoolGrows': WHATEVER THE INPUT: true; the input reads as it did. -/
def poolGrowsSpec : ChangeSpec := { name := "poolGrows", fn := fun _ => fun
  | [d1, d2] => { results := [.lit (.bool true)], args := [d1, d2] }
  | _ => none }
def poolGrowsRow : OpenClaim := { program := "ytmbddengmheeeaa", sum := "8c069d064dfc8d8726468e3278023e79308f89338ef052eb14377a4e84501fb3", func := "steelyard/steelyardlaw13.PoolGrows", spec := "poolGrows", inPlace := ["math.Float64bits", "math.Float64frombits", "internal/bytealg.Compare"], unfollowed := true, recurses := true, apart := false }
def PoolGrowsSaid : Prop := poolGrowsRow.holds Try.pinned (OpenSpec.ofChange poolGrowsSpec)

/-- ITS FALSE NEIGHBOUR: 'it returns false'. Refute it at one input. -/
def poolGrowsWrong : ChangeSpec := { name := "poolGrows", fn := fun _ => fun
  | [d1, d2] => { results := [.lit (.bool false)], args := [d1, d2] }
  | _ => none }
def PoolGrowsWrongFalsely : Prop := poolGrowsRow.holds Try.pinned (OpenSpec.ofChange poolGrowsWrong)

/-- 'steelyardlaw13.PoolMeets': WHATEVER THE INPUT: true; the input reads as it did. -/
def poolMeetsSpec : ChangeSpec := { name := "poolMeets", fn := fun _ => fun
  | [d1, d2] => { results := [.lit (.bool true)], args := [d1, d2] }
  | _ => none }
def poolMeetsRow : OpenClaim := { program := "ytmbddengmheeeaa", sum := "8c069d064dfc8d8726468e3278023e79308f89338ef052eb14377a4e84501fb3", func := "steelyard/steelyardlaw13.PoolMeets", spec := "poolMeets", inPlace := ["math.Float64bits", "math.Float64frombits", "internal/bytealg.Compare"], unfollowed := true, recurses := true, apart := false }
def PoolMeetsSaid : Prop := poolMeetsRow.holds Try.pinned (OpenSpec.ofChange poolMeetsSpec)

/-- ITS FALSE NEIGHBOUR: 'it returns false'. Refute it at one input. -/
def poolMeetsWrong : ChangeSpec := { name := "poolMeets", fn := fun _ => fun
  | [d1, d2] => { results := [.lit (.bool false)], args := [d1, d2] }
  | _ => none }
def PoolMeetsWrongFalsely : Prop := poolMeetsRow.holds Try.pinned (OpenSpec.ofChange poolMeetsWrong)

/-- 'steelyardlaw13.PoolSafe': WHATEVER THE INPUT: true; the input reads as it did. -/
def poolSafeSpec : ChangeSpec := { name := "poolSafe", fn := fun _ => fun
  | [d1, d2] => { results := [.lit (.bool true)], args := [d1, d2] }
  | _ => none }
def poolSafeRow : OpenClaim := { program := "ytmbddengmheeeaa", sum := "8c069d064dfc8d8726468e3278023e79308f89338ef052eb14377a4e84501fb3", func := "steelyard/steelyardlaw13.PoolSafe", spec := "poolSafe", inPlace := ["math.Float64bits", "math.Float64frombits", "internal/bytealg.Compare"], unfollowed := true, recurses := true, apart := false }
def PoolSafeSaid : Prop := poolSafeRow.holds Try.pinned (OpenSpec.ofChange poolSafeSpec)

/-- ITS FALSE NEIGHBOUR: 'it returns false'. Refute it at one input. -/
def poolSafeWrong : ChangeSpec := { name := "poolSafe", fn := fun _ => fun
  | [d1, d2] => { results := [.lit (.bool false)], args := [d1, d2] }
  | _ => none }
def PoolSafeWrongFalsely : Prop := poolSafeRow.holds Try.pinned (OpenSpec.ofChange poolSafeWrong)

/- THE SECOND FORM. 'bulk': how many values and letters a reading holds, each counted each time it is reached (what is shared counts as often as it is met; a slice's spare places count too). A statement '..UptoSaid' is the law's where the arguments, and the package variables that the reading takes, are together of bulk at most 1048576: NARROWER than '..Said'. Prove '..Said' where nothing that the law and all that it calls make is longer than what came in: it says more and counts as full. Else prove '..UptoSaid'. A law counts once. -/
mutual
def uptoBulk {H : Type} : DataW H → Nat
  | .lit (.string bytes) => bytes.length + 1
  | .lit _ => 1
  | .nil => 1
  | .ptr d => uptoBulk d + 1
  | .slice elems spare => uptoBulkAll elems + uptoBulkAll spare + 1
  | .agg parts => uptoBulkAll parts + 1
  | .iface _ d => uptoBulk d + 1
  | .map entries => uptoBulkEntries entries + 1
  | .held _ => 1
def uptoBulkAll {H : Type} : List (DataW H) → Nat
  | [] => 0
  | d :: r => uptoBulk d + uptoBulkAll r
def uptoBulkEntries {H : Type} : List (Lit × DataW H) → Nat
  | [] => 0
  | x :: r => uptoBulkEntry x + uptoBulkEntries r
def uptoBulkEntry {H : Type} : Lit × DataW H → Nat
  | (.string bytes, d) => bytes.length + uptoBulk d + 1
  | (_, d) => uptoBulk d + 1
 end
def uptoSmall : (H : Type) → List (DataW H) → Bool := fun _ ds => decide (uptoBulkAll ds ≤ 1048576)
def OpenSpec.upto (s : _root_.Go.ChangeSpec) : _root_.Go.OpenSpec := { _root_.Go.OpenSpec.ofChange s with cond := some uptoSmall }

/-- 'steelyardlaw12.LifeGrows', WHERE WHAT IT READS IS OF BULK AT MOST 1048576: true; the input reads as it did. -/
def lifeGrowsUptoRow : OpenClaim := { program := "ytmbddengmheeeaa", sum := "8c069d064dfc8d8726468e3278023e79308f89338ef052eb14377a4e84501fb3", func := "steelyard/steelyardlaw12.LifeGrows", spec := "lifeGrows", inPlace := ["math.Float64bits", "math.Float64frombits", "internal/bytealg.Compare"], unfollowed := true, recurses := true, apart := false, narrowed := true }
def LifeGrowsUptoSaid : Prop := lifeGrowsUptoRow.holds Try.pinned (OpenSpec.upto lifeGrowsSpec)

/-- 'steelyardlaw12.LifeTells', WHERE WHAT IT READS IS OF BULK AT MOST 1048576: true; the input reads as it did. -/
def lifeTellsUptoRow : OpenClaim := { program := "ytmbddengmheeeaa", sum := "8c069d064dfc8d8726468e3278023e79308f89338ef052eb14377a4e84501fb3", func := "steelyard/steelyardlaw12.LifeTells", spec := "lifeTells", inPlace := ["math.Float64bits", "math.Float64frombits", "internal/bytealg.Compare"], unfollowed := true, recurses := true, apart := false, narrowed := true }
def LifeTellsUptoSaid : Prop := lifeTellsUptoRow.holds Try.pinned (OpenSpec.upto lifeTellsSpec)

/-- 'steelyardlaw12.LifeVotes', WHERE WHAT IT READS IS OF BULK AT MOST 1048576: true; the input reads as it did. -/
def lifeVotesUptoRow : OpenClaim := { program := "ytmbddengmheeeaa", sum := "8c069d064dfc8d8726468e3278023e79308f89338ef052eb14377a4e84501fb3", func := "steelyard/steelyardlaw12.LifeVotes", spec := "lifeVotes", inPlace := ["math.Float64bits", "math.Float64frombits", "internal/bytealg.Compare"], unfollowed := true, recurses := true, apart := false, narrowed := true }
def LifeVotesUptoSaid : Prop := lifeVotesUptoRow.holds Try.pinned (OpenSpec.upto lifeVotesSpec)

/-- 'steelyardlaw12.LifeEach', WHERE WHAT IT READS IS OF BULK AT MOST 1048576: true; the input reads as it did. -/
def lifeEachUptoRow : OpenClaim := { program := "ytmbddengmheeeaa", sum := "8c069d064dfc8d8726468e3278023e79308f89338ef052eb14377a4e84501fb3", func := "steelyard/steelyardlaw12.LifeEach", spec := "lifeEach", inPlace := ["math.Float64bits", "math.Float64frombits", "internal/bytealg.Compare"], unfollowed := true, recurses := true, apart := false, narrowed := true }
def LifeEachUptoSaid : Prop := lifeEachUptoRow.holds Try.pinned (OpenSpec.upto lifeEachSpec)

/-- 'steelyardlaw13.PoolGrows', WHERE WHAT IT READS IS OF BULK AT MOST 1048576: true; the input reads as it did. -/
def poolGrowsUptoRow : OpenClaim := { program := "ytmbddengmheeeaa", sum := "8c069d064dfc8d8726468e3278023e79308f89338ef052eb14377a4e84501fb3", func := "steelyard/steelyardlaw13.PoolGrows", spec := "poolGrows", inPlace := ["math.Float64bits", "math.Float64frombits", "internal/bytealg.Compare"], unfollowed := true, recurses := true, apart := false, narrowed := true }
def PoolGrowsUptoSaid : Prop := poolGrowsUptoRow.holds Try.pinned (OpenSpec.upto poolGrowsSpec)

/-- 'steelyardlaw13.PoolMeets', WHERE WHAT IT READS IS OF BULK AT MOST 1048576: true; the input reads as it did. -/
def poolMeetsUptoRow : OpenClaim := { program := "ytmbddengmheeeaa", sum := "8c069d064dfc8d8726468e3278023e79308f89338ef052eb14377a4e84501fb3", func := "steelyard/steelyardlaw13.PoolMeets", spec := "poolMeets", inPlace := ["math.Float64bits", "math.Float64frombits", "internal/bytealg.Compare"], unfollowed := true, recurses := true, apart := false, narrowed := true }
def PoolMeetsUptoSaid : Prop := poolMeetsUptoRow.holds Try.pinned (OpenSpec.upto poolMeetsSpec)

/-- 'steelyardlaw13.PoolSafe', WHERE WHAT IT READS IS OF BULK AT MOST 1048576: true; the input reads as it did. -/
def poolSafeUptoRow : OpenClaim := { program := "ytmbddengmheeeaa", sum := "8c069d064dfc8d8726468e3278023e79308f89338ef052eb14377a4e84501fb3", func := "steelyard/steelyardlaw13.PoolSafe", spec := "poolSafe", inPlace := ["math.Float64bits", "math.Float64frombits", "internal/bytealg.Compare"], unfollowed := true, recurses := true, apart := false, narrowed := true }
def PoolSafeUptoSaid : Prop := poolSafeUptoRow.holds Try.pinned (OpenSpec.upto poolSafeSpec)

end Rows
end Go.Proofs.Ytmbddengmheeeaa
