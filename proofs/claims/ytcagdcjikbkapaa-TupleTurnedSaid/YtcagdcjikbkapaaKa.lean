/-
  Mathematics of segments: numbers read one behind the other; segments as words; sums.
-/
import Derived.Test.YtcagdcjikbkapaaJa
import Derived.Test.YtcagdcjikbkapaaJm
namespace Go.Proofs.Ytcagdcjikbkapaa
open Go.RowKit
set_option linter.unusedVariables false
set_option linter.unusedSimpArgs false

/-- numbers of so many bytes each, from the k-th byte on. -/
def numsAt (l : List UInt8) : List Nat → Nat → List (Nat × List UInt8)
  | [], _ => []
  | s :: t, k => (nmB l k s, []) :: numsAt l t (k + s)
def opsN (ss : List Nat) : List (Int × Int) := ss.map fun s : Nat => ((0 : Int), (s : Int))
theorem runS_nums (l : List UInt8) : ∀ (ss : List Nat) (k : Nat), (∀ s ∈ ss, 1 ≤ s ∧ s ≤ 8) → k ≤ l.length →
    (k + ss.sum ≤ l.length → runS l (opsN ss) k = (numsAt l ss k, k + ss.sum, 0)) ∧ (l.length < k + ss.sum → (runS l (opsN ss) k).2.2 = 10)
  | [], k, _, hk => ⟨fun _ => by simp [opsN, runS, numsAt], fun h => by simp at h; omega⟩
  | s :: t, k, hs, hk => by
    obtain ⟨h1, h8⟩ := hs s (List.mem_cons_self ..)
    have ih := runS_nums l t (k + s) (fun x hx => hs x (List.mem_cons_of_mem _ hx))
    simp only [opsN, List.map_cons, runS, List.sum_cons]
    by_cases hf : (s : Int) ≤ (l.length : Int) - k
    · have e : pieceS l k 0 (s : Int) = .got (numS ((l.drop k).take s)) [] s := by
        unfold pieceS
        rw [if_pos rfl, if_pos (by omega), if_pos hf]
        simp
      rw [e]
      obtain ⟨i1, i2⟩ := ih (by omega)
      refine ⟨fun h => ?_, fun h => ?_⟩
      · have := i1 (by omega)
        simp only [opsN] at this
        simp only [this, numsAt, nmB]
        rw [Nat.add_assoc]
      · have := i2 (by omega)
        simp only [opsN] at this
        exact this
    · have e : pieceS l k 0 (s : Int) = .gave 10 := by
        unfold pieceS
        rw [if_pos rfl, if_pos (by omega), if_neg hf]
      rw [e]
      exact ⟨fun h => by omega, fun _ => rfl⟩

/-- a segment: its numbers, and where its lists are. -/
structure Sg where
  p : Int
  a : Int
  b : Int
  q : Nat
  k : Nat
  f : Int
  wn : Int
  u : Int
  ns : Bool
  ao : Option Addr
  no : Nat
  co : Nat
  ad : Option Addr
  nd : Nat
  cd : Nat
def sgL (s : Sg) : List Value := [.int .i64 s.p, .int .i64 s.a, .int .i64 s.b, .int .u32 (s.q : Int), .int .u32 (s.k : Int), .int .i64 s.f, .int .i64 s.wn, .int .i64 s.u, .bool s.ns, .slice s.ao s.no s.co, .slice s.ad s.nd s.cd]
structure SgV (X : Array Value) (s : Sg) : Prop where
  eq : X = (sgL s).toArray
  hq : s.q < 4294967296
  hk : s.k < 4294967296
theorem SgV.size {X : Array Value} {s : Sg} (x : SgV X s) : X.size = 11 := by rw [x.eq]; rfl
theorem SgV.x0 {X : Array Value} {s : Sg} (x : SgV X s) : X.extract 0 11 = X := by rw [← x.size]; simp
theorem SgV.one {X : Array Value} {s : Sg} (x : SgV X s) : allOne X = true := by rw [x.eq]; kernel_rfl
structure SgC (w : World) (g : Nat) (s : Sg) : Prop where
  c0 : w.cell? ⟨g, 0, none⟩ = some (.int .i64 s.p)
  c1 : w.cell? ⟨g, 1, none⟩ = some (.int .i64 s.a)
  c2 : w.cell? ⟨g, 2, none⟩ = some (.int .i64 s.b)
  c3 : w.cell? ⟨g, 3, none⟩ = some (.int .u32 (s.q : Int))
  c4 : w.cell? ⟨g, 4, none⟩ = some (.int .u32 (s.k : Int))
  c5 : w.cell? ⟨g, 5, none⟩ = some (.int .i64 s.f)
  c6 : w.cell? ⟨g, 6, none⟩ = some (.int .i64 s.wn)
  c7 : w.cell? ⟨g, 7, none⟩ = some (.int .i64 s.u)
  c8 : w.cell? ⟨g, 8, none⟩ = some (.bool s.ns)
  c9 : w.cell? ⟨g, 9, none⟩ = some (.slice s.ao s.no s.co)
  c10 : w.cell? ⟨g, 10, none⟩ = some (.slice s.ad s.nd s.cd)
theorem SgV.cells {X : Array Value} {s : Sg} (x : SgV X s) {w : World} {g : Nat} {ty : TypeId} (hg : w.heap[g]? = some (.cells X ty (0, 0))) : SgC w g s := by
  have h : ∀ j, w.cell? ⟨g, j, none⟩ = X[j]? := fun j => cell_of_row w g j X ty (0, 0) hg
  refine ⟨?_, ?_, ?_, ?_, ?_, ?_, ?_, ?_, ?_, ?_, ?_⟩ <;> rw [h, x.eq] <;> rfl

/-- the sum of a segment's bytes within a packet, whatever stands in its place. -/
def sumV (h : Ip) (b : List UInt8) (at' : Nat) : Nat :=
  if 65535 - addS (addS (pseS { h with nd := b.length }) (b.take at')) (b.drop (at' + 2)) = 0 ∧ h.p = 17 then 65535 else 65535 - addS (addS (pseS { h with nd := b.length }) (b.take at')) (b.drop (at' + 2))
theorem sumV_le (h : Ip) (b : List UInt8) (k : Nat) : sumV h b k ≤ 65535 := by unfold sumV; split <;> omega
theorem pseS_le (h : Ip) : pseS h ≤ 65535 := by unfold pseS; exact addS_le _ _ (addS_le _ _ (addS_le _ _ (by omega)))
end Go.Proofs.Ytcagdcjikbkapaa
