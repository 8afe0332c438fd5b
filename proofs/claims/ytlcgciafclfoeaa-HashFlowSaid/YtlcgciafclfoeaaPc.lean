/-
  The walks of the Reader's pieces: num, take, skip, zero, rest. Each reads and stands behind what it read, or gives up by a panic and has moved nothing.
-/
import Derived.Test.YtlcgciafclfoeaaRd
namespace Go.Proofs.Ytlcgciafclfoeaa
open Go.RowKit
set_option maxRecDepth 100000

theorem Byt.row {w w' : World} {g : Nat} {A : Option Addr} {l : List UInt8} (hb : Byt w g A l) (hg : w.grownBy w' (some g)) : Byt w' g A l := fun hl => by
  obtain ⟨b, off, e, hlt, hc⟩ := hb hl
  refine ⟨b, off, e, hlt, fun i hi => ?_⟩
  exact hg.cell (hc i hi) (by simp; omega)
theorem grown_set (w : World) (g i : Nat) (u : Value) : w.grownBy (w.setCell ⟨g, i, none⟩ u) (some g) :=
  ⟨rfl, rfl, rfl, by simp, fun k _ hk => Below.heap_setCell w ⟨g, i, none⟩ u k (fun e => hk (by rw [e]))⟩
theorem grown_trans {a b c : World} {row : Option Nat} (h : a.grownBy b row) (k : b.grownBy c row) : a.grownBy c row :=
  ⟨k.os.trans h.os, k.tape.trans h.tape, k.output.trans h.output, Nat.le_trans h.size k.size, fun i hi hr => (k.block i (Nat.lt_of_lt_of_le hi h.size) hr).trans (h.block i hi hr)⟩
theorem grown_drewN {a b : World} {row : Option Nat} (h : a.grownBy b row) (n : Nat) : a.grownBy (b.drewN n) row := ⟨h.os, h.tape, h.output, h.size, h.block⟩
theorem grown_of_drewN {a b : World} {row : Option Nat} {n : Nat} (h : (a.drewN n).grownBy b row) : a.grownBy b row := ⟨h.os, h.tape, h.output, h.size, h.block⟩

/-- a number, its highest byte first. -/
def numS (l : List UInt8) : Nat := l.foldl (fun n x => n * 256 + x.toNat) 0
theorem numS_snoc (l : List UInt8) (x : UInt8) : numS (l ++ [x]) = numS l * 256 + x.toNat := by simp [numS]
theorem fold_lt (l : List UInt8) : ∀ a : Nat, l.foldl (fun n x => n * 256 + x.toNat) a < (a + 1) * 256 ^ l.length := by
  induction l with
  | nil => intro a; simp
  | cons x t ih =>
    intro a
    have hx := x.toNat_lt
    have h1 := ih (a * 256 + x.toNat)
    have h2 : (a * 256 + x.toNat + 1) * 256 ^ t.length ≤ ((a + 1) * 256) * 256 ^ t.length := Nat.mul_le_mul_right _ (by omega)
    rw [List.foldl_cons, List.length_cons, Nat.pow_succ, Nat.mul_comm (256 ^ t.length) 256, ← Nat.mul_assoc]
    omega
theorem numS_lt (l : List UInt8) : numS l < 256 ^ l.length := by
  have := fold_lt l 0
  rw [Nat.zero_add, Nat.one_mul] at this
  exact this
theorem or_num (N : Nat) (x : UInt8) (h : N < 256 ^ 7) : bits .or .u64 (IntKind.u64.wrap ((N : Int) * 256)) (x.toNat : Int) = ((N * 256 + x.toNat : Nat) : Int) := by
  have hx := x.toNat_lt
  have h7 : (256 : Nat) ^ 7 = 72057594037927936 := by decide
  rw [h7] at h
  rw [IntKind.wrap_u64]
  have e : ((N : Int) * 256 % 18446744073709551616) = ((N * 256 : Nat) : Int) := by omega
  rw [e]
  have h2 := u64_or_nat (N * 256) x.toNat (by omega) (by omega)
  rw [nat_join 8 _ _ (by omega) (by omega)] at h2
  exact h2

end Go.Proofs.Ytlcgciafclfoeaa
