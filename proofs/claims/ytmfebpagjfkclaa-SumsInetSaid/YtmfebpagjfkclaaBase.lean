/-
  Words for memory: a slice that reads as a list of bytes; what is kept over draws, new blocks and stores elsewhere. Nothing here speaks of one function.
-/
import Derived.Test.YtmfebpagjfkclaaProg
import Derived.WalkKit
import Derived.Lib.Hide
import Derived.BigQuiet
import Derived.Deep.QuietTactic
import Derived.Deep.Draws
import Derived.IntWalk
import Derived.Outline
namespace Go.Proofs.Ytmfebpagjfkclaa
open Go.RowKit

theorem hide {p : Prop} (h : p) : Hid p := h
theorem unhide {p : Prop} (h : Hid p) : p := h

theorem ret_int {k : IntKind} {a b : Int} (h : a = b) : Ending.returned (.int k a) = .returned (.int k b) := by rw [h]

theorem block_of_add (a : Addr) (n : Nat) : (a.add n).block = a.block := by unfold Addr.add; split <;> rfl
theorem add_none (b o i : Nat) : (⟨b, o, none⟩ : Addr).add i = ⟨b, o + i, none⟩ := by
  unfold Addr.add
  by_cases h : i = 0 <;> simp [h]

/-- the slice that begins at A reads, in world w and below block B, as the bytes l. -/
def Byt (w : World) (B : Nat) (A : Option Addr) (l : List UInt8) : Prop :=
  0 < l.length → ∃ b off, A = some ⟨b, off, none⟩ ∧ b < B ∧ ∀ i (h : i < l.length), w.cell? ⟨b, off + i, none⟩ = some (.int .u8 (l[i].toNat : Int))

theorem Byt.nil (w : World) (B : Nat) (A : Option Addr) : Byt w B A [] := fun h => absurd h (by simp)
theorem Byt.keep {w w' : World} {B : Nat} {A : Option Addr} {l : List UInt8} (h : Byt w B A l) (hk : ∀ p : Addr, p.block < B → w'.cell? p = w.cell? p) : Byt w' B A l := fun hl => by
  obtain ⟨b, off, e, hb, hc⟩ := h hl
  exact ⟨b, off, e, hb, fun i hi => (hk _ hb).trans (hc i hi)⟩
theorem Byt.more {w : World} {B B' : Nat} {A : Option Addr} {l : List UInt8} (h : Byt w B A l) (hB : B ≤ B') : Byt w B' A l := fun hl => by
  obtain ⟨b, off, e, hb, hc⟩ := h hl
  exact ⟨b, off, e, by omega, hc⟩
theorem Byt.below {w w' : World} {B : Nat} {A : Option Addr} {l : List UInt8} (h : Byt w B A l) (hb : Below B w w') : Byt w' B A l := h.keep fun _ hp => hb.cell hp
theorem Byt.drewN {w : World} {B : Nat} {A : Option Addr} {l : List UInt8} (h : Byt w B A l) (k : Nat) : Byt (w.drewN k) B A l := h
theorem Byt.drew {w : World} {B : Nat} {A : Option Addr} {l : List UInt8} (h : Byt w B A l) : Byt w.drew B A l := h
/-- the slice less its first k bytes. -/
theorem Byt.cut {w : World} {B : Nat} {b off : Nat} {l : List UInt8} (h : Byt w B (some ⟨b, off, none⟩) l) (k : Nat) : Byt w B (some ⟨b, off + k, none⟩) (l.drop k) := fun hl => by
  simp at hl
  obtain ⟨b', off', e, hb, hc⟩ := h (by omega)
  simp only [Option.some.injEq, Addr.mk.injEq, and_true] at e
  obtain ⟨rfl, rfl⟩ := e
  refine ⟨_, _, rfl, hb, fun i hi => ?_⟩
  simp at hi
  have := hc (k + i) (by omega)
  rw [List.getElem_drop, Nat.add_assoc]
  exact this
end Go.Proofs.Ytmfebpagjfkclaa
