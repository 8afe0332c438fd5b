/-
  What a layout of pieces that fit lays, whole.
-/
import Derived.Test.YtdlilokmfekndaaGnd
namespace Go.Proofs.Ytdlilokmfekndaa
open Go.RowKit
set_option linter.unusedVariables false
set_option linter.unusedSimpArgs false

def zputG (z : (Nat × List UInt8) × (Int × Int)) : List UInt8 := putS z.1.1 z.1.2 z.2.1 z.2.2
/-- pieces that fit are laid one behind the other, or it is too large. -/
theorem layS_ok (zs : List ((Nat × List UInt8) × (Int × Int))) : ∀ (b : List UInt8), b.length ≤ 65535 → (∀ z ∈ zs, fitsS z.1.1 z.1.2.length z.2.1 z.2.2 = true) →
    layS zs b = if b.length + (zs.flatMap zputG).length ≤ 65535 then (b ++ zs.flatMap zputG, 0) else ([], 3) := by
  induction zs with
  | nil => intro b hb _; simp [layS]; omega
  | cons z t ih =>
    intro b hb hf
    obtain ⟨⟨N, vb⟩, kd, sz⟩ := z
    have h1 := hf _ (List.mem_cons_self ..)
    dsimp only at h1
    have hl := length_putS h1
    have hft := fun z hz => hf z (List.mem_cons_of_mem _ hz)
    have hm : (List.flatMap zputG (((N, vb), (kd, sz)) :: t)) = putS N vb kd sz ++ t.flatMap zputG := rfl
    rw [hm, List.length_append]
    unfold layS
    rw [if_pos h1, ← hl]
    by_cases hle : (b.length : Int) + ((putS N vb kd sz).length : Int) ≤ 65535
    · rw [if_pos hle, ih (b ++ putS N vb kd sz) (by rw [List.length_append]; omega) hft, List.length_append, List.append_assoc, Nat.add_assoc]
    · rw [if_neg hle, if_neg (by omega)]
theorem layR_ok (vs : List (Nat × List UInt8)) (ops : List (Int × Int)) (h4 : ops.length ≤ 4096) (hl : vs.length = ops.length) (hf : ∀ z ∈ vs.zip ops, fitsS z.1.1 z.1.2.length z.2.1 z.2.2 = true) :
    layR vs ops = if ((vs.zip ops).flatMap zputG).length ≤ 65535 then ((vs.zip ops).flatMap zputG, 0) else ([], 3) := by
  unfold layR
  rw [if_neg (by omega), if_neg (by simp [hl]), layS_ok _ [] (by simp) hf]
  simp
end Go.Proofs.Ytdlilokmfekndaa
