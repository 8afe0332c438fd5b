/-
  Plain mathematics of two lists that are laid one behind the other.
-/
import Derived.Test.YtmhoedbhfaocjaaCut
namespace Go.Proofs.Ytmhoedbhfaocjaa

/-- what is laid behind b0 is b0 and what is laid behind nothing, as long as there is room. -/
theorem layS_behind : ∀ (zs : List ((Nat × List UInt8) × (Int × Int))) (b0 c b : List UInt8), layS zs c = (b, 0) → b0.length + b.length ≤ 65535 → layS zs (b0 ++ c) = (b0 ++ b, 0)
  | [], b0, c, b, h, _ => by rw [layS] at h ⊢; injection h with h _; rw [h]
  | ((N, vb), (kd, sz)) :: zs, b0, c, b, h, hl => by
    rw [layS] at h ⊢
    by_cases hf : fitsS N vb.length kd sz = true
    · rw [if_pos hf] at h ⊢
      by_cases h1 : (c.length : Int) + (if kd = 4 then (vb.length : Int) else sz) ≤ 65535
      · rw [if_pos h1] at h
        obtain ⟨t, ht⟩ := layS_prefix _ _ _ h
        have hp := length_putS hf
        have hb : b.length = c.length + (putS N vb kd sz).length + t.length := by rw [ht, List.length_append, List.length_append]
        rw [if_pos (by rw [List.length_append, ← hp]; omega), List.append_assoc]
        exact layS_behind zs b0 _ b h hl
      · rw [if_neg h1] at h; injection h with _ h; exact absurd h (by decide)
    · rw [if_neg hf] at h; injection h with _ h; exact absurd h (by decide)
theorem layS_append : ∀ (xs ys : List ((Nat × List UInt8) × (Int × Int))) (b0 a : List UInt8), layS xs b0 = (a, 0) → layS (xs ++ ys) b0 = layS ys a
  | [], ys, b0, a, h => by rw [layS] at h; injection h with h _; rw [h]; rfl
  | ((N, vb), (kd, sz)) :: xs, ys, b0, a, h => by
    rw [layS] at h
    rw [List.cons_append, layS]
    by_cases hf : fitsS N vb.length kd sz = true
    · rw [if_pos hf] at h ⊢
      by_cases h1 : (b0.length : Int) + (if kd = 4 then (vb.length : Int) else sz) ≤ 65535
      · rw [if_pos h1] at h ⊢
        exact layS_append xs ys _ a h
      · rw [if_neg h1] at h; injection h with _ h; exact absurd h (by decide)
    · rw [if_neg hf] at h; injection h with _ h; exact absurd h (by decide)
theorem layR_zip {vs : List (Nat × List UInt8)} {ops : List (Int × Int)} {b : List UInt8} (h : layR vs ops = (b, 0)) : vs.length = ops.length ∧ layS (vs.zip ops) [] = (b, 0) := by
  unfold layR at h
  by_cases hbig : 4096 < ops.length
  · rw [if_pos hbig] at h; injection h with _ h; exact absurd h (by decide)
  · rw [if_neg hbig] at h
    by_cases hne : vs.length ≠ ops.length
    · rw [if_pos hne] at h; injection h with _ h; exact absurd h (by decide)
    · rw [if_neg hne] at h
      exact ⟨by omega, h⟩
theorem layR_twice {v w : List (Nat × List UInt8)} {l m : List (Int × Int)} {a b : List UInt8} (h : layR v l = (a, 0)) (h' : layR w m = (b, 0)) (hn : l.length + m.length ≤ 4096) (hb : a.length + b.length ≤ 65535) : layR (v ++ w) (l ++ m) = (a ++ b, 0) := by
  obtain ⟨e1, z1⟩ := layR_zip h
  obtain ⟨e2, z2⟩ := layR_zip h'
  unfold layR
  rw [if_neg (by rw [List.length_append]; omega), if_neg (by rw [List.length_append, List.length_append]; omega), List.zip_append e1, layS_append _ _ _ _ z1]
  have := layS_behind _ a [] b z2 hb
  rw [List.append_nil] at this
  exact this
end Go.Proofs.Ytmhoedbhfaocjaa
