/-
  Plain mathematics of what is laid and cut: it is too short for pieces of which none takes all that is left.
-/
import Derived.Test.YtmhoedbhfaocjaaLayC
import Derived.Test.YtmhoedbhfaocjaaMorem
namespace Go.Proofs.Ytmhoedbhfaocjaa

theorem layS_prefix : ∀ (zs : List ((Nat × List UInt8) × (Int × Int))) (b0 b : List UInt8), layS zs b0 = (b, 0) → ∃ t, b = b0 ++ t
  | [], b0, b, h => by rw [layS] at h; injection h with h _; exact ⟨[], by simp [h]⟩
  | ((N, vb), (kd, sz)) :: zs, b0, b, h => by
    rw [layS] at h
    by_cases hf : fitsS N vb.length kd sz = true
    · rw [if_pos hf] at h
      by_cases hl : (b0.length : Int) + (if kd = 4 then (vb.length : Int) else sz) ≤ 65535
      · rw [if_pos hl] at h
        obtain ⟨t, ht⟩ := layS_prefix zs _ _ h
        exact ⟨putS N vb kd sz ++ t, by rw [ht, List.append_assoc]⟩
      · rw [if_neg hl] at h; injection h with _ h; exact absurd h (by decide)
    · rw [if_neg hf] at h; injection h with _ h; exact absurd h (by decide)

theorem all_zerosL (k : Nat) : (zerosL k).all (fun x => x == 0) = true := by simp [zerosL]

theorem pieceS_short {l : List UInt8} {k N : Nat} {vb : List UInt8} {kd sz : Int} (hf : fitsS N vb.length kd sz = true) (h4 : kd ≠ 4) (hk : k ≤ l.length) (hs : (l.length : Int) - k < sz) : pieceS l k kd sz = .gave 10 := by
  unfold fitsS at hf
  unfold pieceS
  by_cases h0 : kd = 0
  · rw [if_pos h0] at hf ⊢
    simp at hf
    rw [if_pos (by omega), if_neg (by omega)]
  · rw [if_neg h0] at hf ⊢
    by_cases h1 : kd = 1
    · rw [if_pos h1, if_neg (by omega), if_neg (by omega)]
    · rw [if_neg h1] at hf ⊢
      by_cases h2 : kd = 2
      · rw [if_pos h2, if_neg (by omega), if_neg (by omega)]
      · rw [if_neg h2]
        by_cases h3 : kd = 3
        · rw [if_pos h3, if_neg (by omega), if_neg (by omega)]
        · rw [if_neg (by omega), if_neg h4] at hf; exact absurd hf (by decide)

theorem pieceS_laid {l : List UInt8} {k N : Nat} {vb : List UInt8} {kd sz : Int} (hf : fitsS N vb.length kd sz = true) (h4 : kd ≠ 4) (hs : sz ≤ (l.length : Int) - k) (hb : (l.drop k).take sz.toNat = putS N vb kd sz) : ∃ M x, pieceS l k kd sz = .got M x sz.toNat := by
  unfold fitsS at hf
  unfold pieceS
  by_cases h0 : kd = 0
  · rw [if_pos h0] at hf ⊢
    simp at hf
    rw [if_pos (by omega), if_pos (by omega)]
    exact ⟨_, _, rfl⟩
  · rw [if_neg h0] at hf ⊢
    by_cases h1 : kd = 1
    · rw [if_pos h1] at hf ⊢
      simp at hf
      rw [if_neg (by omega), if_pos (by omega)]
      exact ⟨_, _, rfl⟩
    · rw [if_neg h1] at hf ⊢
      by_cases h2 : kd = 2
      · rw [if_pos (Or.inl h2)] at hf
        rw [if_pos h2]
        simp at hf
        rw [if_neg (by omega), if_pos (by omega)]
        exact ⟨_, _, rfl⟩
      · rw [if_neg h2]
        by_cases h3 : kd = 3
        · rw [if_pos (Or.inr h3)] at hf
          rw [if_pos h3]
          simp at hf
          have hz : ((l.drop k).take sz.toNat).all (fun x => x == 0) = true := by
            rw [hb]; unfold putS; rw [if_neg h0, if_pos (Or.inr h3)]; exact all_zerosL _
          rw [if_neg (by omega), if_pos (by omega), if_pos hz]
          exact ⟨_, _, rfl⟩
        · rw [if_neg (by omega), if_neg h4] at hf; exact absurd hf (by decide)

theorem cut_short : ∀ (zs : List ((Nat × List UInt8) × (Int × Int))) (b0 b : List UInt8) (cut : Nat), layS zs b0 = (b, 0) → (∀ z ∈ zs, z.2.1 ≠ 4) → b0.length ≤ cut → cut < b.length → (runS (b.take cut) (zs.map Prod.snd) b0.length).2.2 = 10
  | [], b0, b, cut, h, _, h1, h2 => by rw [layS] at h; injection h with h _; rw [h] at h1; omega
  | ((N, vb), (kd, sz)) :: zs, b0, b, cut, h, h4, h1, h2 => by
    rw [layS] at h
    have hk4 : kd ≠ 4 := h4 ((N, vb), (kd, sz)) (List.mem_cons_self ..)
    by_cases hf : fitsS N vb.length kd sz = true
    · rw [if_pos hf] at h
      by_cases hl : (b0.length : Int) + (if kd = 4 then (vb.length : Int) else sz) ≤ 65535
      · rw [if_pos hl] at h
        have hp := length_putS hf
        rw [if_neg hk4] at hp
        have htl : (b.take cut).length = cut := by rw [List.length_take]; omega
        rw [List.map_cons, runS]
        by_cases hs : (b0.length : Int) + sz ≤ cut
        · obtain ⟨t, ht⟩ := layS_prefix _ _ _ h
          have hb : ((b.take cut).drop b0.length).take sz.toNat = putS N vb kd sz := by
            rw [List.drop_take, List.take_take, ht, List.append_assoc, List.drop_left, Nat.min_eq_left (by omega)]
            exact List.take_left' (by omega)
          obtain ⟨M, x, he⟩ := pieceS_laid hf hk4 (by rw [htl]; omega) hb
          have ih := cut_short zs (b0 ++ putS N vb kd sz) b cut h (fun z hz => h4 z (List.mem_cons_of_mem _ hz)) (by rw [List.length_append]; omega) h2
          rw [List.length_append, show (putS N vb kd sz).length = sz.toNat from by omega] at ih
          rw [he]
          exact ih
        · rw [pieceS_short hf hk4 (by rw [htl]; omega) (by rw [htl]; omega)]
      · rw [if_neg hl] at h; injection h with _ h; exact absurd h (by decide)
    · rw [if_neg hf] at h; injection h with _ h; exact absurd h (by decide)

/-- what is laid, cut anywhere. -/
theorem layR_cut {vs : List (Nat × List UInt8)} {ops : List (Int × Int)} {b : List UInt8} {cut : Nat} (h : layR vs ops = (b, 0)) (h4 : ∀ o ∈ ops, o.1 ≠ 4) (hc : cut < b.length) : ops.length ≤ 4096 ∧ (runS (b.take cut) ops 0).2.2 = 10 ∧ (runS (b.take cut) ops 0).2.1 ≤ cut := by
  unfold layR at h
  by_cases hbig : 4096 < ops.length
  · rw [if_pos hbig] at h; injection h with _ h; exact absurd h (by decide)
  · rw [if_neg hbig] at h
    by_cases hne : vs.length ≠ ops.length
    · rw [if_pos hne] at h; injection h with _ h; exact absurd h (by decide)
    · rw [if_neg hne] at h
      have hm : (vs.zip ops).map Prod.snd = ops := List.map_snd_zip (by omega)
      have := cut_short (vs.zip ops) [] b cut h (fun z hz => h4 z.2 (List.of_mem_zip hz).2) (Nat.zero_le _) hc
      rw [hm] at this
      refine ⟨by omega, this, ?_⟩
      have h3 := runS_le (b := b.take cut) ops 0 (Nat.zero_le _)
      rw [List.length_take] at h3
      omega
end Go.Proofs.Ytmhoedbhfaocjaa
