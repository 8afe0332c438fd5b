/-
  Plain mathematics of longer bytes: by pieces of which none takes all that is left they are read the same way.
-/
import Derived.Test.YtgbmamahkpkdfaaRunC
namespace Go.Proofs.Ytgbmamahkpkdfaa

theorem take_more {b more : List UInt8} {k m : Nat} (h : k + m ≤ b.length) : ((b ++ more).drop k).take m = (b.drop k).take m := by
  rw [List.drop_append_of_le_length (by omega), List.take_append_of_le_length (by rw [List.length_drop]; omega)]

theorem pieceS_more {b more : List UInt8} {k : Nat} {kd sz : Int} (_hk : k ≤ b.length) (h4 : kd ≠ 4) (hs : pieceS b k kd sz ≠ .gave 10) : pieceS (b ++ more) k kd sz = pieceS b k kd sz := by
  have hlen : ((b ++ more).length : Int) = (b.length : Int) + more.length := by simp
  unfold pieceS at hs ⊢
  by_cases h0 : kd = 0
  · rw [if_pos h0] at hs ⊢
    rw [if_pos h0]
    by_cases hsz : 1 ≤ sz ∧ sz ≤ 8
    · rw [if_pos hsz] at hs ⊢
      rw [if_pos hsz]
      by_cases hf : sz ≤ (b.length : Int) - k
      · rw [if_pos hf, if_pos (by omega), take_more (by omega)]
      · rw [if_neg hf] at hs; exact absurd rfl hs
    · rw [if_neg hsz, if_neg hsz]
  · rw [if_neg h0] at hs ⊢
    rw [if_neg h0]
    by_cases h1 : kd = 1
    · rw [if_pos h1] at hs ⊢
      rw [if_pos h1]
      by_cases hn : sz < 0
      · rw [if_pos hn, if_pos hn]
      · rw [if_neg hn] at hs ⊢
        rw [if_neg hn]
        by_cases hf : sz ≤ (b.length : Int) - k
        · rw [if_pos hf, if_pos (by omega), take_more (by omega)]
        · rw [if_neg hf] at hs; exact absurd rfl hs
    · rw [if_neg h1] at hs ⊢
      rw [if_neg h1]
      by_cases h2 : kd = 2
      · rw [if_pos h2] at hs ⊢
        rw [if_pos h2]
        by_cases hn : sz < 0
        · rw [if_pos hn, if_pos hn]
        · rw [if_neg hn] at hs ⊢
          rw [if_neg hn]
          by_cases hf : sz ≤ (b.length : Int) - k
          · rw [if_pos hf, if_pos (by omega)]
          · rw [if_neg hf] at hs; exact absurd rfl hs
      · rw [if_neg h2] at hs ⊢
        rw [if_neg h2]
        by_cases h3 : kd = 3
        · rw [if_pos h3] at hs ⊢
          rw [if_pos h3]
          by_cases hn : sz < 0
          · rw [if_pos hn, if_pos hn]
          · rw [if_neg hn] at hs ⊢
            rw [if_neg hn]
            by_cases hf : sz ≤ (b.length : Int) - k
            · rw [if_pos hf, if_pos (by omega), take_more (by omega)]
            · rw [if_neg hf] at hs; exact absurd rfl hs
        · rw [if_neg h3, if_neg h4, if_neg h3, if_neg h4]

theorem runS_more {b more : List UInt8} : ∀ (ops : List (Int × Int)) (k : Nat), k ≤ b.length → (∀ o ∈ ops, o.1 ≠ 4) → (runS b ops k).2.2 ≠ 10 → runS (b ++ more) ops k = runS b ops k
  | [], _, _, _, _ => rfl
  | (kd, sz) :: t, k, hk, h4, hs => by
    have hp : pieceS b k kd sz ≠ .gave 10 := fun e => hs (by rw [runS, e])
    have he := pieceS_more (more := more) hk (h4 (kd, sz) (List.mem_cons_self ..)) hp
    rw [runS, runS, he]
    cases hc : pieceS b k kd sz with
    | gave er => rfl
    | got N b' m =>
      rw [runS, hc] at hs
      have := runS_more (more := more) t (k + m) (pieceS_le hc hk) (fun o ho => h4 o (List.mem_cons_of_mem _ ho)) hs
      simp only [this]

theorem runS_le {b : List UInt8} : ∀ (ops : List (Int × Int)) (k : Nat), k ≤ b.length → (runS b ops k).2.1 ≤ b.length
  | [], _, hk => hk
  | (kd, sz) :: t, k, hk => by
    rw [runS]
    cases hc : pieceS b k kd sz with
    | gave er => exact hk
    | got N b' m => exact runS_le t (k + m) (pieceS_le hc hk)
theorem runS_len {b : List UInt8} : ∀ (ops : List (Int × Int)) (k : Nat), (runS b ops k).1.length ≤ ops.length
  | [], _ => Nat.le_refl _
  | (kd, sz) :: t, k => by
    rw [runS]
    cases hc : pieceS b k kd sz with
    | gave er => simp
    | got N b' m => simp; exact runS_len t (k + m)
end Go.Proofs.Ytgbmamahkpkdfaa
