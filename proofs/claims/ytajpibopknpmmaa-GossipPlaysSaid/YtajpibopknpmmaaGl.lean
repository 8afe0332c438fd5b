/-
  News put into a queue, whatever they are: Put; how often among so many: Times.
-/
import Derived.Test.YtajpibopknpmmaaGk
import Derived.Test.YtajpibopknpmmaaGs
namespace Go.Proofs.Ytajpibopknpmmaa
open Go.RowKit
set_option maxRecDepth 100000
set_option linter.unusedVariables false
set_option linter.unusedSimpArgs false

def PutP (w : World) (q mb : Nat) (most : Int) (L : List (Int × Nw)) (S : Nat → Prop) (k : Int) (d : List UInt8) (t : Int) (e : Ending) (w' : World) : Prop :=
  e = .returned (.int .i64 (putE most L k d t)) ∧ QueS w' q mb most (putL most L k d t) (moreS S w.heap.size w'.heap.size) ∧ w.grownBy w' (some mb)
set_option maxHeartbeats 4000000 in
theorem putQ_any (w : World) (q mb : Nat) (most : Int) (L : List (Int × Nw)) (S : Nat → Prop) (k : Int) (d : List UInt8) (A : Option Addr) (c : Nat) (t : Int) (h : QueS w q mb most L S) (hS : ∀ g, S g → g < w.heap.size ∧ g ≠ mb) (hk : -9223372036854775808 ≤ k ∧ k ≤ 9223372036854775807)
    (hd : Byt w w.heap.size A d) (hdl : d.length ≤ 140737488355328) :
    Calls Try.prog 12 #[.pointer (some ⟨q, 0, none⟩), .int .i64 k, .slice A d.length c, .int .i64 t] w (PutP w q mb most L S k d t) := by
  have HW := hide h
  have HF1 : Hid ((t < 1 ∨ t > 1000 ∨ d.length = 0) → PutP w q mb most L S k d t (.returned (.int .i64 1)) w) := hide (fun e => by
    have e1 : putE most L k d t = 1 := by unfold putE; rw [if_pos e]
    unfold PutP putL
    rw [e1, if_neg (by decide)]
    exact ⟨rfl, HW.out.keep (fun _ _ _ => rfl) (Nat.le_refl _) (fun g hg => .inl hg), World.grownBy.refl _ _⟩)
  obtain ⟨n, hn⟩ : ∃ n, n = d.length := ⟨_, rfl⟩
  by_cases h1 : t < 1
  · have HF := hide (HF1.out (.inl h1))
    rw [← hn]
    clear h hd hn HF1
    go_enter Try.func12, Try.ntmps12
    go_wp2
    go_ret
    exact HF.out
  by_cases h2 : t > 1000
  · have HF := hide (HF1.out (.inr (.inl h2)))
    rw [← hn]
    clear h hd hn HF1
    go_enter Try.func12, Try.ntmps12
    go_wp2
    go_ret
    exact HF.out
  by_cases h3 : n = 0
  · have HF := hide (HF1.out (.inr (.inr (by omega))))
    rw [← hn]
    have hz : ((n : Int) == 0) = true := by rw [h3]; rfl
    clear h hd hn HF1 h3
    go_enter Try.func12, Try.ntmps12
    go_wp2
    go_ret
    exact HF.out
  · obtain ⟨b, off, rfl, hb, -⟩ := hd (by omega)
    have KP := putq_any w q mb most L S k d ⟨b, off, none⟩ c t h hS hk (by omega) hd (by omega) hdl
    have hz : ((n : Int) == 0) = false := by simp; omega
    have HF2 : Hid (∀ w', QueS w' q mb most (if fullQ most L k then L else putQ k (d, t.toNat) L) (moreS S w.heap.size w'.heap.size) → w.grownBy w' (some mb) → PutP w q mb most L S k d t (.returned (.int .i64 (if fullQ most L k then 4 else 0))) w') := hide (fun w' hq hg => by
      have e1 : putE most L k d t = if fullQ most L k then 4 else 0 := by unfold putE; rw [if_neg (by omega)]
      unfold PutP putL
      rw [e1]
      cases hf : fullQ most L k
      · rw [hf] at hq; exact ⟨rfl, hq, hg⟩
      · rw [hf] at hq; exact ⟨rfl, hq, hg⟩)
    unfold PutqP at KP
    cases hf : fullQ most L k
    · rw [hf] at KP HF2
      rw [← hn] at KP ⊢
      clear h hd hn HF1 h3 hf
      go_enter Try.func12, Try.ntmps12
      go_wp2_with fail
      refine KP.mono ?_
      rintro e w' ⟨rfl, hq, hg⟩
      dsimp only
      have HF := hide (HF2.out w' hq hg)
      clear hq hg KP HF2
      go_wp2
      go_ret
      exact HF.out
    · rw [hf] at KP HF2
      rw [← hn] at KP ⊢
      clear h hd hn HF1 h3 hf
      go_enter Try.func12, Try.ntmps12
      go_wp2_with fail
      refine KP.mono ?_
      rintro e w' ⟨rfl, hq, hg⟩
      dsimp only
      have HF := hide (HF2.out w' hq hg)
      clear hq hg KP HF2
      go_wp2
      go_ret
      exact HF.out
/-- how often among so many. -/
def timesN (n : Int) : Nat := 3 * Go.Lib.bitLen (max n 1).toNat
theorem bitsLen_any (n : Nat) (w : World) (h : n ≤ 18446744073709551615) : Calls Try.prog 34 #[.int .u64 (n : Int)] w fun e w' => e = .returned (.int .i64 (Go.Lib.bitLen n : Nat)) ∧ w' = w := by
  have := Any.bits_Len lay_bitsLen (n : Int) w (by omega) (by omega)
  rwa [Int.toNat_natCast] at this
end Go.Proofs.Ytajpibopknpmmaa
