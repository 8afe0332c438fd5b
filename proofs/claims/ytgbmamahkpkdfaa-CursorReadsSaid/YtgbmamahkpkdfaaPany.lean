/-
  A Reader's piece of whatever kind and size: what it was, or the error by which it gives up.
-/
import Derived.Test.YtgbmamahkpkdfaaPiece
namespace Go.Proofs.Ytgbmamahkpkdfaa
open Go.RowKit
set_option maxRecDepth 100000

theorem piece_any (w : World) (g : Nat) (A : Option Addr) (l : List UInt8) (c k : Nat) (er : Int) (kd sz : Int) (h : Rd w g A l.length c k er) (hk : k ≤ l.length) (hl : l.length ≤ c) (hn : l.length ≤ 140737488355328) (hb : Byt w g A l) :
    Calls Try.prog 67 #[.pointer (some ⟨g, 0, none⟩), .agg #[.int .i64 kd, .int .i64 sz]] w fun e w' => PiecePost w g A l c k er (pieceS l k kd sz) e w' := by
  by_cases h0 : kd = 0
  · subst h0
    by_cases hs : 1 ≤ sz ∧ sz ≤ 8
    · by_cases hf : sz ≤ (l.length : Int) - k
      · obtain ⟨m, rfl⟩ : ∃ m : Nat, sz = (m : Int) := ⟨sz.toNat, by omega⟩
        have e : pieceS l k 0 (m : Int) = .got (numS ((l.drop k).take m)) [] m := by unfold pieceS; rw [if_pos rfl, if_pos hs, if_pos hf]; simp
        rw [e]
        exact piece_num w g A l c k er h m (by omega) (by omega) (by omega) hl hn hb
      · have e : pieceS l k 0 sz = .gave 10 := by unfold pieceS; rw [if_pos rfl, if_pos hs, if_neg hf]
        rw [e]
        exact piece_num_short w g A l c k er h sz hs.1 hs.2 hn hk (by omega)
    · have e : pieceS l k 0 sz = .gave 1 := by unfold pieceS; rw [if_pos rfl, if_neg hs]
      rw [e]
      exact piece_num_bad w g A l c k er h sz hs
  by_cases h1 : kd = 1
  · subst h1
    by_cases hs : sz < 0
    · have e : pieceS l k 1 sz = .gave 1 := by unfold pieceS; rw [if_neg (by decide), if_pos rfl, if_pos hs]
      rw [e]
      exact piece_take_neg w g A l c k er h sz hs
    · by_cases hf : sz ≤ (l.length : Int) - k
      · obtain ⟨m, rfl⟩ : ∃ m : Nat, sz = (m : Int) := ⟨sz.toNat, by omega⟩
        have e : pieceS l k 1 (m : Int) = .got 0 ((l.drop k).take m) m := by unfold pieceS; rw [if_neg (by decide), if_pos rfl, if_neg hs, if_pos hf]; simp
        rw [e]
        exact piece_take w g A l c k er h m (by omega) hl hn hb
      · have e : pieceS l k 1 sz = .gave 10 := by unfold pieceS; rw [if_neg (by decide), if_pos rfl, if_neg hs, if_neg hf]
        rw [e]
        exact piece_take_short w g A l c k er h sz (by omega) hn hk (by omega)
  by_cases h2 : kd = 2
  · subst h2
    by_cases hs : sz < 0
    · have e : pieceS l k 2 sz = .gave 1 := by unfold pieceS; rw [if_neg (by decide), if_neg (by decide), if_pos rfl, if_pos hs]
      rw [e]
      exact piece_skip_neg w g A l c k er h sz hs
    · by_cases hf : sz ≤ (l.length : Int) - k
      · obtain ⟨m, rfl⟩ : ∃ m : Nat, sz = (m : Int) := ⟨sz.toNat, by omega⟩
        have e : pieceS l k 2 (m : Int) = .got 0 [] m := by unfold pieceS; rw [if_neg (by decide), if_neg (by decide), if_pos rfl, if_neg hs, if_pos hf]; simp
        rw [e]
        exact piece_skip w g A l c k er h m (by omega) hl hn hb
      · have e : pieceS l k 2 sz = .gave 10 := by unfold pieceS; rw [if_neg (by decide), if_neg (by decide), if_pos rfl, if_neg hs, if_neg hf]
        rw [e]
        exact piece_skip_short w g A l c k er h sz (by omega) hn hk (by omega)
  by_cases h3 : kd = 3
  · subst h3
    by_cases hs : sz < 0
    · have e : pieceS l k 3 sz = .gave 1 := by unfold pieceS; rw [if_neg (by decide), if_neg (by decide), if_neg (by decide), if_pos rfl, if_pos hs]
      rw [e]
      exact piece_zero_neg w g A l c k er h sz hs
    · by_cases hf : sz ≤ (l.length : Int) - k
      · obtain ⟨m, rfl⟩ : ∃ m : Nat, sz = (m : Int) := ⟨sz.toNat, by omega⟩
        have e : pieceS l k 3 (m : Int) = if ((l.drop k).take m).all (fun x => x == 0) = true then PRes.got 0 [] m else PRes.gave 11 := by unfold pieceS; rw [if_neg (by decide), if_neg (by decide), if_neg (by decide), if_pos rfl, if_neg hs, if_pos hf]; simp
        rw [e]
        refine (piece_zero w g A l c k er h m (by omega) hl hn hb).mono fun e w' hp => ?_
        rcases hp with ⟨hz, hp⟩ | ⟨hz, hp⟩
        · rw [if_pos ((allZero_iff _).1 hz)]; exact hp
        · rw [if_neg (fun e => hz ((allZero_iff _).2 e))]; exact hp
      · have e : pieceS l k 3 sz = .gave 10 := by unfold pieceS; rw [if_neg (by decide), if_neg (by decide), if_neg (by decide), if_pos rfl, if_neg hs, if_neg hf]
        rw [e]
        exact piece_zero_short w g A l c k er h sz (by omega) hn hk (by omega)
  by_cases h4 : kd = 4
  · subst h4
    by_cases hs : sz = 0
    · subst hs
      have e : pieceS l k 4 0 = .got 0 (l.drop k) (l.length - k) := by unfold pieceS; rw [if_neg (by decide), if_neg (by decide), if_neg (by decide), if_neg (by decide), if_pos rfl, if_pos rfl]
      rw [e]
      exact piece_rest w g A l c k er h hk hl hn hb
    · have e : pieceS l k 4 sz = .gave 1 := by unfold pieceS; rw [if_neg (by decide), if_neg (by decide), if_neg (by decide), if_neg (by decide), if_pos rfl, if_neg hs]
      rw [e]
      exact piece_rest_bad w g A l c k er h sz hs
  have e : pieceS l k kd sz = .gave 1 := by unfold pieceS; rw [if_neg h0, if_neg h1, if_neg h2, if_neg h3, if_neg h4]
  rw [e]
  exact piece_other w g A l c k er kd sz h0 h1 h2 h3 h4

/-- what was read stands within the bytes. -/
theorem pieceS_le {l : List UInt8} {k N m : Nat} {kd sz : Int} {b : List UInt8} (h : pieceS l k kd sz = .got N b m) (hk : k ≤ l.length) : k + m ≤ l.length := by
  unfold pieceS at h
  repeat' split at h
  all_goals first | cases h | skip
  all_goals omega
end Go.Proofs.Ytgbmamahkpkdfaa
