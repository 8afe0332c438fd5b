/-
  The walks of Lay's parts at a number: fits, length, put.
-/
import Derived.Test.YtpbgbfmpjgkllaaRunW
namespace Go.Proofs.Ytpbgbfmpjgkllaa
open Go.RowKit
set_option maxRecDepth 100000

theorem pow256 (m : Nat) : (256 : Nat) ^ m = 2 ^ (8 * m) := by rw [Nat.pow_mul]
theorem div_zero_of {N m : Nat} (h : N < 256 ^ m) : ((N : Int) / 2 ^ (8 * m)) = 0 := by
  rw [pow256] at h
  have e : ((N : Int) / 2 ^ (8 * m)) = ((N / 2 ^ (8 * m) : Nat) : Int) := by simp
  rw [e, Nat.div_eq_of_lt h]; rfl

set_option maxHeartbeats 1000000 in
theorem fits_num (w : World) (N m : Nat) (hm1 : 1 ≤ m) (hm8 : m ≤ 8) (hN : N < 256 ^ m) :
    Calls Try.prog 68 #[.agg #[.int .u64 (N : Int), .slice none 0 0], .agg #[.int .i64 0, .int .i64 (m : Int)]] w fun e w' => e = .returned (.bool true) ∧ Below w.heap.size w w' := by
  have hright : (decide ((1 : Int) ≤ (m : Int)) && decide ((m : Int) ≤ 8)) = true := by simp; omega
  have hR := rightSize_any (m : Int)
  rw [hright] at hR
  have HR := hide hR
  have hz := div_zero_of hN
  clear hright hR
  go_enter Try.func68, Try.ntmps68
  go_wp2_with (go_at_call 72; refine (HR.out _).mono ?_; rintro e w' ⟨rfl, rfl⟩)
  go_ret
  exact ⟨rfl, ((Below.refl _ _).alloc (Nat.le_refl _) _).alloc (by simp) _⟩

set_option maxHeartbeats 1000000 in
theorem length_num (w : World) (N m : Nat) :
    Calls Try.prog 69 #[.agg #[.int .u64 (N : Int), .slice none 0 0], .agg #[.int .i64 0, .int .i64 (m : Int)]] w fun e w' => e = .returned (.int .i64 (m : Int)) ∧ Below w.heap.size w w' := by
  go_enter Try.func69, Try.ntmps69
  go_wp2
  go_ret
  exact ⟨rfl, ((Below.refl _ _).alloc (Nat.le_refl _) _).alloc (by simp) _⟩

/-- a number's bytes, the highest one first: the first j of m. -/
def numBytes (N m j : Nat) : List UInt8 := (List.range j).map fun i => UInt8.ofNat (N / 2 ^ (8 * (m - 1 - i)))
theorem numBytes_succ (N m j : Nat) : numBytes N m (j + 1) = numBytes N m j ++ [UInt8.ofNat (N / 2 ^ (8 * (m - 1 - j)))] := by simp [numBytes, List.range_succ]
theorem length_numBytes (N m j : Nat) : (numBytes N m j).length = j := by simp [numBytes]

theorem one_byte (N p : Nat) : #[Value.int .u8 ((N : Int) / 2 ^ (8 * p) % 256)] = ([UInt8.ofNat (N / 2 ^ (8 * p))].map byteV).toArray := by
  have e : ((N : Int) / 2 ^ (8 * p)) = ((N / 2 ^ (8 * p) : Nat) : Int) := by simp
  simp only [List.map_cons, List.map_nil, byteV, e]
  congr 3

/-- w' is w with new blocks, and with writes to v0's row alone; v lies in that row, or in a new one. -/
def GrewFrom (w w' : World) (v0 v : Value) : Prop := w.grownBy w' v0.ownBlock ∧ (v.ownBlock = v0.ownBlock ∨ ∀ k, v.ownBlock = some k → w.heap.size ≤ k)
theorem GrewFrom.refl (w : World) (v : Value) : GrewFrom w w v v := ⟨World.grownBy.refl w _, .inl rfl⟩
theorem GrewFrom.step {w wr w4 : World} {v0 v v4 : Value} {o : Obj} (h : GrewFrom w wr v0 v) (hg : (wr.alloc o).grownBy w4 v.ownBlock) (hat : v4.ownBlock = v.ownBlock ∨ v4.ownBlock = some (wr.heap.size + 1)) : GrewFrom w w4 v0 v4 := by
  have h1 : wr.grownBy (wr.alloc o) v.ownBlock := World.grownBy_alloc wr o _
  have h2 := grown_trans h1 hg
  refine ⟨⟨h2.os.trans h.1.os, h2.tape.trans h.1.tape, h2.output.trans h.1.output, Nat.le_trans h.1.size h2.size, fun k hk hr => ?_⟩, ?_⟩
  · refine (h2.block k (Nat.lt_of_lt_of_le hk h.1.size) ?_).trans (h.1.block k hk hr)
    rcases h.2 with e | e
    · rw [e]; exact hr
    · intro e2; have := e k e2.symm; omega
  · rcases hat with e | e
    · rw [e]; exact h.2
    · refine .inr (fun k hk => ?_)
      rw [e] at hk
      have := h.1.size
      injection hk with hk
      omega

set_option maxHeartbeats 2000000 in
theorem put_num (w : World) (base N m : Nat) (vb : Value) (b : List UInt8) (hm1 : 1 ≤ m) (hm8 : m ≤ 8) (hown : OwnB w base vb b) (hbl : b.length ≤ 70000) (hbase : base ≤ w.heap.size) :
    Calls Try.prog 70 #[vb, .agg #[.int .u64 (N : Int), .slice none 0 0], .agg #[.int .i64 0, .int .i64 (m : Int)]] w fun e w' => ∃ v, e = .returned v ∧ OwnB w' base v (b ++ numBytes N m m) ∧ w.grownBy w' vb.ownBlock := by
  obtain ⟨W, hW, hbW, hzW, hvW⟩ := two_vars w #[.int .u64 (N : Int), .slice none 0 0] #[.int .i64 0, .int .i64 (m : Int)] 113 111
  have hown0 : OwnB W base vb b := by rw [hW]; exact (hown.alloc _).alloc _
  have hN0 : W.heap[w.heap.size]? = some (.cells #[.int .u64 (N : Int), .slice none 0 0] 113 (0, 0)) := by
    rw [hW, Below.heap_alloc _ _ _ (by simp)]; exact heap_alloc_new w _
  go_enter Try.func70, Try.ntmps70
  go_wp2_with fail
  rw [← hW]
  clear hW hvW
  go_loopw [0, 7] (fun v i wr => ∃ (j : Nat), j ≤ m ∧ i = .int .i64 ((m : Int) - 1 - (j : Int)) ∧ OwnB wr base v (b ++ numBytes N m j) ∧ GrewFrom W wr vb v ∧ wr.heap[w.heap.size]? = some (.cells #[.int .u64 (N : Int), .slice none 0 0] 113 (0, 0)))
    (fun _ i _ => (intOf i + 1).toNat)
  case atStart => exact ⟨0, by omega, by simp, by simpa [numBytes] using hown0, GrewFrom.refl _ _, hN0⟩
  case round =>
    obtain ⟨j, hj, rfl, hownr, hbr, hNr⟩ := hrel
    clear hown hown0 hN0
    by_cases hlt : j < m
    · obtain ⟨p, hp⟩ : ∃ p : Nat, (m : Int) - 1 - (j : Int) = (p : Int) := ⟨m - 1 - j, by omega⟩
      have hpm : p ≤ 7 := by omega
      rw [hp]
      have HP := hide hp
      clear hp
      have hcN : wr.cell? ⟨w.heap.size, 0, none⟩ = some (.int .u64 (N : Int)) := cell_of_row wr _ 0 _ _ (0, 0) hNr
      have hcs := hide (one_byte N p)
      obtain ⟨L, hL⟩ : ∃ L, L = b ++ numBytes N m j := ⟨_, rfl⟩
      have hLl : L.length ≤ 80000 := by rw [hL]; simp [length_numBytes]; omega
      rw [← hL] at hownr
      have HL := hide hL
      clear hL
      go_wp2_with (at_builtin; refine wpList_app_bytes rfl (.tmp 19) (.tmp 26) rfl base u0 L [UInt8.ofNat (N / 2 ^ (8 * p))] (wr.heap.size + 1) 1 (some ⟨wr.heap.size, 0, none⟩) rfl rfl (by exact hownr.alloc _) (by exact Byt.lit wr [UInt8.ofNat (N / 2 ^ (8 * p))] _ _ (0, 0) hcs.out) (fun e => by cases e) (by simp; omega) (by have := hbr.1.size; have := hbW.size; simp; omega) ?_)
      intro v4 w4 hown4 hgr4 hat4
      have hb4 : GrewFrom W w4 vb v4 := hbr.step hgr4 hat4
      have hN4 : w4.heap[w.heap.size]? = some (.cells #[.int .u64 (N : Int), .slice none 0 0] 113 (0, 0)) := by
        have hlt2 : w.heap.size < wr.heap.size := (Array.getElem?_eq_some_iff.1 hNr).1
        refine (hgr4.block _ (by simp; omega) ?_).trans ((Below.heap_alloc wr _ _ hlt2).trans hNr)
        rcases own_ne hownr hNr (by decide) with e | e
        · rw [e]; simp
        · exact fun e2 => e e2.symm
      have hown5 : OwnB w4 base v4 (b ++ numBytes N m (j + 1)) := by
        rw [numBytes_succ, ← List.append_assoc, ← HL.out, show m - 1 - j = p from by have := HP.out; omega]
        exact hown4
      have HO := hide hown5
      clear hown4 hown5 hgr4 hat4 hownr hNr hbr
      go_wp2
      go_roundw
      case rel => exact ⟨j + 1, by omega, by have := HP.out; exact congrArg (Value.int IntKind.i64) (by omega), HO.out, hb4, hN4⟩
      case measure => simp [intOf]
    · obtain rfl : j = m := by omega
      rw [show (j : Int) - 1 - (j : Int) = -1 from by omega]
      clear hlt
      go_wp2
      go_ret
      exact ⟨_, rfl, hownr, grown_trans (Below.row hbW _) hbr.1⟩
end Go.Proofs.Ytpbgbfmpjgkllaa
