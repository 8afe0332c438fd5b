/-
  The walk of Lay's put at whatever piece.
-/
import Derived.Test.YtpbgbfmpjgkllaaLayA
import Derived.Test.YtpbgbfmpjgkllaaZeros
namespace Go.Proofs.Ytpbgbfmpjgkllaa
open Go.RowKit
set_option maxRecDepth 100000

set_option maxHeartbeats 2000000 in
theorem put_numg (w : World) (base N m : Nat) (vs : Value) (vb : Value) (b : List UInt8) (hm1 : 1 ≤ m) (hm8 : m ≤ 8) (hown : OwnB w base vb b) (hbl : b.length ≤ 70000) (hbase : base ≤ w.heap.size) :
    Calls Try.prog 70 #[vb, .agg #[.int .u64 (N : Int), vs], .agg #[.int .i64 0, .int .i64 (m : Int)]] w fun e w' => ∃ v, e = .returned v ∧ OwnB w' base v (b ++ numBytes N m m) ∧ w.grownBy w' vb.ownBlock := by
  obtain ⟨W, hW, hbW, hzW, hvW⟩ := two_vars w #[.int .u64 (N : Int), vs] #[.int .i64 0, .int .i64 (m : Int)] 113 111
  have hown0 : OwnB W base vb b := by rw [hW]; exact (hown.alloc _).alloc _
  have hN0 : W.heap[w.heap.size]? = some (.cells #[.int .u64 (N : Int), vs] 113 (0, 0)) := by
    rw [hW, Below.heap_alloc _ _ _ (by simp)]; exact heap_alloc_new w _
  go_enter Try.func70, Try.ntmps70
  go_wp2_with fail
  rw [← hW]
  clear hW hvW
  go_loopw [0, 7] (fun v i wr => ∃ (j : Nat), j ≤ m ∧ i = .int .i64 ((m : Int) - 1 - (j : Int)) ∧ OwnB wr base v (b ++ numBytes N m j) ∧ GrewFrom W wr vb v ∧ wr.heap[w.heap.size]? = some (.cells #[.int .u64 (N : Int), vs] 113 (0, 0)))
    (fun _ i _ => (intOf i + 1).toNat)
  case atStart => exact ⟨0, by omega, by simp, by simpa [numBytes] using hown0, GrewFrom.refl _ _, hN0⟩
  case round =>
    obtain ⟨j, hj, rfl, hownr, hbr, hNr⟩ := hrel
    clear hown hown0 hN0
    by_cases hlt : j < m
    · obtain ⟨p, hp⟩ : ∃ p : Nat, (m : Int) - 1 - (j : Int) = (p : Int) := ⟨m - 1 - j, by omega⟩
      have hpm : p ≤ 7 := by omega
      rw [hp]
      have HP := hide hp
      clear hp
      have hcN : wr.cell? ⟨w.heap.size, 0, none⟩ = some (.int .u64 (N : Int)) := cell_of_row wr _ 0 _ _ (0, 0) hNr
      have hcs := hide (one_byte N p)
      obtain ⟨L, hL⟩ : ∃ L, L = b ++ numBytes N m j := ⟨_, rfl⟩
      have hLl : L.length ≤ 80000 := by rw [hL]; simp [length_numBytes]; omega
      rw [← hL] at hownr
      have HL := hide hL
      clear hL
      go_wp2_with (at_builtin; refine wpList_app_bytes rfl (.tmp 19) (.tmp 26) rfl base u0 L [UInt8.ofNat (N / 2 ^ (8 * p))] (wr.heap.size + 1) 1 (some ⟨wr.heap.size, 0, none⟩) rfl rfl (by exact hownr.alloc _) (by exact Byt.lit wr [UInt8.ofNat (N / 2 ^ (8 * p))] _ _ (0, 0) hcs.out) (fun e => by cases e) (by simp; omega) (by have := hbr.1.size; have := hbW.size; simp; omega) ?_)
      intro v4 w4 hown4 hgr4 hat4
      have hb4 : GrewFrom W w4 vb v4 := hbr.step hgr4 hat4
      have hN4 : w4.heap[w.heap.size]? = some (.cells #[.int .u64 (N : Int), vs] 113 (0, 0)) := by
        have hlt2 : w.heap.size < wr.heap.size := (Array.getElem?_eq_some_iff.1 hNr).1
        refine (hgr4.block _ (by simp; omega) ?_).trans ((Below.heap_alloc wr _ _ hlt2).trans hNr)
        rcases own_ne hownr hNr (by decide) with e | e
        · rw [e]; simp
        · exact fun e2 => e e2.symm
      have hown5 : OwnB w4 base v4 (b ++ numBytes N m (j + 1)) := by
        rw [numBytes_succ, ← List.append_assoc, ← HL.out, show m - 1 - j = p from by have := HP.out; omega]
        exact hown4
      have HO := hide hown5
      clear hown4 hown5 hgr4 hat4 hownr hNr hbr
      go_wp2
      go_roundw
      case rel => exact ⟨j + 1, by omega, by have := HP.out; exact congrArg (Value.int IntKind.i64) (by omega), HO.out, hb4, hN4⟩
      case measure => simp [intOf]
    · obtain rfl : j = m := by omega
      rw [show (j : Int) - 1 - (j : Int) = -1 from by omega]
      clear hlt
      go_wp2
      go_ret
      exact ⟨_, rfl, hownr, grown_trans (Below.row hbW _) hbr.1⟩

/-- the bytes of a piece. -/
def putS (N : Nat) (vb : List UInt8) (kd sz : Int) : List UInt8 := if kd = 0 then numBytes N sz.toNat sz.toNat else if kd = 2 ∨ kd = 3 then zerosL sz.toNat else vb

set_option maxHeartbeats 2000000 in
theorem put_zeros (w : World) (base k : Nat) (N v : Value) (b : List UInt8) (vb : Value) (kd : Int) (hkd : kd = 2 ∨ kd = 3) (hk : k ≤ 65535) (hown : OwnB w base v b) (hbl : b.length ≤ 70000) (hbase : base ≤ w.heap.size) :
    Calls Try.prog 70 #[v, .agg #[N, vb], .agg #[.int .i64 kd, .int .i64 (k : Int)]] w fun e w' => ∃ v', e = .returned v' ∧ OwnB w' base v' (b ++ zerosL k) ∧ w.grownBy w' v.ownBlock := by
  obtain ⟨W, hW, hbW, hzW, hvW⟩ := two_vars w #[N, vb] #[.int .i64 kd, .int .i64 (k : Int)] 113 111
  have hown0 : OwnB W base v b := by rw [hW]; exact (hown.alloc _).alloc _
  rcases hkd with rfl | rfl <;>
  · go_enter Try.func70, Try.ntmps70
    go_wp2_with (at_builtin; refine wpList_app_zeros rfl (.tmp 32) (.tmp 34) rfl base v b k rfl rfl (by exact (hown.alloc _).alloc _) (by omega) (by simp; omega) ?_)
    intro v4 w4 hown4 hgr4 hat4
    rw [← hW] at hgr4
    have hg := grown_trans (Below.row hbW _) hgr4
    clear hgr4 hat4 hvW hW hown0 hown
    go_wp2
    go_ret
    exact ⟨_, rfl, hown4, hg⟩

set_option maxHeartbeats 2000000 in
theorem put_bytes (w : World) (base B c : Nat) (N v : Value) (b vb : List UInt8) (A : Option Addr) (kd sz : Int) (hkd : kd = 1 ∨ kd = 4) (hown : OwnB w base v b) (hbl : b.length + vb.length ≤ 140737488355328) (hbase : base ≤ w.heap.size) (hB : B ≤ w.heap.size) (hby : Byt w B A vb) (hnil : A = none → c = 0) :
    Calls Try.prog 70 #[v, .agg #[N, .slice A vb.length c], .agg #[.int .i64 kd, .int .i64 sz]] w fun e w' => ∃ v', e = .returned v' ∧ OwnB w' base v' (b ++ vb) ∧ w.grownBy w' v.ownBlock := by
  obtain ⟨W, hW, hbW, hzW, hvW⟩ := two_vars w #[N, .slice A vb.length c] #[.int .i64 kd, .int .i64 sz] 113 111
  have hbyW : Byt ((w.alloc (.cells #[N, .slice A vb.length c] 113)).alloc (.cells #[.int .i64 kd, .int .i64 sz] 111)) B A vb := by rw [← hW]; exact hby.below (hbW.mono hB)
  rcases hkd with rfl | rfl <;>
  · go_enter Try.func70, Try.ntmps70
    go_wp2_with (at_builtin; refine wpList_app_bytes rfl (.tmp 36) (.tmp 38) rfl base v b vb B c A rfl rfl (by exact (hown.alloc _).alloc _) (by exact hbyW) hnil (by omega) (by simp; omega) ?_)
    intro v4 w4 hown4 hgr4 hat4
    rw [← hW] at hgr4
    have hg := grown_trans (Below.row hbW _) hgr4
    clear hgr4 hat4 hvW hW hown hbyW hby
    go_wp2
    go_ret
    exact ⟨_, rfl, hown4, hg⟩

/-- what fits its piece is laid behind b. -/
theorem put_any (w : World) (base B N c : Nat) (v : Value) (b vb : List UInt8) (A : Option Addr) (kd sz : Int) (hfit : fitsS N vb.length kd sz = true) (hlen : (b.length : Int) + (if kd = 4 then (vb.length : Int) else sz) ≤ 65535)
    (hown : OwnB w base v b) (hbase : base ≤ w.heap.size) (hB : B ≤ w.heap.size) (hby : Byt w B A vb) (hnil : A = none → c = 0) :
    Calls Try.prog 70 #[v, .agg #[.int .u64 (N : Int), .slice A vb.length c], .agg #[.int .i64 kd, .int .i64 sz]] w fun e w' => ∃ v', e = .returned v' ∧ OwnB w' base v' (b ++ putS N vb kd sz) ∧ w.grownBy w' v.ownBlock := by
  unfold fitsS at hfit
  by_cases h0 : kd = 0
  · subst h0
    rw [if_pos rfl] at hfit
    simp at hfit
    obtain ⟨m, rfl⟩ : ∃ m : Nat, sz = (m : Int) := ⟨sz.toNat, by omega⟩
    simp at hlen
    have := put_numg w base N m (.slice A vb.length c) v b (by omega) (by omega) hown (by omega) hbase
    unfold putS
    rw [if_pos rfl, Int.toNat_natCast]
    exact this
  · rw [if_neg h0] at hfit
    by_cases h1 : kd = 1
    · subst h1
      simp at hfit hlen
      unfold putS
      rw [if_neg h0, if_neg (by omega)]
      exact put_bytes w base B c _ v b vb A 1 sz (.inl rfl) hown (by omega) hbase hB hby hnil
    · rw [if_neg h1] at hfit
      by_cases h23 : kd = 2 ∨ kd = 3
      · rw [if_pos h23] at hfit
        simp at hfit
        obtain ⟨m, rfl⟩ : ∃ m : Nat, sz = (m : Int) := ⟨sz.toNat, by omega⟩
        rw [if_neg (by omega)] at hlen
        unfold putS
        rw [if_neg h0, if_pos h23, Int.toNat_natCast]
        exact put_zeros w base m _ v b _ kd h23 (by omega) hown (by omega) hbase
      · rw [if_neg h23] at hfit
        by_cases h4 : kd = 4
        · subst h4
          simp at hfit hlen
          unfold putS
          rw [if_neg h0, if_neg h23]
          exact put_bytes w base B c _ v b vb A 4 sz (.inr rfl) hown (by omega) hbase hB hby hnil
        · rw [if_neg h4] at hfit; exact absurd hfit (by decide)
end Go.Proofs.Ytpbgbfmpjgkllaa
