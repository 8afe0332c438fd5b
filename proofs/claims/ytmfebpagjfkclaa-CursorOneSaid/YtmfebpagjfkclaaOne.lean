/-
  The walk of the statement CursorOne: true; nothing that was there is written.
-/
import Derived.Test.YtmfebpagjfkclaaLay2
import Derived.Test.YtmfebpagjfkclaaNum
namespace Go.Proofs.Ytmfebpagjfkclaa
open Go.RowKit

theorem numS_bytes (N m : Nat) : ∀ j, j ≤ m → numS (numBytes N m j) = (N / 2 ^ (8 * (m - j))) % 256 ^ j
  | 0, _ => by simp [numBytes, numS, Nat.mod_one]
  | j + 1, h => by
    rw [numBytes_succ, numS_snoc, numS_bytes N m j (by omega), UInt8.toNat_ofNat']
    have e : m - j = (m - 1 - j) + 1 := by omega
    have e2 : m - (j + 1) = m - 1 - j := by omega
    rw [e, e2, Nat.mul_add, Nat.pow_add, ← Nat.div_div_eq_div_mul, Nat.pow_succ 256 j, Nat.mul_comm (256 ^ j) 256, Nat.mod_mul]
    have h8 : 2 ^ (8 * 1) = 256 := by decide
    rw [h8]
    omega
theorem numS_all {N m : Nat} (h : N < 256 ^ m) : numS (numBytes N m m) = N := by
  rw [numS_bytes N m m (Nat.le_refl _), Nat.sub_self, Nat.mul_zero, Nat.pow_zero, Nat.div_one, Nat.mod_eq_of_lt h]
theorem numR_bytes {N m : Nat} (h : N < 256 ^ m) (h1 : 1 ≤ m) (h8 : m ≤ 8) : numR (numBytes N m m) 0 (m : Int) = (m, N, 0) := by
  have hl := length_numBytes N m m
  have e : pieceS (numBytes N m m) 0 0 (m : Int) = .got (numS (((numBytes N m m).drop 0).take m)) [] m := by
    unfold pieceS
    rw [if_pos rfl, if_pos (by omega), if_pos (by rw [hl]; omega)]; simp
  unfold numR
  rw [e, List.drop_zero, List.take_of_length_le (by rw [hl]; omega), numS_all h]
  simp

set_option maxHeartbeats 4000000 in
theorem cursorOne_any (n : Nat) (size : Int) (w : World) (hn : n ≤ 18446744073709551615) :
    Calls Try.prog 7 #[.int .u64 (n : Int), .int .i64 size] w fun e w' => e = .returned (.bool true) ∧ Below w.heap.size w w' := by
  have hK := count_lt size (n := 8) (by omega)
  obtain ⟨K, hKK⟩ : ∃ K, K = countS size 8 := ⟨_, rfl⟩
  have hcount := hide (count_any size 8 w (by omega) (by omega))
  rw [← hKK] at hK hcount
  clear hKK
  go_enter Try.func7, Try.ntmps7
  go_wp2_with fail
  refine hcount.out.mono ?_
  rintro e w1 ⟨rfl, rfl⟩
  by_cases h7 : K < 7
  · obtain ⟨P, hP⟩ : ∃ P : Nat, P = 2 ^ (8 * (1 + K)) := ⟨_, rfl⟩
    have hw : IntKind.u64.wrap ((2 : Int) ^ (8 * (1 + K))) = (P : Int) := by
      have hlt : (2 : Nat) ^ (8 * (1 + K)) < 2 ^ 64 := Nat.pow_lt_pow_right (by omega) (by omega)
      have e : ((2 : Int) ^ (8 * (1 + K))) = ((2 ^ (8 * (1 + K)) : Nat) : Int) := by simp
      rw [IntKind.wrap_u64, e, ← hP]
      rw [← hP] at hlt
      omega
    have hP0 : 0 < P := by rw [hP]; exact Nat.pow_pos (by omega)
    have hPi : ¬ (P : Int) = 0 := by omega
    have HP := hide hP
    clear hP
    go_wp2_with fail
    rw [show ((n : Int) % (P : Int)) = ((n % P : Nat) : Int) from by simp, show (1 + (K : Int)) = ((1 + K : Nat) : Int) from by omega]
    have hN : n % P < 256 ^ (1 + K) := by rw [pow256, ← HP.out]; exact Nat.mod_lt _ hP0
    have hNl : n % P ≤ 18446744073709551615 := Nat.le_trans (Nat.mod_le _ _) hn
    generalize n % P = N at hN hNl
    clear hw hPi HP hP0
    obtain ⟨m, hm⟩ : ∃ m, m = 1 + K := ⟨_, rfl⟩
    rw [← hm] at hN ⊢
    have hm1 : 1 ≤ m := by omega
    have hm8 : m ≤ 8 := by omega
    clear hm hK h7
    refine (lay_one _ w.heap.size (w.heap.size + 1) N m hm1 hm8 hN (by rw [Below.heap_alloc _ _ _ (by simp)]; exact heap_alloc_new w _) (by have := heap_alloc_new (w.alloc (.cells #[.int .u64 (N : Int), .slice none 0 0] 40)) (.cells #[.int .i64 0, .int .i64 (m : Int)] 67); simpa using this)).mono ?_
    rintro e w2 ⟨A, c, rfl, hown, hb2⟩
    have hbel : Below w.heap.size w w2 := (((Below.refl w.heap.size w).alloc (Nat.le_refl _) _).alloc (by simp) _).trans (hb2.mono (by simp; omega))
    obtain ⟨A', c', he, hl', hby, _, _⟩ := hown.shape
    rw [length_numBytes] at he hl'
    injection he with e1 e2 e3
    subst e1; subst e3
    have hnew := fun (W : World) (hW : Byt W w2.heap.size A (numBytes N m m)) (hB : w2.heap.size ≤ W.heap.size) => new_any W w2.heap.size A (numBytes N m m) c (by rw [length_numBytes]; omega) hW hB
    have hnr := numR_bytes hN hm1 hm8
    have hrnum := fun (W : World) (g : Nat) (A : Option Addr) (c : Nat) (h : Rd W g A (numBytes N m m).length c 0 0) (hl : (numBytes N m m).length ≤ c) (hb : Byt W g A (numBytes N m m)) => rnum_any W g A (numBytes N m m) c 0 (m : Int) h (Nat.zero_le _) hl (by rw [length_numBytes]; omega) hb
    rw [hnr] at hrnum
    simp only [length_numBytes] at hnew hrnum
    have HNEW := hide hnew
    have HRN := hide hrnum
    have hcellv : ∀ j, j < m → ∀ b off, A = some ⟨b, off, none⟩ → (∀ i (h : i < (numBytes N m m).length), w2.cell? ⟨b, off + i, none⟩ = some (.int .u8 ((numBytes N m m)[i].toNat : Int))) → w2.cell? ⟨b, off + j, none⟩ = some (.int .u8 ((N : Int) / 2 ^ (8 * (m - 1 - j)) % 256)) := fun j hj b off _ hc => by
      rw [hc j (by rw [length_numBytes]; exact hj)]
      have e : ((N : Int) / 2 ^ (8 * (m - 1 - j))) = ((N / 2 ^ (8 * (m - 1 - j)) : Nat) : Int) := by simp
      have e2 : (numBytes N m m)[j]'(by rw [length_numBytes]; exact hj) = UInt8.ofNat (N / 2 ^ (8 * (m - 1 - j))) := by simp [numBytes]
      rw [e2, e, UInt8.toNat_ofNat']
      rfl
    have HCV := hide hcellv
    have HB := hide hbel
    clear hnew hrnum hnr hcellv hbel hown hb2 e2
    go_wp2
    go_loop [7] (fun i => ∃ j : Nat, j ≤ m ∧ i = .int .i64 (j : Int)) (fun i => m - (intOf i).toNat)
    case atStart => exact ⟨0, by omega, rfl⟩
    case round =>
      obtain ⟨j, hj, rfl⟩ := hrel
      by_cases hlt : j < m
      · obtain ⟨b, off, hA, hbB, hcell⟩ := hby (by rw [length_numBytes]; omega)
        have hc := HCV.out j hlt b off hA hcell
        subst hA
        obtain ⟨p, hp⟩ : ∃ p, p = m - 1 - j := ⟨_, rfl⟩
        rw [← hp] at hc
        clear hcell
        go_wp2
        go_round
        case rel => exact ⟨j + 1, by omega, by go_num⟩
        case measure => simp [intOf]; omega
      · obtain rfl : j = m := by omega
        clear hlt hj
        go_wp2_with fail
        refine (HNEW.out _ hby (Nat.le_refl _)).mono ?_
        rintro e w3 ⟨g, A3, c3, rfl, hrd, hby3, hl3, hg3, hb3⟩
        go_wp2_with fail
        refine (HRN.out w3 g A3 c3 (by simpa [length_numBytes] using hrd) hl3 hby3).mono ?_
        rintro e w4 ⟨rfl, hrd4, hgr4⟩
        go_wp2_with fail
        refine (end_any w4 g A3 j c3 j 0 (by simpa using hrd4) (by omega) (Nat.le_refl _)).mono ?_
        rintro e w5 ⟨rfl, q, rfl⟩
        rw [show endS j j 0 = 0 from by simp [endS]]
        have hb5 : Below w.heap.size w w4 := HB.out.trans ((hb3.mono HB.out.size).trans ⟨hgr4.os, hgr4.tape, hgr4.output, hgr4.size, fun k hk => hgr4.block k (by have := HB.out.size; have := hb3.size; omega) (by have := HB.out.size; simp; omega)⟩)
        go_wp2_with fail
        refine (knownC_any _).mono ?_
        rintro e w6 ⟨rfl, hb6⟩
        go_wp2
        go_ret
        exact ⟨rfl, (below_drewN hb5 q).trans (hb6.mono (by have := hb5.size; simp; omega))⟩
  · have hN : n < 256 ^ (1 + K) := by
      have hK7 : K = 7 := by omega
      rw [hK7]
      have : (256 : Nat) ^ (1 + 7) = 18446744073709551616 := by decide
      omega
    have hNl := hn
    go_wp2_with fail
    rw [show (1 + (K : Int)) = ((1 + K : Nat) : Int) from by omega]
    obtain ⟨N, hNn⟩ : ∃ N, N = n := ⟨_, rfl⟩
    rw [← hNn] at hN hNl ⊢
    clear hNn
    obtain ⟨m, hm⟩ : ∃ m, m = 1 + K := ⟨_, rfl⟩
    rw [← hm] at hN ⊢
    have hm1 : 1 ≤ m := by omega
    have hm8 : m ≤ 8 := by omega
    clear hm hK h7
    refine (lay_one _ w.heap.size (w.heap.size + 1) N m hm1 hm8 hN (by rw [Below.heap_alloc _ _ _ (by simp)]; exact heap_alloc_new w _) (by have := heap_alloc_new (w.alloc (.cells #[.int .u64 (N : Int), .slice none 0 0] 40)) (.cells #[.int .i64 0, .int .i64 (m : Int)] 67); simpa using this)).mono ?_
    rintro e w2 ⟨A, c, rfl, hown, hb2⟩
    have hbel : Below w.heap.size w w2 := (((Below.refl w.heap.size w).alloc (Nat.le_refl _) _).alloc (by simp) _).trans (hb2.mono (by simp; omega))
    obtain ⟨A', c', he, hl', hby, _, _⟩ := hown.shape
    rw [length_numBytes] at he hl'
    injection he with e1 e2 e3
    subst e1; subst e3
    have hnew := fun (W : World) (hW : Byt W w2.heap.size A (numBytes N m m)) (hB : w2.heap.size ≤ W.heap.size) => new_any W w2.heap.size A (numBytes N m m) c (by rw [length_numBytes]; omega) hW hB
    have hnr := numR_bytes hN hm1 hm8
    have hrnum := fun (W : World) (g : Nat) (A : Option Addr) (c : Nat) (h : Rd W g A (numBytes N m m).length c 0 0) (hl : (numBytes N m m).length ≤ c) (hb : Byt W g A (numBytes N m m)) => rnum_any W g A (numBytes N m m) c 0 (m : Int) h (Nat.zero_le _) hl (by rw [length_numBytes]; omega) hb
    rw [hnr] at hrnum
    simp only [length_numBytes] at hnew hrnum
    have HNEW := hide hnew
    have HRN := hide hrnum
    have hcellv : ∀ j, j < m → ∀ b off, A = some ⟨b, off, none⟩ → (∀ i (h : i < (numBytes N m m).length), w2.cell? ⟨b, off + i, none⟩ = some (.int .u8 ((numBytes N m m)[i].toNat : Int))) → w2.cell? ⟨b, off + j, none⟩ = some (.int .u8 ((N : Int) / 2 ^ (8 * (m - 1 - j)) % 256)) := fun j hj b off _ hc => by
      rw [hc j (by rw [length_numBytes]; exact hj)]
      have e : ((N : Int) / 2 ^ (8 * (m - 1 - j))) = ((N / 2 ^ (8 * (m - 1 - j)) : Nat) : Int) := by simp
      have e2 : (numBytes N m m)[j]'(by rw [length_numBytes]; exact hj) = UInt8.ofNat (N / 2 ^ (8 * (m - 1 - j))) := by simp [numBytes]
      rw [e2, e, UInt8.toNat_ofNat']
      rfl
    have HCV := hide hcellv
    have HB := hide hbel
    clear hnew hrnum hnr hcellv hbel hown hb2 e2
    go_wp2
    go_loop [7] (fun i => ∃ j : Nat, j ≤ m ∧ i = .int .i64 (j : Int)) (fun i => m - (intOf i).toNat)
    case atStart => exact ⟨0, by omega, rfl⟩
    case round =>
      obtain ⟨j, hj, rfl⟩ := hrel
      by_cases hlt : j < m
      · obtain ⟨b, off, hA, hbB, hcell⟩ := hby (by rw [length_numBytes]; omega)
        have hc := HCV.out j hlt b off hA hcell
        subst hA
        obtain ⟨p, hp⟩ : ∃ p, p = m - 1 - j := ⟨_, rfl⟩
        rw [← hp] at hc
        clear hcell
        go_wp2
        go_round
        case rel => exact ⟨j + 1, by omega, by go_num⟩
        case measure => simp [intOf]; omega
      · obtain rfl : j = m := by omega
        clear hlt hj
        go_wp2_with fail
        refine (HNEW.out _ hby (Nat.le_refl _)).mono ?_
        rintro e w3 ⟨g, A3, c3, rfl, hrd, hby3, hl3, hg3, hb3⟩
        go_wp2_with fail
        refine (HRN.out w3 g A3 c3 (by simpa [length_numBytes] using hrd) hl3 hby3).mono ?_
        rintro e w4 ⟨rfl, hrd4, hgr4⟩
        go_wp2_with fail
        refine (end_any w4 g A3 j c3 j 0 (by simpa using hrd4) (by omega) (Nat.le_refl _)).mono ?_
        rintro e w5 ⟨rfl, q, rfl⟩
        rw [show endS j j 0 = 0 from by simp [endS]]
        have hb5 : Below w.heap.size w w4 := HB.out.trans ((hb3.mono HB.out.size).trans ⟨hgr4.os, hgr4.tape, hgr4.output, hgr4.size, fun k hk => hgr4.block k (by have := HB.out.size; have := hb3.size; omega) (by have := HB.out.size; simp; omega)⟩)
        go_wp2_with fail
        refine (knownC_any _).mono ?_
        rintro e w6 ⟨rfl, hb6⟩
        go_wp2
        go_ret
        exact ⟨rfl, (below_drewN hb5 q).trans (hb6.mono (by have := hb5.size; simp; omega))⟩
end Go.Proofs.Ytmfebpagjfkclaa
