/-
  The walks of the sum by 32 bits: More and Crc of the program and of the document's own answers both answer 'moreB'.
-/
import Derived.Test.YtmfebpagjfkclaaLent
import Derived.Test.YtmfebpagjfkclaaCrcm
namespace Go.Proofs.Ytmfebpagjfkclaa
open Go.RowKit

theorem max_u32 : IntKind.u32.max = 4294967295 := by decide
theorem not_u32 (S : BitVec 32) : bits .xor .u32 IntKind.u32.max (S.toNat : Int) = ((~~~S).toNat : Int) := by
  rw [max_u32]
  have h := u32_xor_nat 4294967295 S.toNat (by omega) S.isLt
  have e : (BitVec.allOnes 32 ^^^ S) = ~~~S := by apply BitVec.eq_of_getLsbD_eq; intro i hi; rw [BitVec.getLsbD_xor, BitVec.getLsbD_allOnes, BitVec.getLsbD_not]; simp [hi]
  rw [← e, BitVec.toNat_xor, BitVec.toNat_allOnes]
  exact h
theorem xor_byte (R : BitVec 32) (x : UInt8) : bits .xor .u32 (R.toNat : Int) (x.toNat : Int) = ((R ^^^ byteB x).toNat : Int) := by
  have h := u32_xor_nat R.toNat x.toNat R.isLt (by have := x.toNat_lt; omega)
  rw [BitVec.toNat_xor, byteB_toNat]
  exact h

theorem toNat_stepT (V : BitVec 32) : (stepT V).toNat = (V.toNat / 2) ^^^ (if V.toNat % 2 = 1 then 3988292384 else 0) := by
  unfold stepT
  rw [BitVec.toNat_xor, BitVec.toNat_ushiftRight, Nat.shiftRight_eq_div_pow]
  congr 1
  have e : V.getLsbD 0 = decide (V.toNat % 2 = 1) := by rw [← BitVec.testBit_toNat, Nat.testBit_zero]
  rw [e]
  by_cases h : V.toNat % 2 = 1 <;> simp [h, poly]
theorem step_u32 (V : BitVec 32) : bits .xor .u32 ((V.toNat : Int) / 2) (bits .and .u32 3988292384 (-bits .and .u32 (V.toNat : Int) 1 % 4294967296)) = ((stepT V).toNat : Int) := by
  have hV := V.isLt
  have h1 := u32_and_nat V.toNat 1 hV (by omega)
  rw [nat_mask1] at h1
  rw [toNat_stepT]
  have h1' : bits .and .u32 (V.toNat : Int) 1 = ((V.toNat % 2 : Nat) : Int) := h1
  rw [h1']
  have e2 : ((V.toNat : Int) / 2) = ((V.toNat / 2 : Nat) : Int) := by omega
  rw [e2]
  by_cases h : V.toNat % 2 = 1
  · rw [h, if_pos rfl]
    have e3 : (-((1 : Nat) : Int)) % 4294967296 = ((4294967295 : Nat) : Int) := by decide
    have h2 := u32_and_nat 3988292384 4294967295 (by omega) (by omega)
    have e4 : (3988292384 &&& 4294967295 : Nat) = 3988292384 := by decide
    rw [e4] at h2
    have h3 := u32_xor_nat (V.toNat / 2) 3988292384 (by omega) (by omega)
    rw [e3]
    have h2' : bits .and .u32 3988292384 ((4294967295 : Nat) : Int) = ((3988292384 : Nat) : Int) := h2
    rw [h2', h3]
  · have h0 : V.toNat % 2 = 0 := by omega
    rw [h0, if_neg (by omega)]
    have e3 : (-((0 : Nat) : Int)) % 4294967296 = ((0 : Nat) : Int) := by decide
    have h2 := u32_and_nat 3988292384 0 (by omega) (by omega)
    have h3 := u32_xor_nat (V.toNat / 2) 0 (by omega) (by omega)
    rw [e3]
    have h2' : bits .and .u32 3988292384 ((0 : Nat) : Int) = ((0 : Nat) : Int) := by rw [Nat.and_zero] at h2; exact h2
    rw [h2', h3]

set_option maxHeartbeats 1000000 in
theorem more_any (S : BitVec 32) (A : Option Addr) (c : Nat) (l : List UInt8) (B : Nat) (w : World) (_hl : l.length ≤ c) (hc : l.length ≤ 140737488355328) (hb : Byt w B A l) :
    Calls Try.prog 50 #[.int .u32 (S.toNat : Int), .slice A l.length c] w fun e w' => e = .returned (.int .u32 ((moreB S l).toNat : Int)) ∧ w = w' := by
  obtain ⟨n, hn⟩ : ∃ n, n = l.length := ⟨_, rfl⟩
  rw [← hn] at hc ⊢
  have hlen := hide hn
  clear hn
  have hS := S.isLt
  go_enter Try.func50, Try.ntmps50
  go_wp2
  rw [not_u32 S]
  obtain ⟨N, hN⟩ : ∃ N, N = ~~~ S := ⟨_, rfl⟩
  rw [← hN]
  have HN := hide hN
  clear hN
  go_loop [5, 7, 12] (fun r _ i => ∃ (R : BitVec 32) (k : Nat), k ≤ n ∧ r = .int .u32 (R.toNat : Int) ∧ i = .int .i64 (k : Int) ∧ Hid (crcB R (bitsL (l.drop k)) = crcB N (bitsL l)))
    (fun _ _ i => n - (intOf i).toNat)
  case atStart => exact ⟨N, 0, by omega, rfl, rfl, hide (by simp)⟩
  case round =>
    obtain ⟨R, k, hk, rfl, rfl, hrel⟩ := hrel
    by_cases hlt : k < n
    · obtain ⟨b, off, rfl, hbB, hcell⟩ := hb (by have := hlen.out; omega)
      obtain ⟨x, hx0⟩ : ∃ x, x = l[k]'(by have := hlen.out; omega) := ⟨_, rfl⟩
      have hx : x.toNat ≤ 255 := by have := x.toNat_lt; omega
      have hc0 : w.cell? ⟨b, off + k, none⟩ = some (.int .u8 (x.toNat : Int)) := by rw [hx0]; exact hcell k _
      have hnew : crcB (stepN 8 (R ^^^ byteB x)) (bitsL (l.drop (k + 1))) = crcB N (bitsL l) := by rw [byte_step, hx0, ← crcB_drop, hrel.out]
      have H := hide hnew
      clear hnew hcell hx0 hrel
      go_wp2
      go_loop [5, 20] (fun r j => ∃ (m : Nat), m ≤ 8 ∧ r = .int .u32 ((stepN m (R ^^^ byteB x)).toNat : Int) ∧ j = .int .i64 (m : Int))
        (fun _ j => 8 - (intOf j).toNat)
      case atStart => exact ⟨0, by omega, by rw [xor_byte R x]; rfl, rfl⟩
      case round =>
        obtain ⟨m, hm, rfl, rfl⟩ := hrel
        obtain ⟨V, hV⟩ : ∃ V, V = stepN m (R ^^^ byteB x) := ⟨_, rfl⟩
        rw [← hV]
        have HV := hide hV
        clear hV
        have hVl := V.isLt
        by_cases hm8 : m < 8
        · go_wp2
          go_round
          case rel => exact ⟨m + 1, by omega, by rw [step_u32 V, HV.out]; rfl, by go_num⟩
          case measure => simp [intOf]; omega
        · obtain rfl : m = 8 := by omega
          clear hm8
          go_wp2
          go_round
          case rel => exact ⟨V, k + 1, by omega, rfl, by go_num, hide (by rw [HV.out]; exact H.out)⟩
          case measure => simp [intOf]; omega
    · have hR : R = crcB N (bitsL l) := by rw [← hrel.out, crcB_end (by have := hlen.out; omega)]
      have hfin : bits .xor .u32 IntKind.u32.max (R.toNat : Int) = ((moreB S l).toNat : Int) := by rw [not_u32 R, moreB, hR, HN.out]
      have HF := hide hfin
      clear hfin hR hrel
      go_wp2
      go_ret
      exact ⟨ret_int HF.out, rfl⟩

theorem getLsbD_zero_eq (V : BitVec 32) : V.getLsbD 0 = decide (V.toNat % 2 = 1) := by rw [← BitVec.testBit_toNat, Nat.testBit_zero]

theorem and_one_u32 (V : BitVec 32) : bits .and .u32 (V.toNat : Int) 1 = ((V.toNat % 2 : Nat) : Int) := by
  have h1 := u32_and_nat V.toNat 1 V.isLt (by omega)
  rw [nat_mask1] at h1
  exact h1
theorem bit_u32 (x : UInt8) (m : Nat) : bits .and .u32 ((x.toNat : Int) / 2 ^ m % 4294967296) 1 = ((x.toNat / 2 ^ m % 2 : Nat) : Int) := by
  have hx := x.toNat_lt
  have hle : x.toNat / 2 ^ m ≤ x.toNat := Nat.div_le_self _ _
  have h1 := u32_and_nat (x.toNat / 2 ^ m) 1 (by omega) (by omega)
  rw [nat_mask1] at h1
  have e : ((x.toNat : Int) / 2 ^ m % 4294967296) = ((x.toNat / 2 ^ m : Nat) : Int) := by
    rw [Int.emod_eq_of_lt]
    · simp
    · exact Int.ediv_nonneg (by omega) (Int.le_of_lt (Int.pow_pos (by omega)))
    · have : ((x.toNat : Int) / 2 ^ m) = ((x.toNat / 2 ^ m : Nat) : Int) := by simp
      rw [this]; omega
  rw [e]; exact h1
theorem bitV_toNat (b : Bool) : (bitV b).toNat = if b then 1 else 0 := by cases b <;> rfl
theorem testBit_mod (n m : Nat) : n.testBit m = decide (n / 2 ^ m % 2 = 1) := Nat.testBit_eq_decide_div_mod_eq
theorem xor_one_mod (a : Nat) : (a ^^^ 1) % 2 = (a + 1) % 2 := by
  by_cases ha : a % 2 = 1
  · have : ¬ (a ^^^ 1) % 2 = 1 := fun hh => (Nat.xor_mod_two_eq_one.1 hh) ⟨fun _ => rfl, fun _ => ha⟩
    omega
  · have : (a ^^^ 1) % 2 = 1 := Nat.xor_mod_two_eq_one.2 (fun e => ha (e.2 rfl))
    omega
theorem toNat_stepBit (V : BitVec 32) (b : Bool) : (stepT (V ^^^ bitV b)).toNat = (V.toNat / 2) ^^^ (if (V.toNat + (if b then 1 else 0)) % 2 = 1 then 3988292384 else 0) := by
  rw [toNat_stepT, BitVec.toNat_xor, Nat.xor_div_two, bitV_toNat]
  cases b
  · simp
  · simp only [if_true]
    rw [xor_one_mod]; simp
theorem step_bit_hi {V : BitVec 32} {x : UInt8} {m : Nat} (h : (bits .and .u32 (V.toNat : Int) 1 != bits .and .u32 ((x.toNat : Int) / 2 ^ m % 4294967296) 1) = true) :
    bits .xor .u32 ((V.toNat : Int) / 2) 3988292384 = ((stepT (V ^^^ bitV (x.toNat.testBit m))).toNat : Int) := by
  rw [and_one_u32, bit_u32] at h
  have hV := V.isLt
  have h' : V.toNat % 2 ≠ x.toNat / 2 ^ m % 2 := by intro e; rw [e] at h; simp at h
  rw [toNat_stepBit, testBit_mod]
  have h3 := u32_xor_nat (V.toNat / 2) 3988292384 (by omega) (by omega)
  rw [if_pos (by
    by_cases hb : x.toNat / 2 ^ m % 2 = 1
    · simp [hb]; omega
    · simp [hb]; omega), ← h3]
  simp
theorem step_bit_lo {V : BitVec 32} {x : UInt8} {m : Nat} (h : (bits .and .u32 (V.toNat : Int) 1 != bits .and .u32 ((x.toNat : Int) / 2 ^ m % 4294967296) 1) = false) :
    ((V.toNat : Int) / 2) = ((stepT (V ^^^ bitV (x.toNat.testBit m))).toNat : Int) := by
  rw [and_one_u32, bit_u32] at h
  have h' : V.toNat % 2 = x.toNat / 2 ^ m % 2 := by
    have : ((V.toNat % 2 : Nat) : Int) = ((x.toNat / 2 ^ m % 2 : Nat) : Int) := by simpa using h
    omega
  rw [toNat_stepBit, testBit_mod, if_neg (by
    by_cases hb : x.toNat / 2 ^ m % 2 = 1
    · simp [hb]; omega
    · simp [hb]; omega)]
  simp
theorem take_bits (x : UInt8) {m : Nat} (h : m < 8) : (bitsOf x).take (m + 1) = (bitsOf x).take m ++ [x.toNat.testBit m] := by
  match m, h with
  | 0, _ => rfl
  | 1, _ => rfl
  | 2, _ => rfl
  | 3, _ => rfl
  | 4, _ => rfl
  | 5, _ => rfl
  | 6, _ => rfl
  | 7, _ => rfl
theorem take_step (R : BitVec 32) (x : UInt8) {m : Nat} (h : m < 8) : crcB R ((bitsOf x).take (m + 1)) = stepT (crcB R ((bitsOf x).take m) ^^^ bitV (x.toNat.testBit m)) := by
  rw [take_bits x h, crcB_append]; rfl

set_option maxHeartbeats 2000000 in
theorem refmore_any (S : BitVec 32) (A : Option Addr) (c : Nat) (l : List UInt8) (B : Nat) (w : World) (_hl : l.length ≤ c) (hc : l.length ≤ 140737488355328) (hb : Byt w B A l) :
    Calls Try.prog 51 #[.int .u32 (S.toNat : Int), .slice A l.length c] w fun e w' => e = .returned (.int .u32 ((moreB S l).toNat : Int)) ∧ w = w' := by
  obtain ⟨n, hn⟩ : ∃ n, n = l.length := ⟨_, rfl⟩
  rw [← hn] at hc ⊢
  have hlen := hide hn
  clear hn
  have hS := S.isLt
  go_enter Try.func51, Try.ntmps51
  go_wp2
  rw [not_u32 S]
  obtain ⟨N, hN⟩ : ∃ N, N = ~~~ S := ⟨_, rfl⟩
  rw [← hN]
  have HN := hide hN
  clear hN
  go_loop [5, 6, 7, 8, 9] (fun r i _ _ _ => ∃ (R : BitVec 32) (k : Nat), k ≤ n ∧ r = .int .u32 (R.toNat : Int) ∧ i = .int .i64 (k : Int) ∧ Hid (crcB R (bitsL (l.drop k)) = crcB N (bitsL l)))
    (fun _ i _ _ _ => n - (intOf i).toNat)
  case atStart => exact ⟨N, 0, by omega, rfl, rfl, hide (by simp)⟩
  case round =>
    obtain ⟨R, k, hk, rfl, rfl, hrel⟩ := hrel
    by_cases hlt : k < n
    · obtain ⟨b, off, rfl, hbB, hcell⟩ := hb (by have := hlen.out; omega)
      obtain ⟨x, hx0⟩ : ∃ x, x = l[k]'(by have := hlen.out; omega) := ⟨_, rfl⟩
      have hx : x.toNat ≤ 255 := by have := x.toNat_lt; omega
      have hc0 : w.cell? ⟨b, off + k, none⟩ = some (.int .u8 (x.toNat : Int)) := by rw [hx0]; exact hcell k _
      have hnew : crcB (crcB R (bitsOf x)) (bitsL (l.drop (k + 1))) = crcB N (bitsL l) := by rw [hx0, ← crcB_drop, hrel.out]
      have H := hide hnew
      clear hnew hcell hx0 hrel
      go_wp2
      go_loop [5, 7, 8, 9] (fun r j _ _ => ∃ (m : Nat), m ≤ 8 ∧ r = .int .u32 ((crcB R ((bitsOf x).take m)).toNat : Int) ∧ j = .int .i64 (m : Int))
        (fun _ j _ _ => 8 - (intOf j).toNat)
      case atStart => exact ⟨0, by omega, rfl, rfl⟩
      case round =>
        obtain ⟨m, hm, rfl, rfl⟩ := hrel
        obtain ⟨V, hV⟩ : ∃ V, V = crcB R ((bitsOf x).take m) := ⟨_, rfl⟩
        rw [← hV]
        have HV := hide hV
        clear hV
        have hVl := V.isLt
        by_cases hm8 : m < 8
        · go_wp2
          · have ht : (bits .and .u32 (V.toNat : Int) 1 != bits .and .u32 ((x.toNat : Int) / 2 ^ m % 4294967296) 1) = true := by assumption
            go_round
            case rel => exact ⟨m + 1, by omega, by rw [take_step R x hm8, ← HV.out, step_bit_hi ht], by go_num⟩
            case measure => simp [intOf]; omega
          · have ht : (bits .and .u32 (V.toNat : Int) 1 != bits .and .u32 ((x.toNat : Int) / 2 ^ m % 4294967296) 1) = false := by assumption
            go_round
            case rel => exact ⟨m + 1, by omega, by rw [take_step R x hm8, ← HV.out, step_bit_lo ht], by go_num⟩
            case measure => simp [intOf]; omega
        · obtain rfl : m = 8 := by omega
          clear hm8
          go_wp2
          go_round
          case rel => exact ⟨V, k + 1, by omega, rfl, by go_num, hide (by rw [HV.out]; exact H.out)⟩
          case measure => simp [intOf]; omega
    · have hR : R = crcB N (bitsL l) := by rw [← hrel.out, crcB_end (by have := hlen.out; omega)]
      have hfin : bits .xor .u32 IntKind.u32.max (R.toNat : Int) = ((moreB S l).toNat : Int) := by rw [not_u32 R, moreB, hR, HN.out]
      have HF := hide hfin
      clear hfin hR hrel
      go_wp2
      go_ret
      exact ⟨ret_int HF.out, rfl⟩

set_option maxHeartbeats 400000 in
theorem crc_any (A : Option Addr) (c : Nat) (l : List UInt8) (B : Nat) (w : World) (hl : l.length ≤ c) (hc : l.length ≤ 140737488355328) (hb : Byt w B A l) :
    Calls Try.prog 48 #[.slice A l.length c] w fun e w' => e = .returned (.int .u32 ((moreB 0 l).toNat : Int)) ∧ w = w' := by
  go_enter Try.func48, Try.ntmps48
  go_wp2_with (go_at_call 50; refine (more_any 0 A c l B _ hl hc hb).mono ?_; rintro e w' ⟨rfl, rfl⟩)
  go_ret
  exact ⟨rfl, rfl⟩

set_option maxHeartbeats 400000 in
theorem refcrc_any (A : Option Addr) (c : Nat) (l : List UInt8) (B : Nat) (w : World) (hl : l.length ≤ c) (hc : l.length ≤ 140737488355328) (hb : Byt w B A l) :
    Calls Try.prog 49 #[.slice A l.length c] w fun e w' => e = .returned (.int .u32 ((moreB 0 l).toNat : Int)) ∧ w = w' := by
  go_enter Try.func49, Try.ntmps49
  go_wp2_with (go_at_call 51; refine (refmore_any 0 A c l B _ hl hc hb).mono ?_; rintro e w' ⟨rfl, rfl⟩)
  go_ret
  exact ⟨rfl, rfl⟩
end Go.Proofs.Ytmfebpagjfkclaa
