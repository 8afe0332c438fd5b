/-
  The walks of the sum of 16 bits: each function answers the plain function of XMath, and only reads.
-/
import Derived.Test.YtihakjcccbionaaGreatDoorBase
import Derived.Test.YtihakjcccbionaaGreatDoorMath
namespace Go.Proofs.YtihakjcccbionaaGreatDoor
open Go.RowKit

theorem rnd_hi {a b : Nat} (h : a + b > 65535) : (a : Int) + b - 65535 = ((rnd a b : Nat) : Int) := by unfold rnd; rw [if_pos h]; omega
theorem rnd_lo {a b : Nat} (h : ¬ a + b > 65535) : (a : Int) + b = ((rnd a b : Nat) : Int) := by unfold rnd; rw [if_neg h]; omega

set_option maxHeartbeats 400000 in
theorem round_any (a b : Nat) (w : World) (ha : a ≤ 65535) (hb : b ≤ 65535) :
    Calls Tryz.prog 94 #[.int .u16 (a : Int), .int .u16 (b : Int)] w fun e w' => e = .returned (.int .u16 (rnd a b : Nat)) ∧ w = w' := by
  by_cases h : a + b > 65535
  · go_enter Tryz.func94, Tryz.ntmps94
    go_wp2
    go_ret
    exact ⟨ret_int (by rw [← rnd_hi h]), rfl⟩
  · go_enter Tryz.func94, Tryz.ntmps94
    go_wp2
    go_ret
    exact ⟨ret_int (by rw [← rnd_lo h]), rfl⟩

set_option maxHeartbeats 400000 in
theorem refround_any (a b : Nat) (w : World) (ha : a ≤ 65535) (hb : b ≤ 65535) :
    Calls Tryz.prog 96 #[.int .u16 (a : Int), .int .u16 (b : Int)] w fun e w' => e = .returned (.int .u16 (rnd a b : Nat)) ∧ w = w' := by
  by_cases h : a + b > 65535
  · go_enter Tryz.func96, Tryz.ntmps96
    go_wp2
    go_ret
    exact ⟨ret_int (by rw [← rnd_hi h]), rfl⟩
  · go_enter Tryz.func96, Tryz.ntmps96
    go_wp2
    go_ret
    exact ⟨ret_int (by rw [← rnd_lo h]), rfl⟩

theorem or_word (x y : UInt8) : bits .or .u16 ((x.toNat : Int) * 256) (y.toNat : Int) = ((x.toNat * 256 + y.toNat : Nat) : Int) := by
  have hx := x.toNat_lt
  have hy := y.toNat_lt
  have h := u16_or_nat (x.toNat * 256) y.toNat (by omega) (by omega)
  rw [nat_join 8 _ _ (by omega) (by omega)] at h
  rw [← h]; simp
theorem round_same (a b : Nat) (w : World) (ha : a ≤ 65535) (hb : b ≤ 65535) :
    Calls Tryz.prog 94 #[.int .u16 (a : Int), .int .u16 (b : Int)] w fun e w' => e = .returned (.int .u16 (rnd a b : Nat)) ∧ w' = w :=
  (round_any a b w ha hb).mono fun _ _ ⟨h1, h2⟩ => ⟨h1, h2.symm⟩

def lenOf : Value → Nat
  | .slice _ n _ => n
  | _ => 0

set_option maxHeartbeats 1000000 in
/-- the loop of 'Add': what is left of the bytes. -/
theorem add_any (s : Nat) (A : Option Addr) (c : Nat) (l : List UInt8) (B : Nat) (w : World) (hs : s ≤ 65535) (hl : l.length ≤ c) (hc : l.length ≤ 140737488355328) (hb : Byt w B A l) :
    Calls Tryz.prog 69 #[.int .u16 (s : Int), .slice A l.length c] w fun e w' => e = .returned (.int .u16 (addS s l : Nat)) ∧ ∃ n, w' = w.drewN n := by
  go_enter Tryz.func69, Tryz.ntmps69
  go_wp2
  go_loopw [0, 1] (fun u v wr => ∃ (t : Nat) (A' : Option Addr) (r : List UInt8) (c' n : Nat), t ≤ 65535 ∧ n ≤ c' ∧ n ≤ 140737488355328 ∧ u = .int .u16 (t : Int) ∧ v = .slice A' n c' ∧ Hid (n = r.length) ∧ Hid (addS t r = addS s l) ∧ Byt wr B A' r ∧ Hid (∃ n, wr = w.drewN n))
    (fun _ v _ => lenOf v)
  case atStart => exact ⟨s, A, l, c, l.length, hs, hl, hc, rfl, rfl, hide rfl, hide rfl, hb, hide ⟨0, rfl⟩⟩
  case round =>
    obtain ⟨t, A', r, c', n, ht, hn, hc', rfl, rfl, hlen, hsum, hby, hw⟩ := hrel
    clear hb hl hc hs
    rcases r with _ | ⟨x, _ | ⟨y, r⟩⟩
    · have hn0 : n = 0 := hlen.out
      subst hn0
      have hs1 : addS s l = t := hsum.out.symm
      have H := hide hs1
      clear hs1 hsum
      go_wp2
      go_ret
      exact ⟨ret_int (by rw [H.out]), hw.out⟩
    · have hn1 : n = 1 := hlen.out
      subst hn1
      obtain ⟨b, off, rfl, hbB, hcell⟩ := hby (by simp)
      have hc0 : wr.cell? ⟨b, off, none⟩ = some (.int .u8 (x.toNat : Int)) := hcell 0 (by simp)
      have hx : x.toNat ≤ 255 := by have := x.toNat_lt; omega
      have hs1 : addS s l = rnd t (x.toNat * 256) := hsum.out.symm
      have H := hide hs1
      clear hs1 hsum hcell
      go_wp2_with (go_at_call 94; rw [show ((x.toNat : Int) * 256) = ((x.toNat * 256 : Nat) : Int) from by simp]; refine (round_any _ _ _ ht (by omega)).mono ?_; rintro e w' ⟨rfl, rfl⟩)
      go_ret
      exact ⟨ret_int (by rw [H.out]), hw.out⟩
    · obtain ⟨b, off, rfl, hbB, hcell⟩ := hby (by simp)
      have hx : x.toNat ≤ 255 := by have := x.toNat_lt; omega
      have hy : y.toNat ≤ 255 := by have := y.toNat_lt; omega
      have hn2 : 2 ≤ n := by have := hlen.out; simp at this; omega
      have hc0 : wr.cell? ⟨b, off, none⟩ = some (.int .u8 (x.toNat : Int)) := hcell 0 (by simp)
      have hc1 : wr.cell? ⟨b, off + 1, none⟩ = some (.int .u8 (y.toNat : Int)) := hcell 1 (by simp)
      have hi0 : (0 : Int) < (n : Int) := by omega
      have hi1 : (1 : Int) < (n : Int) := by omega
      have hr1 : rnd t (x.toNat * 256 + y.toNat) ≤ 65535 := rnd_le ht (word_le x y)
      clear hcell
      go_wp2
      go_quiet ((go_at_call 94; rw [or_word x y]; exact Calls.quiet_of_same (round_same _ _ _ ht (word_le x y))))
      by_cases hcap : c' = 2
      · subst hcap
        have hn' : n = 2 := by omega
        subst hn'
        go_wp2
        go_roundw
        case rel => exact ⟨_, _, r, _, _, hr1, by omega, by omega, rfl, rfl, hide (by have := hlen.out; simp only [List.length_cons] at this; omega), hsum, by have := hlen.out; simp only [List.length_cons] at this; rw [List.length_eq_zero_iff.1 (show r.length = 0 by omega)]; exact Byt.nil _ _ _, hide (by obtain ⟨k, hk⟩ := hw.out; exact ⟨k + nq, by rw [hk, World.drewN_drewN]⟩)⟩
        case measure => simp [lenOf]
      · have hcap2 : 2 < c' := by omega
        clear hcap
        go_wp2
        go_roundw
        case rel => exact ⟨_, _, r, _, _, hr1, by omega, by omega, rfl, rfl, hide (by have := hlen.out; simp only [List.length_cons] at this; omega), hsum, (hby.cut 2).drewN _, hide (by obtain ⟨k, hk⟩ := hw.out; exact ⟨k + nq, by rw [hk, World.drewN_drewN]⟩)⟩
        case measure => simp [lenOf]; omega

theorem drop_two {l : List UInt8} {i : Nat} (h : i + 1 < l.length) : l.drop i = l[i] :: l[i + 1] :: l.drop (i + 2) := by
  rw [List.drop_eq_getElem_cons (by omega), List.drop_eq_getElem_cons h]
theorem drop_one {l : List UInt8} {i : Nat} (h : i + 1 = l.length) : l.drop i = [l[i]] := by
  rw [List.drop_eq_getElem_cons (by omega), List.drop_of_length_le (by omega)]

set_option maxHeartbeats 1000000 in
theorem refadd_any (s : Nat) (A : Option Addr) (c : Nat) (l : List UInt8) (B : Nat) (w : World) (hs : s ≤ 65535) (_hl : l.length ≤ c) (hc : l.length ≤ 140737488355328) (hb : Byt w B A l) :
    Calls Tryz.prog 77 #[.int .u16 (s : Int), .slice A l.length c] w fun e w' => e = .returned (.int .u16 (addS s l : Nat)) ∧ w = w' := by
  obtain ⟨n, hn⟩ : ∃ n, n = l.length := ⟨_, rfl⟩
  rw [← hn] at hc ⊢
  have hlen := hide hn
  clear hn
  go_enter Tryz.func77, Tryz.ntmps77
  go_wp2
  go_loop [0, 5] (fun u v => ∃ (t i : Nat), t ≤ 65535 ∧ i ≤ n + 1 ∧ u = .int .u16 (t : Int) ∧ v = .int .i64 (i : Int) ∧ Hid (addS t (l.drop i) = addS s l))
    (fun _ v => n + 2 - (intOf v).toNat)
  case atStart => exact ⟨s, 0, hs, by omega, rfl, rfl, hide (by simp)⟩
  case round =>
    obtain ⟨t, i, ht, hi, rfl, rfl, hsum⟩ := hrel
    by_cases hlt : i < n
    · obtain ⟨b, off, rfl, hbB, hcell⟩ := hb (by have := hlen.out; omega)
      obtain ⟨x, hx0⟩ : ∃ x, x = l[i]'(by have := hlen.out; omega) := ⟨_, rfl⟩
      have hx : x.toNat ≤ 255 := by have := x.toNat_lt; omega
      have hc0 : w.cell? ⟨b, off + i, none⟩ = some (.int .u8 (x.toNat : Int)) := by rw [hx0]; exact hcell i _
      by_cases hlt2 : i + 1 < n
      · obtain ⟨y, hy0⟩ : ∃ y, y = l[i + 1]'(by have := hlen.out; omega) := ⟨_, rfl⟩
        have hy : y.toNat ≤ 255 := by have := y.toNat_lt; omega
        have hc1 : w.cell? ⟨b, off + (i + 1), none⟩ = some (.int .u8 (y.toNat : Int)) := by rw [hy0]; exact hcell (i + 1) _
        have hnew : addS (rnd t (x.toNat * 256 + y.toNat)) (l.drop (i + 2)) = addS s l := by rw [← hsum.out, drop_two (i := i) (by have := hlen.out; omega), addS, hx0, hy0]
        have H := hide hnew
        have H1 : rnd t (x.toNat * 256 + y.toNat) ≤ 65535 := rnd_le ht (word_le x y)
        clear hnew hcell hx0 hy0 hsum
        go_wp2_with (go_at_call 96; rw [or_word x y]; refine (refround_any _ _ _ ht (word_le x y)).mono ?_; rintro e w' ⟨rfl, rfl⟩)
        go_round
        case rel => exact ⟨_, i + 2, H1, by omega, rfl, by go_num, H⟩
        case measure => simp [intOf]; omega
      · have hnew : addS (rnd t (x.toNat * 256)) (l.drop (i + 2)) = addS s l := by rw [← hsum.out, drop_one (i := i) (by have := hlen.out; omega), List.drop_of_length_le (by have := hlen.out; omega), addS, addS, hx0]
        have H := hide hnew
        have H1 : rnd t (x.toNat * 256) ≤ 65535 := rnd_le ht (by omega)
        clear hnew hcell hx0 hsum
        go_wp2_with (go_at_call 96; rw [show ((x.toNat : Int) * 256) = ((x.toNat * 256 : Nat) : Int) from by simp]; refine (refround_any _ _ _ ht (by omega)).mono ?_; rintro e w' ⟨rfl, rfl⟩)
        go_round
        case rel => exact ⟨_, i + 2, H1, by omega, rfl, by go_num, H⟩
        case measure => simp [intOf]; omega
    · have hend : addS s l = t := by rw [← hsum.out, List.drop_of_length_le (by have := hlen.out; omega), addS]
      have H := hide hend
      clear hend hsum
      go_wp2
      go_ret
      exact ⟨ret_int (by rw [H.out]), rfl⟩

theorem sub_cast {a : Nat} (h : a ≤ 65535) : (65535 : Int) - (a : Int) = ((65535 - a : Nat) : Int) := by omega

set_option maxHeartbeats 400000 in
theorem refinet_any (A : Option Addr) (c : Nat) (l : List UInt8) (B : Nat) (w : World) (hl : l.length ≤ c) (hc : l.length ≤ 140737488355328) (hb : Byt w B A l) :
    Calls Tryz.prog 82 #[.slice A l.length c] w fun e w' => e = .returned (.int .u16 (inetS l : Nat)) ∧ w = w' := by
  have hs := addS_le 0 l (Nat.zero_le _)
  go_enter Tryz.func82, Tryz.ntmps82
  go_wp2_with (go_at_call 77; refine (refadd_any 0 A c l B _ (Nat.zero_le _) hl hc hb).mono ?_; rintro e w' ⟨rfl, rfl⟩)
  go_ret
  exact ⟨ret_int (sub_cast hs), rfl⟩

end Go.Proofs.YtihakjcccbionaaGreatDoor
