/-
  The walks of the Reader's pieces zero and rest.
-/
import Derived.Test.YtgbmamahkpkdfaaPd
namespace Go.Proofs.Ytgbmamahkpkdfaa
open Go.RowKit
set_option maxRecDepth 100000

def AllZero (r : List UInt8) : Prop := ∀ i (h : i < r.length), r[i] = 0
/-- what becomes of a run of bytes that must be 0. -/
def ZeroPost (w : World) (g : Nat) (A : Option Addr) (l : List UInt8) (c k m : Nat) (er : Int) (r : List UInt8) (e : Ending) (w' : World) : Prop :=
  (AllZero r ∧ e = .returned (.tuple #[]) ∧ Rd w' g A l.length c (k + m) er ∧ w.grownBy w' (some g)) ∨ (¬ AllZero r ∧ e = giveUp 11 ∧ ∃ q, w' = w.drewN q)

set_option maxHeartbeats 1000000 in
theorem zero_any (w : World) (g : Nat) (A : Option Addr) (l : List UInt8) (c k : Nat) (er : Int) (h : Rd w g A l.length c k er) (m : Nat) (hl : l.length ≤ c) (hn : l.length ≤ 140737488355328) (hk : k + m ≤ l.length) (hb : Byt w g A l) :
    Calls Try.prog 77 #[.pointer (some ⟨g, 0, none⟩), .int .i64 (m : Int)] w fun e w' => ZeroPost w g A l c k m er ((l.drop k).take m) e w' := by
  have hcall := ahead_ok w g g A l c k er h m hl hn hk hb
  obtain ⟨r, hr⟩ : ∃ r, r = (l.drop k).take m := ⟨_, rfl⟩
  rw [← hr] at hcall ⊢
  have hrl : r.length = m := by rw [hr]; simp; omega
  have HC := hide hcall
  have HRL := hide hrl
  clear hcall hr hrl
  go_enter Try.func77, Try.ntmps77
  go_wp2_with fail
  refine HC.out.mono ?_
  rintro e w1 ⟨⟨A', c', rfl, hmc, hby⟩, q, rfl⟩
  go_wp2
  go_loop [5, 10] (fun _ i => ∃ j : Nat, j ≤ m ∧ i = .int .i64 (j : Int) ∧ Hid (AllZero (r.take j))) (fun _ i => m - (intOf i).toNat)
  case atStart => exact ⟨0, by omega, rfl, hide (fun i hi => by simp at hi)⟩
  case round =>
    obtain ⟨j, hj, rfl, hz⟩ := hrel
    by_cases hlt : j < m
    · obtain ⟨b, off, rfl, hbB, hcell⟩ := hby (by rw [HRL.out]; omega)
      have hjr : j < r.length := by rw [HRL.out]; exact hlt
      obtain ⟨x, hx0⟩ : ∃ x, x = r[j] := ⟨_, rfl⟩
      have hx : x.toNat ≤ 255 := by have := x.toNat_lt; omega
      have hc0 : (w.drewN q).cell? ⟨b, off + j, none⟩ = some (.int .u8 (x.toNat : Int)) := by rw [hx0]; exact hcell j _
      clear hcell
      have HX := hide hx0
      clear hx0
      by_cases hxz : x.toNat = 0
      · have hxe : ((x.toNat : Int) != 0) = false := by simp [hxz]
        have hz' : AllZero (r.take (j + 1)) := fun i hi => by
          rw [List.length_take] at hi
          rw [List.getElem_take]
          by_cases hij : i = j
          · subst hij
            have : r[i] = x := HX.out.symm
            rw [this]; exact UInt8.toNat_inj.1 hxz
          · have := hz.out i (by rw [List.length_take]; omega)
            rw [List.getElem_take] at this; exact this
        have HZ := hide hz'
        clear hz' hz hxz
        go_wp2
        go_round
        case rel => exact ⟨j + 1, by omega, by go_num, HZ⟩
        case measure => simp [intOf]; omega
      · have hxe : ((x.toNat : Int) != 0) = true := by simp only [bne_iff_ne, ne_eq]; omega
        have hno : ¬ AllZero r := fun hall => hxz (by
          have := hall j hjr
          rw [HX.out, this]; rfl)
        have HNO := hide hno
        clear hno hz hxz
        go_wp2
        exact ⟨rfl, .inr ⟨HNO.out, rfl, q, rfl⟩⟩
    · obtain rfl : j = m := by omega
      have hfull : AllZero r := by
        have := hz.out
        rwa [List.take_of_length_le (by rw [HRL.out]; omega)] at this
      have h1 : (w.drewN q).cell? ⟨g, 1, none⟩ = some (.int .i64 (k : Int)) := h.c1
      have hf1 : (w.drewN q).frozen? ⟨g, 1, none⟩ = false := h.fr 1
      have hR' := (h.drewN q).setK (k + j)
      have hg' : w.grownBy ((w.drewN q).setCell ⟨g, 1, none⟩ (.int .i64 ((k + j : Nat) : Int))) (some g) := grown_of_drewN (n := q) (grown_set _ g 1 _)
      rw [show (((k + j : Nat)) : Int) = (k : Int) + (j : Int) from by omega] at hR' hg'
      have H1 := hide hR'
      have H2 := hide hg'
      have H3 := hide hfull
      clear hR' hg' hfull hz hlt
      go_wp2
      go_end0
      exact .inl ⟨H3.out, rfl, H1.out, H2.out⟩

set_option maxHeartbeats 1000000 in
theorem zero_neg (w : World) (g : Nat) (m : Int) (hm : m < 0) :
    Calls Try.prog 77 #[.pointer (some ⟨g, 0, none⟩), .int .i64 m] w fun e w' => e = giveUp 1 ∧ ∃ q, w' = w.drewN q := by
  go_enter Try.func77, Try.ntmps77
  go_wp2_with fail
  refine (ahead_neg w g m hm).mono ?_
  rintro e w1 ⟨rfl, rfl⟩
  go_wp2
  exact ⟨rfl, rfl, 0, rfl⟩

set_option maxHeartbeats 1000000 in
theorem zero_short (w : World) (g : Nat) (A : Option Addr) (n c k : Nat) (er : Int) (h : Rd w g A n c k er) (m : Int) (hm : 0 ≤ m) (hn : n ≤ 140737488355328) (hk : k ≤ n) (hs : (n : Int) - k < m) :
    Calls Try.prog 77 #[.pointer (some ⟨g, 0, none⟩), .int .i64 m] w fun e w' => e = giveUp 10 ∧ ∃ q, w' = w.drewN q := by
  go_enter Try.func77, Try.ntmps77
  go_wp2_with fail
  refine (ahead_short w g A n c k er h m hm hn hk hs).mono ?_
  rintro e w1 ⟨rfl, q, rfl⟩
  go_wp2
  exact ⟨rfl, rfl, q, rfl⟩

set_option maxHeartbeats 1000000 in
theorem rest_bad (w : World) (g : Nat) (s : Int) (hs : ¬ s = 0) :
    Calls Try.prog 115 #[.pointer (some ⟨g, 0, none⟩), .int .i64 s] w fun e w' => e = giveUp 1 ∧ ∃ q, w' = w.drewN q := by
  have hs1 : (s != 0) = true := by simp; exact hs
  go_enter Try.func115, Try.ntmps115
  go_wp2
  exact ⟨rfl, rfl, 0, rfl⟩

set_option maxHeartbeats 1000000 in
theorem rest_ok (w : World) (g : Nat) (A : Option Addr) (l : List UInt8) (c k : Nat) (er : Int) (h : Rd w g A l.length c k er) (hl : l.length ≤ c) (hn : l.length ≤ 140737488355328) (hk : k ≤ l.length) (hb : Byt w g A l) :
    Calls Try.prog 115 #[.pointer (some ⟨g, 0, none⟩), .int .i64 0] w fun e w' => (∃ v, e = .returned v ∧ OwnB w' w.heap.size v (l.drop k)) ∧ Rd w' g A l.length c l.length er ∧ w.grownBy w' (some g) := by
  have h0 := h.c0
  have h1 := h.c1
  have hwr := wrap_in ((l.length : Int) - (k : Int)) (by omega) (by omega)
  have hcall : ∀ n, Calls Try.prog 73 #[.pointer (some ⟨g, 0, none⟩), .int .i64 ((l.length : Int) - (k : Int))] (w.drewN n) fun e w' => (∃ v, e = .returned v ∧ OwnB w' w.heap.size v (l.drop k)) ∧ Rd w' g A l.length c l.length er ∧ w.grownBy w' (some g) := fun n => by
    have := take_ok (w.drewN n) g A l c k er (h.drewN n) (l.length - k) hl hn (by omega) hb
    rw [show ((l.length - k : Nat) : Int) = (l.length : Int) - (k : Int) from by omega, show k + (l.length - k) = l.length from by omega, List.take_of_length_le (by rw [List.length_drop]; omega)] at this
    exact this.mono fun e w' ⟨h1, h2, h3⟩ => ⟨h1, h2, grown_of_drewN h3⟩
  have HC := hide hcall
  clear hcall
  go_enter Try.func115, Try.ntmps115
  go_wp2
  go_region_with (go_at_call 73; refine (HC.out 1).mono ?_; rintro e w1 ⟨⟨v, rfl, hown⟩, hR, hg⟩)
  all_goals go_wp2
  all_goals go_ret
  all_goals exact ⟨⟨_, rfl, hown⟩, hR, hg⟩
end Go.Proofs.Ytgbmamahkpkdfaa
