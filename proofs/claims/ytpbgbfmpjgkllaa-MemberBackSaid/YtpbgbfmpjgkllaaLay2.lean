/-
  The walk of Lay at one number.
-/
import Derived.Test.YtpbgbfmpjgkllaaLay1
namespace Go.Proofs.Ytpbgbfmpjgkllaa
open Go.RowKit
set_option maxRecDepth 100000

theorem below_undrew {B : Nat} {w w' : World} (h : Below B w.drew w') : Below B w w' := ⟨h.os, h.tape, h.output, h.size, h.block⟩
/-- the two cells of a value and the two cells of a piece, behind new blocks. -/
theorem four_keep {W w' : World} {bv O : Nat} {a b c d : Value} (hb : Below W.heap.size W w') (h1 : bv < W.heap.size) (h2 : O < W.heap.size)
    (k : W.cell? ⟨bv, 0, none⟩ = some a ∧ W.cell? ⟨bv, 1, none⟩ = some b ∧ W.cell? ⟨O, 0, none⟩ = some c ∧ W.cell? ⟨O, 1, none⟩ = some d) :
    w'.cell? ⟨bv, 0, none⟩ = some a ∧ w'.cell? ⟨bv, 1, none⟩ = some b ∧ w'.cell? ⟨O, 0, none⟩ = some c ∧ w'.cell? ⟨O, 1, none⟩ = some d :=
  ⟨(hb.cell (p := ⟨bv, 0, none⟩) h1).trans k.1, (hb.cell (p := ⟨bv, 1, none⟩) h1).trans k.2.1, (hb.cell (p := ⟨O, 0, none⟩) h2).trans k.2.2.1, (hb.cell (p := ⟨O, 1, none⟩) h2).trans k.2.2.2⟩

set_option maxHeartbeats 4000000 in
theorem lay_one (w : World) (bv bo N m : Nat) (hm1 : 1 ≤ m) (hm8 : m ≤ 8) (hN : N < 256 ^ m) (hv : w.heap[bv]? = some (.cells #[.int .u64 (N : Int), .slice none 0 0] 113 (0, 0))) (ho : w.heap[bo]? = some (.cells #[.int .i64 0, .int .i64 (m : Int)] 111 (0, 0))) :
    Calls Try.prog 59 #[.slice (some ⟨bv, 0, none⟩) 1 1, .slice (some ⟨bo, 0, none⟩) 1 1] w fun e w' => ∃ A c, e = .returned (.tuple #[.slice A m c, .int .i64 0]) ∧ OwnB w' w.heap.size (.slice A m c) (numBytes N m m) ∧ Below w.heap.size w w' := by
  have hbv : bv < w.heap.size := (Array.getElem?_eq_some_iff.1 hv).1
  have hbo : bo < w.heap.size := (Array.getElem?_eq_some_iff.1 ho).1
  go_enter Try.func59, Try.ntmps59
  go_wp2
  go_loopw [6, 7, 8, 19] (fun v _ _ i wr => ∃ (j : Nat) (b : List UInt8), j ≤ 1 ∧ i = .int .i64 (j : Int) ∧ (j = 0 → v = .slice none 0 0) ∧ OwnB wr w.heap.size v b ∧ Below w.heap.size w wr ∧ Hid (b = if j = 0 then [] else numBytes N m m))
    (fun _ _ _ i _ => 1 - (intOf i).toNat)
  case atStart => exact ⟨0, [], by omega, rfl, fun _ => rfl, OwnB.nil _ _, Below.refl _ _, hide (by simp)⟩
  case round =>
    obtain ⟨j, b, hj, rfl, hv0, hown, hb, hbb⟩ := hrel
    by_cases hlt : j < 1
    · obtain rfl : j = 0 := by omega
      have hb0 : b = [] := by have := hbb.out; simpa using this
      subst hb0
      obtain rfl := hv0 rfl
      clear hbb hlt hj hv0
      have hvr : wr.heap[bv]? = some (.cells #[.int .u64 (N : Int), .slice none 0 0] 113 (0, 0)) := (hb.block bv hbv).trans hv
      have hor : wr.heap[bo]? = some (.cells #[.int .i64 0, .int .i64 (m : Int)] 111 (0, 0)) := (hb.block bo hbo).trans ho
      have v0 : wr.cell? ⟨bv, 0, none⟩ = some (.int .u64 (N : Int)) := cell_of_row wr bv 0 _ _ (0, 0) hvr
      have v1 : wr.cell? ⟨bv, 1, none⟩ = some (.slice none 0 0) := cell_of_row wr bv 1 _ _ (0, 0) hvr
      have o0 : wr.cell? ⟨bo, 0, none⟩ = some (.int .i64 0) := cell_of_row wr bo 0 _ _ (0, 0) hor
      have o1 : wr.cell? ⟨bo, 1, none⟩ = some (.int .i64 (m : Int)) := cell_of_row wr bo 1 _ _ (0, 0) hor
      have hO := two_cells wr (.int .i64 0) (.int .i64 (m : Int)) 111
      have hbW : Below wr.heap.size wr (wr.alloc (.cells #[.int .i64 0, .int .i64 (m : Int)] 111)) := (Below.refl _ _).alloc (Nat.le_refl _) _
      have hzW : (wr.alloc (.cells #[.int .i64 0, .int .i64 (m : Int)] 111)).heap.size = wr.heap.size + 1 := by simp
      rw [show ((0 : Nat) : Int) = 0 from rfl]
      have hsz := hb.size
      have hwr : IntKind.i64.wrap 65535 = 65535 := wrap_in _ (by omega) (by omega)
      go_wp2
      obtain ⟨W, hW⟩ : ∃ W, W = wr.alloc (.cells #[.int .i64 0, .int .i64 (m : Int)] 111) := ⟨_, rfl⟩
      rw [← hW] at hO hbW hzW ⊢
      have k0 := (hbW.cell (p := ⟨bv, 0, none⟩) (by show bv < _; omega)).trans v0
      have k1 := (hbW.cell (p := ⟨bv, 1, none⟩) (by show bv < _; omega)).trans v1
      obtain ⟨k2, k3⟩ := hO
      have HZ := hide hzW
      have hbv2 : bv < W.heap.size := by omega
      have hO2 : wr.heap.size < W.heap.size := by omega
      have HK := hide (And.intro k0 (And.intro k1 (And.intro k2 k3)))
      have HBW := hide (hb.trans (hbW.mono hsz))
      clear hW v0 v1 o0 o1 hvr hor hown hzW hb hbW
      go_region_held3 (fun w' => w'.cell? ⟨bv, 0, none⟩ = some (.int .u64 (N : Int)) ∧ w'.cell? ⟨bv, 1, none⟩ = some (.slice none 0 0) ∧ w'.cell? ⟨wr.heap.size, 0, none⟩ = some (.int .i64 0) ∧ w'.cell? ⟨wr.heap.size, 1, none⟩ = some (.int .i64 (m : Int)))
        (first | go_keep)
        (first | (go_at_call 68; refine (fits_num _ N m hm1 hm8 hN).mono ?_; rintro e w3 ⟨rfl, hb3⟩; have HB3 : Hid (Below W.heap.size W w3) := hide (below_undrew hb3); obtain ⟨p0, p1, p2, p3⟩ := four_keep (W := W) HB3.out hbv2 hO2 HK.out))
      clear k0 k1 k2 k3
      go_wp2
      go_region_held3 (fun w' => w'.cell? ⟨bv, 0, none⟩ = some (.int .u64 (N : Int)) ∧ w'.cell? ⟨bv, 1, none⟩ = some (.slice none 0 0) ∧ w'.cell? ⟨wr.heap.size, 0, none⟩ = some (.int .i64 0) ∧ w'.cell? ⟨wr.heap.size, 1, none⟩ = some (.int .i64 (m : Int)))
        (first | go_keep)
        (first | (go_at_call 69; refine (length_num _ N m).mono ?_; rintro e w4 ⟨rfl, hb4⟩; have HB4 : Hid (Below W.heap.size W w4) := hide (HB3.out.trans ((show Below w3.heap.size w3 w4 from below_undrew hb4).mono HB3.out.size)); obtain ⟨q0, q1, q2, q3⟩ := four_keep (W := W) HB4.out hbv2 hO2 HK.out))
      clear p0 p1 p2 p3
      go_wp2
      go_region_held3 (fun w' => w'.cell? ⟨bv, 0, none⟩ = some (.int .u64 (N : Int)) ∧ w'.cell? ⟨bv, 1, none⟩ = some (.slice none 0 0) ∧ w'.cell? ⟨wr.heap.size, 0, none⟩ = some (.int .i64 0) ∧ w'.cell? ⟨wr.heap.size, 1, none⟩ = some (.int .i64 (m : Int)))
        (first | go_keep)
        (first | (go_at_call 70; refine (put_num _ w.heap.size N m (.slice none 0 0) [] hm1 hm8 (OwnB.nil _ _) (by simp) (by have := HBW.out.size; have := HB4.out.size; simp; omega)).mono ?_; rintro e w5 ⟨v5, rfl, hown5, hg5⟩; have HB5 : Hid (Below W.heap.size W w5) := hide (HB4.out.trans ((below_undrew (show Below w4.drew.heap.size w4.drew w5 from ⟨hg5.os, hg5.tape, hg5.output, hg5.size, fun k hk => hg5.block k hk (by simp [Value.ownBlock])⟩)).mono HB4.out.size)); obtain ⟨r0, r1, r2, r3⟩ := four_keep (W := W) HB5.out hbv2 hO2 HK.out))
      have hb6 : Below w.heap.size w w5 := HBW.out.trans (HB5.out.mono HBW.out.size)
      have HB6 := hide hb6
      have hown6 : OwnB w5 w.heap.size v5 (numBytes N m m) := by simpa using hown5
      have HO6 := hide hown6
      clear r0 r1 r2 r3 hown5 hown6 hb6 hg5
      go_wp2
      go_roundw
      case rel => exact ⟨1, numBytes N m m, by omega, rfl, (fun e => absurd e (by decide)), HO6.out, HB6.out, hide rfl⟩
      case measure => simp [intOf]
    · obtain rfl : j = 1 := by omega
      have hbe : b = numBytes N m m := by have := hbb.out; simpa using this
      subst hbe
      clear hbb hlt hj hv0
      obtain ⟨A6, c6, hv6, _⟩ := hown.shape
      rw [length_numBytes] at hv6
      subst hv6
      rw [show ((1 : Nat) : Int) = 1 from rfl]
      have HO := hide hown
      clear hown
      go_wp2
      go_ret2
      exact ⟨A6, c6, rfl, HO.out, hb⟩
end Go.Proofs.Ytpbgbfmpjgkllaa
