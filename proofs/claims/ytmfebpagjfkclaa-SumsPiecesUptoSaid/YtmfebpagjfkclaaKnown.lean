/-
  The walk of the fixed calls of the sums' statements: they answer true.
-/
import Derived.Test.YtmfebpagjfkclaaSumsA
import Derived.Test.YtmfebpagjfkclaaCrc
import Derived.WalkSmall
import Derived.Lib.SlBytesConst
namespace Go.Proofs.Ytmfebpagjfkclaa
open Go.RowKit

def headL : List UInt8 := [69, 0, 0, 115, 0, 0, 64, 0, 64, 17, 0, 0, 192, 168, 0, 1, 192, 168, 0, 199]
def nineL : List UInt8 := [49, 50, 51, 52, 53, 54, 55, 56, 57]
theorem head_inet : inetS headL = 47201 := by decide +kernel
theorem nine_crc : (moreB 0 nineL).toNat = 3421780262 := by decide +kernel

theorem Byt.lit (w : World) (l : List UInt8) (cs : Array Value) (t : TypeId) (fr : Nat × Nat) (hcs : cs = (l.map byteV).toArray) : Byt (w.alloc (.cells cs t fr)) (w.heap.size + 1) (some ⟨w.heap.size, 0, none⟩) l := fun _ =>
  ⟨w.heap.size, 0, rfl, Nat.lt_succ_self _, fun i hi => by
    subst hcs
    rw [cell_of_row (w.alloc _) w.heap.size (0 + i) _ t fr (heap_alloc_new w _)]
    simp [byteV, hi]⟩

theorem inet_head (w : World) (cs : Array Value) (hcs : cs = (headL.map byteV).toArray) :
    Calls Try.prog 43 #[.slice (some ⟨w.heap.size, 0, none⟩) 20 20] (w.alloc (.cells cs 5)) fun e w' => e = .returned (.int .u16 47201) ∧ ∃ w1, w1.heap.size = w.heap.size + 1 ∧ Below w.heap.size w w1 ∧ w1 = w' := by
  have h := inet_any (some ⟨w.heap.size, 0, none⟩) 20 headL (w.heap.size + 1) (w.alloc (.cells cs 5)) (by decide) (by show 20 ≤ _; omega) (Byt.lit w headL cs 5 (0, 0) hcs)
  rw [head_inet] at h
  refine h.mono fun e w' ⟨he, n, hw⟩ => ⟨he, w', ?_, ?_, rfl⟩
  · rw [hw]; simp
  · rw [hw]; exact below_drewN ((Below.refl _ _).alloc (Nat.le_refl _) _) n
theorem crc_nine (w : World) (cs : Array Value) (hcs : cs = (nineL.map byteV).toArray) :
    Calls Try.prog 48 #[.slice (some ⟨w.heap.size, 0, none⟩) 9 9] (w.alloc (.cells cs 5 (9, 10))) fun e w' => e = .returned (.int .u32 3421780262) ∧ Below w.heap.size w w' := by
  have h := crc_any (some ⟨w.heap.size, 0, none⟩) 9 nineL (w.heap.size + 1) (w.alloc (.cells cs 5 (9, 10))) (by decide) (by show 9 ≤ _; omega) (Byt.lit w nineL cs 5 (9, 10) hcs)
  rw [nine_crc] at h
  refine h.mono fun e w' ⟨he, hw⟩ => ⟨he, ?_⟩
  rw [← hw]; exact (Below.refl _ _).alloc (Nat.le_refl _) _

set_option maxHeartbeats 1000000 in
theorem known_any (w : World) : Calls Try.prog 47 #[] w fun e w' => e = .returned (.bool true) ∧ Below w.heap.size w w' := by
  have kc := fun (w1 : World) (C : Array Value) => Lib.run_convert_bytes_const (P := Try.prog) w1 22 5 C 9 9 Try.underlying22 Try.underlying5
  go_enter Try.func47, Try.ntmps47
  go_wp2_with fail
  refine (inet_head w _ rfl).mono ?_
  rintro e w' ⟨rfl, w1, hz, hb1, rfl⟩
  have HZ := hide hz
  clear hz
  go_wp2_with fail
  refine (crc_nine w1 _ rfl).mono ?_
  rintro e w2 ⟨rfl, hb2⟩
  go_wp2
  go_ret
  exact ⟨rfl, hb1.trans (hb2.mono (by have := HZ.out; omega))⟩
end Go.Proofs.Ytmfebpagjfkclaa
