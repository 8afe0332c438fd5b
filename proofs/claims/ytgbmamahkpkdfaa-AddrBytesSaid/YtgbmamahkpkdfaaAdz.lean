/-
  The walk of the fixed calls of addr's statements: they answer true.
-/
import Derived.Test.YtgbmamahkpkdfaaAdb
namespace Go.Proofs.Ytgbmamahkpkdfaa
open Go.RowKit
attribute [local go_sem ↓] exec_span exec_put exec_build heap_alloc_new heap_old
attribute [local go_sem] spanQ_ptr spanC_some heap_of_drew rs_arr rs_ad putAt_ptr putOk_ptr oldOk_some built_none World.setRow_alloc_new
set_option maxRecDepth 100000
set_option linter.unusedVariables false

def knL : List UInt8 := [10, 1, 2, 3]
theorem kn_of : ofE knL = 0 ∧ ofV knL = false ∧ ofB knL = [10, 1, 2, 3, 0, 0, 0, 0, 0, 0, 0, 0, 0, 0, 0, 0] := by decide +kernel
def knB : List UInt8 := [10, 1, 2, 3, 0, 0, 0, 0, 0, 0, 0, 0, 0, 0, 0, 0]
def knM : List UInt8 := [10, 0, 0, 0, 0, 0, 0, 0, 0, 0, 0, 0, 0, 0, 0, 0]
theorem kn_mask : maskE false knB 12 = 0 ∧ maskV false knB 12 = false ∧ maskB false knB 12 = knM := by decide +kernel
theorem kn_bytes : byE false knM = 0 ∧ byB false knM = [10, 0, 0, 0] := by decide +kernel
theorem kn_within : withinS false knB false knM 12 = true := by decide +kernel
theorem kn_less : lessA false knM false knB = true := by decide +kernel

set_option maxHeartbeats 2000000 in
theorem knownA_any (w : World) : Calls Try.prog 42 #[] w fun e w' => e = .returned (.bool true) ∧ Below w.heap.size w w' := by
  have hlit := Byt.lit w knL #[.int .u8 10, .int .u8 1, .int .u8 2, .int .u8 3] 5 (0, 0) rfl
  have C1 := hide (of_any (w.alloc (.cells #[.int .u8 10, .int .u8 1, .int .u8 2, .int .u8 3] 5)) (some ⟨w.heap.size, 0, none⟩) 4 knL (w.heap.size + 1) (by decide) hlit (by simp))
  rw [kn_of.1, kn_of.2.1, kn_of.2.2] at C1
  clear hlit
  go_enter Try.func42, Try.ntmps42
  go_wp2_with fail
  refine C1.out.mono ?_
  rintro e w1 ⟨⟨X, rfl, hX⟩, hb1⟩
  have hXs := hX.size
  have hXo : allOne X = true := hX.one
  have hXr := hX.x0
  have HX := hide hX
  have HB1 := hide ((((Below.refl w.heap.size w).alloc (Nat.le_refl _) (.cells #[.int .u8 10, .int .u8 1, .int .u8 2, .int .u8 3] 5))).trans (hb1.mono (by simp)))
  have C2 := hide (fun W => mask_any W X false knB 12 hX (by decide) (by decide))
  rw [kn_mask.1, kn_mask.2.1, kn_mask.2.2] at C2
  clear hX C1 hb1
  go_wp2_with fail
  refine (C2.out _).mono ?_
  rintro e w2 ⟨⟨M, rfl, hM⟩, hb2⟩
  have hMs := hM.size
  have hMo : allOne M = true := hM.one
  have hMr := hM.x0
  have HM := hide hM
  have HB2 : Hid (Below w.heap.size w w2) := hide ((HB1.out.alloc HB1.out.size _).trans (hb2.mono (by have := HB1.out.size; simp; omega)))
  have hx2 := row_kept hb2 (by simp) (heap_alloc_new w1 (.cells X 60))
  have L12 : LtN w1.heap.size w2.heap.size := by have := hb2.size; simp at this; show _ < _; omega
  have C3 := hide (fun W => bytes_any W M false knM hM)
  rw [kn_bytes.1, kn_bytes.2] at C3
  clear hM C2 hb2
  go_wp2_with fail
  refine (C3.out _).mono ?_
  rintro e w3 ⟨⟨A, c, rfl, hby, _, _⟩, hb3⟩
  have hx3 := row_kept hb3 (by have : w1.heap.size < w2.heap.size := L12; simp; omega) (((Below.refl w2.heap.size w2).alloc (Nat.le_refl _) (.cells M 60)).block w1.heap.size L12 |>.trans hx2)
  have hm3 := row_kept hb3 (by simp) (heap_alloc_new w2 (.cells M 60))
  have HB3 : Hid (Below w.heap.size w w3) := hide ((HB2.out.alloc HB2.out.size _).trans (hb3.mono (by have := HB2.out.size; simp; omega)))
  have hconv : (convert 22 9 (.slice A 4 c)).run Try.prog w3 = .ok (.string ⟨#[10, 0, 0, 0]⟩) w3 := conv_any A c [10, 0, 0, 0] _ w3 hby
  have hL3 : Hid (w1.heap.size < w3.heap.size ∧ w2.heap.size < w3.heap.size) := hide (by have : w1.heap.size < w2.heap.size := L12; have := hb3.size; simp at this; omega)
  have C4 := hide (fun W => within_any W X M false false knB knM 12 HX.out HM.out (by decide) (by decide))
  rw [kn_within] at C4
  clear C3 hb3 hby hx2
  go_wp2_with fail
  refine (C4.out _).mono ?_
  rintro e w4 ⟨rfl, hb4⟩
  have hx4 := row_kept hb4 (by have := hL3.out; omega) hx3
  have hm4 := row_kept hb4 (by have := hL3.out; omega) hm3
  have HB4 : Hid (Below w.heap.size w w4) := hide (HB3.out.trans (hb4.mono HB3.out.size))
  have C5 := hide (fun W => less_any W M X false false knM knB HM.out HX.out)
  rw [kn_less] at C5
  clear C4 hb4 hconv
  go_wp2_with fail
  refine (C5.out _).mono ?_
  rintro e w5 ⟨rfl, hb5⟩
  dsimp only
  go_wp2
  go_ret
  exact ⟨rfl, HB4.out.trans (hb5.mono HB4.out.size)⟩
end Go.Proofs.Ytgbmamahkpkdfaa
