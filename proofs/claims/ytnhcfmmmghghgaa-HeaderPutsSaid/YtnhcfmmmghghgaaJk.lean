/-
  The fixed calls of steelyardlaw04.
-/
import Derived.Test.YtnhcfmmmghghgaaJb
namespace Go.Proofs.Ytnhcfmmmghghgaa
open Go.RowKit
attribute [local go_sem ↓] exec_span exec_put exec_build heap_alloc_new heap_old
attribute [local go_sem] spanQ_ptr spanC_some heap_of_drew heap_of_drewN rs_arr rs_ad rs_ip rs_rip putAt_ptr putOk_ptr oldOk_some World.setRow_alloc_new
set_option maxRecDepth 100000
set_option linter.unusedVariables false
set_option linter.unusedSimpArgs false

theorem built_k1 : Try.prog.built 28 [(3, .int .i64 17), (4, .int .i64 64)] = some (ipL (nIp 17 64 0 0 false)).toArray := by kernel_rfl
def four (x : UInt8) : List UInt8 := [10, 0, 0, x] ++ List.replicate 12 0
theorem built_k2 (x : UInt8) : Try.prog.built 22 [(0, .int .u8 10), (1, .int .u8 0), (2, .int .u8 0), (3, .int .u8 (x.toNat : Int))] = some ((four x).map byteV).toArray := by kernel_rfl

/-- the fixed packet, and its bytes. -/
def hK : Ip := ⟨false, false, four 1, false, four 2, 17, 64, 0, 0, false, 0, none, 0, 0, none, 0, 0⟩
def kB : List UInt8 := [69, 0, 0, 20, 0, 0, 0, 0, 64, 17, 102, 215, 10, 0, 0, 1, 10, 0, 0, 2]
theorem hK_E : pktE hK = 0 := by decide +kernel
theorem hK_B : pktB hK [] [] = kB := by decide +kernel
theorem kB_E : pkE kB = 0 := by decide +kernel

set_option maxHeartbeats 2000000 in
theorem knownI_any (w : World) : Calls Try.prog 14 #[] w fun e w' => e = .returned (.bool true) ∧ Below w.heap.size w w' := by
  have k1 := built_k1
  have k2 := built_k2 1
  have k3 := built_k2 2
  obtain ⟨X, hX⟩ : ∃ X, X = (ipL (nIp 17 64 0 0 false)).toArray := ⟨_, rfl⟩
  rw [← hX] at k1
  have hXs : X.size = 43 := by rw [hX]; exact (nIp_ok 17 64 0 0 false).size
  have hXo : allOne X = true := by rw [hX]; exact (nIp_ok 17 64 0 0 false).one
  have HX := hide hX
  clear hX
  go_enter Try.func14, Try.ntmps14
  go_upto_region 4 with (fail)
  obtain ⟨X1, hX1⟩ : ∃ X1, X1 = ((((((((((((((((((((((((((((((((X.setIfInBounds 2 (Value.int IntKind.u8 10)).setIfInBounds 3 (Value.int IntKind.u8 0)).setIfInBounds 4 (Value.int IntKind.u8 0)).setIfInBounds 5 (Value.int IntKind.u8 1)).setIfInBounds 6 (Value.int IntKind.u8 0)).setIfInBounds 7 (Value.int IntKind.u8 0)).setIfInBounds 8 (Value.int IntKind.u8 0)).setIfInBounds 9 (Value.int IntKind.u8 0)).setIfInBounds 10 (Value.int IntKind.u8 0)).setIfInBounds 11 (Value.int IntKind.u8 0)).setIfInBounds 12 (Value.int IntKind.u8 0)).setIfInBounds 13 (Value.int IntKind.u8 0)).setIfInBounds 14 (Value.int IntKind.u8 0)).setIfInBounds 15 (Value.int IntKind.u8 0)).setIfInBounds 16 (Value.int IntKind.u8 0)).setIfInBounds 17 (Value.int IntKind.u8 0)).setIfInBounds 19 (Value.int IntKind.u8 10)).setIfInBounds 20 (Value.int IntKind.u8 0)).setIfInBounds 21 (Value.int IntKind.u8 0)).setIfInBounds 22 (Value.int IntKind.u8 2)).setIfInBounds 23 (Value.int IntKind.u8 0)).setIfInBounds 24 (Value.int IntKind.u8 0)).setIfInBounds 25 (Value.int IntKind.u8 0)).setIfInBounds 26 (Value.int IntKind.u8 0)).setIfInBounds 27 (Value.int IntKind.u8 0)).setIfInBounds 28 (Value.int IntKind.u8 0)).setIfInBounds 29 (Value.int IntKind.u8 0)).setIfInBounds 30 (Value.int IntKind.u8 0)).setIfInBounds 31 (Value.int IntKind.u8 0)).setIfInBounds 32 (Value.int IntKind.u8 0)).setIfInBounds 33 (Value.int IntKind.u8 0)).setIfInBounds 34 (Value.int IntKind.u8 0)) := ⟨_, rfl⟩
  rw [← hX1]
  have hV : IpV X1 hK := ⟨by rw [hX1, HX.out]; rfl, rfl, rfl⟩
  clear hX1 HX hXs hXo k1 k2 k3
  have hr := heap_alloc_new w (.cells X1 28)
  have hb : Below w.heap.size w (w.alloc (.cells X1 28)) := (Below.refl _ _).alloc (Nat.le_refl _) _
  have hz : (w.alloc (.cells X1 28)).heap.size = w.heap.size + 1 := by simp
  generalize w.alloc (.cells X1 28) = W at hr hb hz ⊢
  have hxs := hV.size
  have hxr := hV.x0
  have P := putH_any W X1 hK hV [] [] (Byt.nil _ _ _) rfl (Byt.nil _ _ _) rfl (by decide) (by decide)
  rw [hK_E, hK_B] at P
  have HP := hide P
  have HB := hide hb
  have HZ := hide hz
  clear P hb hz
  go_wp2_with fail
  refine HP.out.mono ?_
  rintro e w2 ⟨A, c, rfl, ho, hb2⟩
  have hr2 := (hb2.block w.heap.size (by have := HZ.out; omega)).trans hr
  obtain ⟨A', c', hv, hlc, hby, hnil, -⟩ := ho.shape
  cases hv
  have Q := parse_any w2 w2.heap.size A kB c hlc (by decide) hby (Nat.le_refl _)
  have cv := fun (W1 : World) (h1 : Byt W1 w2.heap.size A kB) => conv_any A c kB w2.heap.size W1 h1
  have HQ := hide Q
  have HBy := hide hby
  have HR2 := hide hr2
  have HB2 : Hid (Below w.heap.size w w2) := hide (HB.out.trans (hb2.mono HB.out.size))
  have hl20 : kB.length = 20 := rfl
  rw [hl20] at HQ cv
  have HCV := hide cv
  clear Q hby hr hr2 ho hb2 hlc hnil HP cv
  rw [hl20]
  clear hl20
  go_wp2_with fail
  refine HQ.out.mono ?_
  rintro e w3 ⟨X5, rfl, hb3, -, hok⟩
  rw [kB_E]
  have hp := hok kB_E
  rcases hp with ⟨-, -, ao, co, ad, cd, hV5, -, -⟩ | ⟨h6, -, -⟩
  · have hs5 := hV5.size
    have ho5 := hV5.one
    have h05 := hV5.x0
    have hr5 := heap_alloc_new w3 (.cells X5 28)
    have hc36 := (hV5.cells hr5).c36
    have hb5 : Below w2.heap.size w2 (w3.alloc (.cells X5 28)) := hb3.alloc hb3.size _
    have hr15 : (w3.alloc (.cells X5 28)).heap[w.heap.size]? = some (.cells X1 28 (0, 0)) := (hb5.block _ (Array.getElem?_eq_some_iff.1 HR2.out).1).trans HR2.out
    have hcv := HCV.out (w3.alloc (.cells X5 28)) (HBy.out.below hb5)
    obtain ⟨S, hS⟩ : ∃ S, S = (adL false (four 1)).toArray := ⟨_, rfl⟩
    have hS5 : X5.extract 1 18 = S := by rw [hV5.src, hS]; rfl
    have hS1 : X1.extract 1 18 = S := by rw [hV.src, hS]; rfl
    have heq : ∀ W, (binOp .eql 24 (.agg S) (.agg S)).run Try.prog W = .ok (.bool true) W := fun W => by
      have h := eql_ad W S S false false (four 1) (four 1) (by rw [hS]; exact AdV.mk' rfl) (by rw [hS]; exact AdV.mk' rfl)
      rw [h]
      congr 2
    have hstr : (⟨kB.toArray⟩ : ByteArray) = ⟨#[69, 0, 0, 20, 0, 0, 0, 0, 64, 17, 102, 215, 10, 0, 0, 1, 10, 0, 0, 2]⟩ := rfl
    rw [hstr] at hcv
    have HB5 := hide hb5
    have H36 : (w3.alloc (.cells X5 28)).cell? ⟨w3.heap.size, 36, none⟩ = some (.int .i64 64) := hc36
    clear hV5 hV hS hb5 hb3 hok hstr hc36 HQ HCV
    go_wp2
    go_ret
    exact ⟨rfl, HB2.out.trans (HB5.out.mono HB2.out.size)⟩
  · exact absurd h6 (by decide)
end Go.Proofs.Ytnhcfmmmghghgaa
