/-
  The fixed calls of steelyardlaw06.
-/
import Derived.Test.YtcfckhdohcaffaaNd
import Derived.Test.YtcfckhdohcaffaaMkp
import Derived.Test.YtcfckhdohcaffaaMtx
import Derived.Lib.SlBytesConst
namespace Go.Proofs.Ytcfckhdohcaffaa
open Go.RowKit
attribute [local go_sem ↓] exec_span exec_put exec_build heap_alloc_new heap_old heap_alloc_drew
attribute [local go_sem] spanQ_ptr spanC_some heap_of_drew heap_of_drewN rs_arr rs_ad rs_tup rs_seen rs_cnt putAt_ptr putOk_ptr oldOk_some World.setRow_alloc_new setRow_drew
set_option maxRecDepth 100000
set_option linter.unusedVariables false
set_option linter.unusedSimpArgs false

def tK6 : Tup := ⟨false, four 1, false, four 2, 17, 1, 2⟩
def nT6 : Tup := ⟨false, List.replicate 16 0, false, List.replicate 16 0, 17, 1, 2⟩
theorem built_t6 : Try.prog.built 52 [(2, .int .i64 17), (3, .int .i64 1), (4, .int .i64 2)] = some (tupL nT6).toArray := by kernel_rfl
theorem k6_E : mkE tK6 0 [97] = 0 := by decide +kernel
theorem k6_L : (mkB tK6 0 [97]).length = 29 := by decide +kernel
theorem k6_S : seenE (mkB tK6 0 [97]) = 0 := by decide +kernel
theorem k6_T : seenT (mkB tK6 0 [97]) = tK6 := by kernel_rfl
theorem k6_C : getL (addL (addL (List.replicate 12 0) 3 7 10) 3 7 10) 3 = 10 := by decide +kernel

set_option maxHeartbeats 4000000 in
theorem known6_any (w : World) : Calls Try.prog 24 #[] w fun e w' => e = .returned (.bool true) ∧ Below w.heap.size w w' := by
  have k1 := built_t6
  have k2 := built_k2 1
  have k3 := built_k2 2
  obtain ⟨X, hX⟩ : ∃ X, X = (tupL nT6).toArray := ⟨_, rfl⟩
  rw [← hX] at k1
  have hXs : X.size = 37 := by rw [hX]; exact TuV.size (t := nT6) ⟨rfl, by simp [nT6], by simp [nT6]⟩
  have hXo : allOne X = true := by rw [hX]; exact TuV.one (t := nT6) ⟨rfl, by simp [nT6], by simp [nT6]⟩
  have HX := hide hX
  clear hX
  go_enter Try.func24, Try.ntmps24
  go_upto_region 4 with (fail)
  obtain ⟨X1, hX1⟩ : ∃ X1, X1 = ((((((((((((((((((((((((((((((((X.setIfInBounds 1 (Value.int IntKind.u8 10)).setIfInBounds 2 (Value.int IntKind.u8 0)).setIfInBounds 3 (Value.int IntKind.u8 0)).setIfInBounds 4 (Value.int IntKind.u8 1)).setIfInBounds 5 (Value.int IntKind.u8 0)).setIfInBounds 6 (Value.int IntKind.u8 0)).setIfInBounds 7 (Value.int IntKind.u8 0)).setIfInBounds 8 (Value.int IntKind.u8 0)).setIfInBounds 9 (Value.int IntKind.u8 0)).setIfInBounds 10 (Value.int IntKind.u8 0)).setIfInBounds 11 (Value.int IntKind.u8 0)).setIfInBounds 12 (Value.int IntKind.u8 0)).setIfInBounds 13 (Value.int IntKind.u8 0)).setIfInBounds 14 (Value.int IntKind.u8 0)).setIfInBounds 15 (Value.int IntKind.u8 0)).setIfInBounds 16 (Value.int IntKind.u8 0)).setIfInBounds 18 (Value.int IntKind.u8 10)).setIfInBounds 19 (Value.int IntKind.u8 0)).setIfInBounds 20 (Value.int IntKind.u8 0)).setIfInBounds 21 (Value.int IntKind.u8 2)).setIfInBounds 22 (Value.int IntKind.u8 0)).setIfInBounds 23 (Value.int IntKind.u8 0)).setIfInBounds 24 (Value.int IntKind.u8 0)).setIfInBounds 25 (Value.int IntKind.u8 0)).setIfInBounds 26 (Value.int IntKind.u8 0)).setIfInBounds 27 (Value.int IntKind.u8 0)).setIfInBounds 28 (Value.int IntKind.u8 0)).setIfInBounds 29 (Value.int IntKind.u8 0)).setIfInBounds 30 (Value.int IntKind.u8 0)).setIfInBounds 31 (Value.int IntKind.u8 0)).setIfInBounds 32 (Value.int IntKind.u8 0)).setIfInBounds 33 (Value.int IntKind.u8 0)) := ⟨_, rfl⟩
  rw [← hX1]
  have hV : TuV X1 tK6 := ⟨by rw [hX1, HX.out]; rfl, rfl, rfl⟩
  clear hX1 HX hXs hXo k1 k2 k3
  have hr := heap_alloc_new w (.cells X1 52)
  have hb : Below w.heap.size w (w.alloc (.cells X1 52)) := (Below.refl _ _).alloc (Nat.le_refl _) _
  have hz : (w.alloc (.cells X1 52)).heap.size = w.heap.size + 1 := by simp
  generalize w.alloc (.cells X1 52) = W at hr hb hz ⊢
  have hxs := hV.size
  have hxr := hV.x0
  have hb1 : Below W.heap.size W (W.alloc (.cells #[.int .u8 97] 5 (1, 2))) := (Below.refl _ _).alloc (Nat.le_refl _) _
  have P := make_any (W.alloc (.cells #[.int .u8 97] 5 (1, 2))) X1 tK6 hV 0 (some ⟨W.heap.size, 0, none⟩) 1 [97] (by
    have := Byt.lit W [97] #[.int .u8 97] 5 (1, 2) rfl
    rwa [show (W.alloc (.cells #[.int .u8 97] 5 (1, 2))).heap.size = W.heap.size + 1 by simp]) (Nat.le_refl _) (by decide) (fun e => by cases e)
  have kc := Lib.run_convert_bytes_const (P := Try.prog) W 25 5 #[.int .u8 97] 1 1 Try.underlying25 Try.underlying5
  have kc' : (convert 25 25 (.slice (some ⟨W.heap.size, 0, none⟩) 1 1)).run Try.prog (W.alloc (.cells #[.int .u8 97] 5)) = .ok (.slice (some ⟨W.heap.size, 0, none⟩) 1 1) (W.alloc (.cells #[.int .u8 97] 5 (1, 2))) := kc
  clear kc
  have HP := hide P
  have HB := hide hb
  have HB1 := hide hb1
  have HZ := hide hz
  have HV := hide hV
  clear P hb hz hb1 hV
  go_wp2_with fail
  refine HP.out.mono ?_
  rintro e w2 ⟨A, c, rfl, ho, b2⟩
  rw [k6_E]
  obtain ⟨KB, hKB⟩ : ∃ KB, KB = mkB tK6 0 [97] := ⟨_, rfl⟩
  have hl29 : KB.length = 29 := by rw [hKB]; exact k6_L
  have hsE : seenE KB = 0 := by rw [hKB]; exact k6_S
  have hsT : seenT KB = tK6 := by rw [hKB]; exact k6_T
  rw [← hKB] at ho ⊢
  obtain ⟨A', c', hv', hlc, hby, hnil, -⟩ := ho.shape
  cases hv'
  have B2 : Hid (Below W.heap.size W w2) := hide (HB1.out.trans (b2.mono HB1.out.size))
  have KO := tof_any w2 w2.heap.size A KB c hlc (by rw [hl29]; decide) hby (Nat.le_refl _)
  rw [hl29] at KO ⊢
  have HKO := hide KO
  clear hKB ho hby hnil b2 KO hlc HP kc'
  dsimp only
  go_wp2_with fail
  refine HKO.out.mono ?_
  rintro e w3 ⟨X3, rfl, b3, -, hok⟩
  rw [hsE]
  have V3 := hok hsE
  rw [hsT, hl29] at V3
  have h3s := V3.size
  have h3o := V3.one
  have B3 : Hid (Below W.heap.size W w3) := hide (B2.out.trans (b3.mono B2.out.size))
  have r3 := heap_alloc_new w3 (.cells X3 54)
  have B4 : Hid (Below W.heap.size W (w3.alloc (.cells X3 54))) := hide (B3.out.alloc B3.out.size _)
  have hg3 : w3.heap.size < (w3.alloc (.cells X3 54)).heap.size := by simp
  obtain ⟨G, hG⟩ : ∃ G, G = w3.heap.size := ⟨_, rfl⟩
  have HRT := hide ((B4.out.block w.heap.size (by have := HZ.out; omega)).trans hr)
  have HV3 := hide V3
  clear b3 hok hsE hsT hr V3 HKO
  dsimp only
  go_upto_region 6 with (fail)
  rw [← hG] at r3 hg3 ⊢
  generalize w3.alloc (.cells X3 54) = w4 at r3 B4 hg3 HRT ⊢
  clear hG
  have HR3 := hide r3
  have HG3 := hide hg3
  clear r3 hg3
  go_wp2_with fail
  refine (newC_any w4 10 (by decide)).mono ?_
  rintro e w5 ⟨gc, rfl, C5, hgc, b5⟩
  have B5 : Hid (Below w4.heap.size w4 w5) := hide b5
  have HC5 := hide C5
  have HGC := hide hgc
  clear C5 hgc b5
  dsimp only
  go_wp2_with fail
  refine (addC_any w5 gc 10 _ HC5.out 3 7 (by decide)).mono ?_
  rintro e w6 ⟨rfl, C6, g6⟩
  have B6 : Hid (Below w4.heap.size w4 w6) := hide (B5.out.grown g6 B5.out.size (fun i e => by cases e; exact HGC.out))
  have HC6 := hide C6
  clear C6 g6
  dsimp only
  go_wp2_with fail
  refine (addC_any w6 gc 10 _ HC6.out 3 7 (by decide)).mono ?_
  rintro e w7 ⟨rfl, C7, g7⟩
  have B7 : Hid (Below w4.heap.size w4 w7) := hide (B6.out.grown g7 B6.out.size (fun i e => by cases e; exact HGC.out))
  have HC7 := hide C7
  have r7 := (B7.out.block G HG3.out).trans HR3.out
  have t7 := (B7.out.block w.heap.size (Array.getElem?_eq_some_iff.1 HRT.out).1).trans HRT.out
  have c38 := (HV3.out.cells r7).2
  have x3 := HV3.out.tup
  obtain ⟨XT, hXT⟩ : ∃ XT, XT = (tupL tK6).toArray := ⟨_, rfl⟩
  rw [← hXT] at x3
  have hVT : TuV XT tK6 := ⟨hXT, rfl, rfl⟩
  have heq : ∀ W', (binOp .eql 52 (.agg XT) (.agg X1)).run Try.prog W' = .ok (.bool true) W' := fun W' => by
    rw [eql_tu W' XT X1 tK6 tK6 hVT HV.out, (sameT_iff _ _).2 rfl]
  have KG := getC_any w7 gc 10 _ HC7.out 3
  rw [k6_C] at KG
  have HKG := hide KG
  have HBW : Hid (Below w.heap.size w w7) := hide (HB.out.trans ((B4.out.trans (B7.out.mono B4.out.size)).mono HB.out.size))
  clear C7 g7 hXT hVT KG
  dsimp only
  go_wp2_with fail
  refine HKG.out.mono ?_
  rintro e w8 ⟨rfl, rfl⟩
  dsimp only
  go_wp2
  go_ret
  exact ⟨rfl, HBW.out⟩
end Go.Proofs.Ytcfckhdohcaffaa
