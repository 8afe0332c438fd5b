/-
  What must come of fixed calls of a wheel; WheelNil.
-/
import Derived.Test.YtjdedlmphghpnaaWia
namespace Go.Proofs.Ytjdedlmphghpnaa
open Go.RowKit
set_option maxRecDepth 100000
set_option linter.unusedVariables false
set_option linter.unusedSimpArgs false
attribute [local go_sem ↓] exec_span exec_put exec_build heap_alloc_new heap_old
attribute [local go_sem] spanQ_ptr spanC_some heap_of_drew heap_of_drewN putAt_ptr putOk_ptr oldOk_some World.setRow_alloc_new rs_Due built_due built_due0 rs_rDue built_rdue

/-- all that was there is kept, the wheel's blocks are above it. -/
def KeptF (B : Nat) (w0 w : World) (F : Nat → Prop) : Prop := Below B w0 w ∧ B ≤ w.heap.size ∧ ∀ k, F k → B ≤ k
theorem KeptF.step {B : Nat} {w0 w w' : World} {F F' : Nat → Prop} (h : KeptF B w0 w F) (hs : StW w w' F F') : KeptF B w0 w' F' :=
  ⟨h.1.trans ⟨hs.os, hs.tape, hs.output, hs.size, fun k hk => hs.block k (Nat.lt_of_lt_of_le hk h.2.1) (fun hf => by have := h.2.2 k hf; omega)⟩, Nat.le_trans h.2.1 hs.size, fun k hk => (hs.own k hk).elim (h.2.2 k) (fun h2 => Nat.le_trans h.2.1 h2)⟩
theorem KeptF.bel {B : Nat} {w0 w w' : World} {F : Nat → Prop} (h : KeptF B w0 w F) (hb : Below w.heap.size w w') : KeptF B w0 w' F := h.step (StW.below hb F)
theorem RowD.lit {w : World} {g : Nat} {X : Array Value} {t : TypeId} {l : List (Int × Int)} (h : w.heap[g]? = some (.cells X t (0, 0))) (hX : X.toList = rowD l) : RowD w (some ⟨g, 0, none⟩) l := fun j p hj => by
  have ht : X.toList.take (l.length * 2) = rowD l := by rw [hX, ← rowD_len, List.take_length]
  obtain ⟨h1, h2⟩ := rowD_span ht hj
  exact ⟨g, X, t, rfl, (Array.getElem?_eq_some_iff.1 h).1, h, h1, h2⟩
def knD : List (Int × Int) := [(9, 2), (3, 5), (7, 5)]
theorem knD_set : setR 0 (setR 0 (setR 0 [] 7 5) 3 5) 9 2 = knD := by decide
theorem knD_cut : cutN 5 knD = 3 := by decide
set_option maxHeartbeats 8000000 in
theorem known18_any (w : World) : Calls Try.prog 11 #[] w fun e w' => e = .returned (.bool true) ∧ Below w.heap.size w w' := by
  have KN := hide (newW_any w 0)
  go_enter Try.func11, Try.ntmps11
  go_upto_region 2 with (first | (go_at_call 9; (with_reducible refine KN.out.mono ?_); rintro e w1 ⟨hb, ⟨-, p, F, rfl, hp, hw, hF⟩ | ⟨hn, -⟩⟩; rotate_left; exact absurd (by decide) hn; have HW := hide hw; have HK : Hid (KeptF w.heap.size w w1 F) := hide ⟨hb, hb.size, fun k hk => by rw [hF k hk]; exact hp⟩; clear hb hw hF hp; dsimp only) | fail)
  go_upto_region 7 with (first | (go_at_call 12; (with_reducible refine (setW_any HW.out _ _).mono ?_); rintro e w2 ⟨F2, rfl, hw, hs⟩; have HK2 := hide (HK.out.step hs); clear HW HK; have HW := hide hw; have HK := HK2; clear hw hs HK2; dsimp only) | fail)
  rw [knD_set] at HW
  have KA := hide (advW_any HW.out (to := 5) ⟨by decide, by decide⟩)
  have HKa := HK
  clear HW HK
  go_upto_region 8 with (first | (go_at_call 16; (with_reducible refine KA.out.mono ?_); rintro e w5 ⟨t, F5, rfl, ht, hw, hs, -⟩; have HK5 := hide (HKa.out.step hs); have HW5 := hide hw; have HT := hide ht; clear hw hs ht; dsimp only) | fail)
  rw [knD_cut] at HT HW5
  obtain ⟨A, c, rfl, hAc, hc63, -, hrd⟩ := RowD.of_own HT.out
  have KT := hide (fun W (hb : Below w5.heap.size w5 W) => taken18_any W A 3 c (knD.take 3) rfl (hrd.below hb) (by decide))
  have HWe : Hid (WhW w5 p 5 [] F5) := HW5
  clear HT KA HKa hrd
  obtain ⟨w6, hw6⟩ : ∃ w6, w6 = w5 := ⟨_, rfl⟩
  go_wp2_with (first
    | (go_at_call 19; (with_reducible refine (KT.out w5 (Below.refl _ _)).mono ?_); rintro e w7 ⟨v, rfl, hv, hb7⟩; have HB7 := hide hb7; have HV := hide hv; clear hb7 hv; dsimp only) | fail)
  obtain ⟨A2, c2, rfl, hAc2, hc263, -, hrd2⟩ := RowD.of_ref HV.out
  obtain ⟨W8, hW8, r8, z8, b8⟩ := alloc_nm w7 (.cells #[.int .i64 9, .int .i64 2, .int .i64 3, .int .i64 5, .int .i64 7, .int .i64 5] 46)
  rw [hW8]
  refine (same18_any W8 A2 (some ⟨w7.heap.size, 0, none⟩) 3 c2 3 3 (knD.take 3) knD rfl rfl (hrd2.below b8) (RowD.lit r8 rfl) (by decide)).mono ?_
  rintro e w9 ⟨rfl, hb9⟩
  have hall : Below w5.heap.size w5 w9 := (HB7.out.trans (b8.mono HB7.out.size)).trans (hb9.mono (by have := b8.size; have := HB7.out.size; omega))
  have HW9 := hide (HWe.out.bel hall)
  have HK9 := hide (HK5.out.bel hall)
  clear hall hb9 b8 z8 r8 hrd2 HB7 HV KT HWe HK5 hW8
  dsimp only
  go_wp2_with (first
    | (go_at_call 21; (with_reducible refine (lenW_any HW9.out).mono ?_); rintro e w10 ⟨rfl, rfl⟩; dsimp only)
    | (go_at_call 22; (with_reducible refine (nowW_any HW9.out).mono ?_); rintro e w10 ⟨rfl, rfl⟩; dsimp only) | fail)
  go_ret
  exact ⟨by first | rfl | simp [knD], HK9.out.1⟩
end Go.Proofs.Ytjdedlmphghpnaa
