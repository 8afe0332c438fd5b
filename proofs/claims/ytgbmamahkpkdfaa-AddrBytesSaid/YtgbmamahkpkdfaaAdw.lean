/-
  The walks of Within: are two addresses alike in so many first bits, the program's and the document's own.
-/
import Derived.Test.YtgbmamahkpkdfaaAdq
namespace Go.Proofs.Ytgbmamahkpkdfaa
open Go.RowKit
attribute [local go_sem ↓] exec_span exec_put exec_build heap_alloc_new heap_old
attribute [local go_sem] spanQ_ptr spanC_some heap_of_drew rs_arr rs_ad putAt_ptr putOk_ptr oldOk_some built_none World.setRow_alloc_new
set_option maxRecDepth 100000
set_option linter.unusedVariables false

def withinS (v : Bool) (l : List UInt8) (v' : Bool) (l' : List UInt8) (n : Int) : Bool := maskOk v l n && maskOk v' l' n && (v == v' && maskL l n.toNat == maskL l' n.toNat)


theorem within_yes {v v' : Bool} {l l' : List UInt8} {n : Int} (h : maskOk v l n = true) (h' : maskOk v' l' n = true) : (maskV v l n == maskV v' l' n && maskB v l n == maskB v' l' n) = withinS v l v' l' n := by
  unfold withinS
  rw [h, h', mask_yesV h, mask_yesV h', mask_yesB h, mask_yesB h']
  rfl
theorem within_no {v v' : Bool} {l l' : List UInt8} {n : Int} (h : ¬ (maskOk v l n = true ∧ maskOk v' l' n = true)) : withinS v l v' l' n = false := by
  unfold withinS
  cases h1 : maskOk v l n <;> cases h2 : maskOk v' l' n <;> simp_all

set_option maxHeartbeats 2000000 in
theorem within_any (w : World) (X Y : Array Value) (v v' : Bool) (l l' : List UInt8) (n : Int) (h : AdV X v l) (h' : AdV Y v' l') (hn0 : -9223372036854775808 ≤ n) (hn1 : n ≤ 9223372036854775807) :
    Calls Try.prog 88 #[.agg X, .agg Y, .int .i64 n] w fun e w' => e = .returned (.bool (withinS v l v' l' n)) ∧ Below w.heap.size w w' := by
  go_enter Try.func88, Try.ntmps88
  have hxs := h.size
  have hys := h'.size
  have hxr := h.x0
  have hyr := h'.x0
  obtain ⟨W, hW, h1, h2, hz, hb⟩ := two_blocks w (.cells X 60) (.cells Y 60)
  have hB := hide hb
  have hlt : Hid (W.heap.size = w.heap.size + 2) := hide hz
  have hm := hide (fun W => mask_any W X v l n h hn0 hn1)
  have hm' := hide (fun W => mask_any W Y v' l' n h' hn0 hn1)
  have H2 := hide h2
  obtain ⟨E, hE⟩ : ∃ E, E = maskE v l n := ⟨_, rfl⟩
  obtain ⟨E', hE'⟩ : ∃ E, E = maskE v' l' n := ⟨_, rfl⟩
  rw [← hE] at hm
  rw [← hE'] at hm'
  have HE := hide hE
  have HE' := hide hE'
  clear hz hb hE hE'
  by_cases ho : maskOk v l n = true
  · by_cases ho' : maskOk v' l' n = true
    · have HO := hide ho
      have HO' := hide ho'
      obtain rfl : E = 0 := by rw [HE.out, mask_yes ho]
      obtain rfl : E' = 0 := by rw [HE'.out, mask_yes ho']
      clear ho ho'
      go_wp2_with fail
      refine (hm.out _).mono ?_
      rintro e w2 ⟨⟨A, rfl, hA⟩, hb2⟩
      have hAs := hA.size
      have hAo : allOne A = true := hA.one
      have hAr := hA.x0
      have HA := hide hA
      have h22 := row_kept hb2 (by have := hlt.out; omega) H2.out
      have LT1 : LtN (w.heap.size + 1) w2.heap.size := by have := hlt.out; have := hb2.size; show _ < _; omega
      clear hA
      go_wp2_with fail
      refine (hm'.out _).mono ?_
      rintro e w3 ⟨⟨B, rfl, hB'⟩, hb3⟩
      have hBs := hB'.size
      have hBo : allOne B = true := hB'.one
      have hBr := hB'.x0
      have HBB := hide hB'
      have h23 := row_kept hb3 (by simp) (heap_alloc_new w2 (.cells A 60))
      have LT2 : LtN w2.heap.size w3.heap.size := by have := hb3.size; simp at this; show _ < _; omega
      have HB3 : Hid (Below w.heap.size w w3) := hide ((hB.out.trans (hb2.mono (by have := hlt.out; omega))).trans ((((Below.refl _ _).alloc (by have := hlt.out; have := hb2.size; omega) _).trans (hb3.mono (by have := hlt.out; have := hb2.size; simp; omega)))))
      have LT3 : Hid (w.heap.size ≤ w3.heap.size) := hide HB3.out.size
      clear hB'
      go_wp2_with fail
      refine (adsame_any _ A B _ _ _ _ HA.out HBB.out).mono ?_
      rintro e w4 ⟨rfl, hb4⟩
      have hwy := hide (within_yes HO.out HO'.out)
      obtain ⟨b, hb⟩ : ∃ b, b = (maskV v l n == maskV v' l' n && maskB v l n == maskB v' l' n) := ⟨_, rfl⟩
      rw [← hb] at hwy ⊢
      clear hb
      go_wp2
      go_ret
      exact ⟨congrArg (fun b => Ending.returned (.bool b)) hwy.out, (HB3.out.alloc LT3.out _).trans (hb4.mono (by have := LT3.out; simp; omega))⟩
    · have hno := hide (within_no (v := v) (l := l) (v' := v') (l' := l') (n := n) (fun e => ho' e.2))
      obtain rfl : E = 0 := by rw [HE.out, mask_yes ho]
      obtain rfl : E' = 1 := by rw [HE'.out, mask_no (Bool.eq_false_iff.2 ho')]
      clear ho ho'
      go_wp2_with fail
      refine (hm.out _).mono ?_
      rintro e w2 ⟨⟨A, rfl, hA⟩, hb2⟩
      have hAs := hA.size
      have hAo : allOne A = true := hA.one
      have hAr := hA.x0
      have HA := hide hA
      have h22 := row_kept hb2 (by have := hlt.out; omega) H2.out
      have LT1 : LtN (w.heap.size + 1) w2.heap.size := by have := hlt.out; have := hb2.size; show _ < _; omega
      clear hA
      go_wp2_with fail
      refine (hm'.out _).mono ?_
      rintro e w3 ⟨⟨B, rfl, hB'⟩, hb3⟩
      have hBs := hB'.size
      have hBo : allOne B = true := hB'.one
      have hBr := hB'.x0
      have HBB := hide hB'
      have h23 := row_kept hb3 (by simp) (heap_alloc_new w2 (.cells A 60))
      have LT2 : LtN w2.heap.size w3.heap.size := by have := hb3.size; simp at this; show _ < _; omega
      have HB3 : Hid (Below w.heap.size w w3) := hide ((hB.out.trans (hb2.mono (by have := hlt.out; omega))).trans ((((Below.refl _ _).alloc (by have := hlt.out; have := hb2.size; omega) _).trans (hb3.mono (by have := hlt.out; have := hb2.size; simp; omega)))))
      have LT3 : Hid (w.heap.size ≤ w3.heap.size) := hide HB3.out.size
      clear hB'
      go_wp2
      go_ret
      exact ⟨by rw [hno.out]; rfl, HB3.out.alloc LT3.out _⟩
  · have hno := hide (within_no (v := v) (l := l) (v' := v') (l' := l') (n := n) (fun e => ho e.1))
    obtain rfl : E = 1 := by rw [HE.out, mask_no (Bool.eq_false_iff.2 ho)]
    clear ho
    go_wp2_with fail
    refine (hm.out _).mono ?_
    rintro e w2 ⟨⟨A, rfl, hA⟩, hb2⟩
    have hAs := hA.size
    have hAo : allOne A = true := hA.one
    have hAr := hA.x0
    have HA := hide hA
    have h22 := row_kept hb2 (by have := hlt.out; omega) H2.out
    have LT1 : LtN (w.heap.size + 1) w2.heap.size := by have := hlt.out; have := hb2.size; show _ < _; omega
    clear hA
    go_wp2_with fail
    refine (hm'.out _).mono ?_
    rintro e w3 ⟨⟨B, rfl, hB'⟩, hb3⟩
    have hBs := hB'.size
    have hBo : allOne B = true := hB'.one
    have hBr := hB'.x0
    have HBB := hide hB'
    have h23 := row_kept hb3 (by simp) (heap_alloc_new w2 (.cells A 60))
    have LT2 : LtN w2.heap.size w3.heap.size := by have := hb3.size; simp at this; show _ < _; omega
    have HB3 : Hid (Below w.heap.size w w3) := hide ((hB.out.trans (hb2.mono (by have := hlt.out; omega))).trans ((((Below.refl _ _).alloc (by have := hlt.out; have := hb2.size; omega) _).trans (hb3.mono (by have := hlt.out; have := hb2.size; simp; omega)))))
    have LT3 : Hid (w.heap.size ≤ w3.heap.size) := hide HB3.out.size
    clear hB'
    go_wp2
    go_ret
    exact ⟨by rw [hno.out]; rfl, HB3.out.alloc LT3.out _⟩

end Go.Proofs.Ytgbmamahkpkdfaa
