/-
  The walks of the first bits of an address: Mask and Within, the program's and the document's own.
-/
import Derived.Test.YtgbmamahkpkdfaaAdl
namespace Go.Proofs.Ytgbmamahkpkdfaa
open Go.RowKit
attribute [local go_sem ↓] exec_span exec_put exec_build
attribute [local go_sem] spanQ_ptr spanC_some heap_of_drew rs_arr rs_ad putAt_ptr putOk_ptr oldOk_some built_none built_kind
set_option maxRecDepth 100000
set_option linter.unusedVariables false

/-- what a masked address is, and the error. -/
def maskOk (v : Bool) (l : List UInt8) (n : Int) : Bool := rightL v l && decide (0 ≤ n) && decide (n ≤ ((8 * sizeA v : Nat) : Int))
def maskV (v : Bool) (l : List UInt8) (n : Int) : Bool := maskOk v l n && v
def maskB (v : Bool) (l : List UInt8) (n : Int) : List UInt8 := if maskOk v l n then maskL l n.toNat else List.replicate 16 0
def maskE (v : Bool) (l : List UInt8) (n : Int) : Int := if maskOk v l n then 0 else 1
theorem length_maskB (v : Bool) (l : List UInt8) (n : Int) (h : l.length = 16) : (maskB v l n).length = 16 := by
  unfold maskB; split
  · rw [length_maskL, h]
  · simp


theorem mask_no {v : Bool} {l : List UInt8} {n : Int} (h : maskOk v l n = false) : maskE v l n = 1 := by unfold maskE; rw [h]; rfl
theorem mask_noV {v : Bool} {l : List UInt8} {n : Int} (h : maskOk v l n = false) : maskV v l n = false := by unfold maskV; rw [h]; rfl
theorem mask_noB {v : Bool} {l : List UInt8} {n : Int} (h : maskOk v l n = false) : maskB v l n = List.replicate 16 0 := by unfold maskB; rw [h]; rfl
theorem mask_yes {v : Bool} {l : List UInt8} {n : Int} (h : maskOk v l n = true) : maskE v l n = 0 := by unfold maskE; rw [h]; rfl
theorem mask_yesV {v : Bool} {l : List UInt8} {n : Int} (h : maskOk v l n = true) : maskV v l n = v := by unfold maskV; rw [h]; rfl
theorem mask_yesB {v : Bool} {l : List UInt8} {n : Int} (h : maskOk v l n = true) : maskB v l n = maskL l n.toNat := by unfold maskB; rw [h]; rfl

theorem row_kept {B : Nat} {W w2 : World} {g : Nat} {o : Obj} (hb : Below B W w2) (hg : g < B) (h : W.heap[g]? = some o) : w2.heap[g]? = some o := (hb.block g hg).trans h

set_option maxHeartbeats 2000000 in
theorem mask_any (w : World) (X : Array Value) (v : Bool) (l : List UInt8) (n : Int) (h : AdV X v l) (hn0 : -9223372036854775808 ≤ n) (hn1 : n ≤ 9223372036854775807) :
    Calls Try.prog 86 #[.agg X, .int .i64 n] w fun e w' => (∃ Y, e = .returned (.tuple #[.agg Y, .int .i64 (maskE v l n)]) ∧ AdV Y (maskV v l n) (maskB v l n)) ∧ Below w.heap.size w w' := by
  go_enter Try.func86, Try.ntmps86
  have hx0 := h.c0
  have hxs := h.size
  have hxr := h.x0
  have hx1 := h.x1
  obtain ⟨W, hW, h1, h2, hz, hb⟩ := two_blocks w (.cells X 60) (.cells adZ 60)
  rw [adZ_ok] at hW
  have hzs := adZ_size
  have hrt := hide (fun W => right_any W X v l h)
  have hsz := hide (fun W => size_any W X v l h)
  have hB := hide hb
  have hlt : Hid (W.heap.size = w.heap.size + 2) := hide hz
  have H1 := hide h1
  have H2 := hide h2
  clear hz hb
  obtain ⟨R, hR⟩ : ∃ R, R = rightL v l := ⟨_, rfl⟩
  rw [← hR] at hrt
  have HR := hide hR
  clear hR
  have hzo : allOne adZ = true := adZ_ad.one
  cases R
  · have hok : maskOk v l n = false := by unfold maskOk; rw [← HR.out]; simp
    have HOK := hide hok
    clear hok
    go_wp2_with (go_at_call 84; refine (hrt.out _).mono ?_; rintro e w2 ⟨rfl, hb2⟩; have h12 := row_kept hb2 (by have := hlt.out; simp; omega) H1.out; have h22 := row_kept hb2 (by have := hlt.out; simp; omega) H2.out)
    refine bodyPost_ret (results_cell_tmp (fn := Try.f86) Try.results86 _ _ (w.heap.size + 1) 60 adZ (0, 0) _ rfl (setRow_heap w2 _ _ _ _ _ h22) Try.underlying60 rfl info_ad) rfl ⟨⟨adZ, ?_, ?_⟩, below_setRow (hB.out.trans (hb2.mono (by have := hlt.out; omega))) (by omega) _⟩
    · rw [mask_no HOK.out]; rfl
    · rw [mask_noV HOK.out, mask_noB HOK.out]; exact adZ_ad
  · by_cases hneg : n < 0
    · have hok : maskOk v l n = false := by unfold maskOk; rw [show decide (0 ≤ n) = false from decide_eq_false (by omega)]; simp
      have HOK := hide hok
      clear hok
      go_wp2_with (go_at_call 84; refine (hrt.out _).mono ?_; rintro e w2 ⟨rfl, hb2⟩; have h12 := row_kept hb2 (by have := hlt.out; simp; omega) H1.out; have h22 := row_kept hb2 (by have := hlt.out; simp; omega) H2.out)
      refine bodyPost_ret (results_cell_tmp (fn := Try.f86) Try.results86 _ _ (w.heap.size + 1) 60 adZ (0, 0) _ rfl (setRow_heap w2 _ _ _ _ _ h22) Try.underlying60 rfl info_ad) rfl ⟨⟨adZ, ?_, ?_⟩, below_setRow (hB.out.trans (hb2.mono (by have := hlt.out; omega))) (by omega) _⟩
      · rw [mask_no HOK.out]; rfl
      · rw [mask_noV HOK.out, mask_noB HOK.out]; exact adZ_ad
    · obtain ⟨S, hS⟩ : ∃ S, S = sizeA v := ⟨_, rfl⟩
      have hS16 : S ≤ 16 := by rw [hS]; unfold sizeA; split <;> omega
      rw [← hS] at hsz
      have HS := hide hS
      clear hS
      by_cases hbig : n > 8 * (S : Int)
      · have hok : maskOk v l n = false := by unfold maskOk; rw [← HS.out, show decide (n ≤ ((8 * S : Nat) : Int)) = false from decide_eq_false (by omega)]; simp
        have HOK := hide hok
        clear hok
        go_wp2_with (first
          | (go_at_call 84; refine (hrt.out _).mono ?_; rintro e w2 ⟨rfl, hb2⟩; have h12 := row_kept hb2 (by have := hlt.out; simp; omega) H1.out; have h22 := row_kept hb2 (by have := hlt.out; simp; omega) H2.out)
          | (go_at_call 124; refine (hsz.out _).mono ?_; rintro e w3 ⟨rfl, hb3⟩; have hlt2 : Hid (W.heap.size ≤ w2.heap.size) := hide (by exact hb2.size); have h13 := row_kept hb3 (by have := hlt.out; have := hlt2.out; omega) h12; have h23 := row_kept hb3 (by have := hlt.out; have := hlt2.out; omega) h22))
        refine bodyPost_ret (results_cell_tmp (fn := Try.f86) Try.results86 _ _ (w.heap.size + 1) 60 adZ (0, 0) _ rfl (setRow_heap w3 _ _ _ _ _ h23) Try.underlying60 rfl info_ad) rfl ⟨⟨adZ, ?_, ?_⟩, below_setRow ((hB.out.trans (hb2.mono (by have := hlt.out; omega))).trans (hb3.mono (by have := hlt.out; have := hlt2.out; omega))) (by omega) _⟩
        · rw [mask_no HOK.out]; rfl
        · rw [mask_noV HOK.out, mask_noB HOK.out]; exact adZ_ad
      · have hok : maskOk v l n = true := by unfold maskOk; rw [← HS.out, ← HR.out, show decide (n ≤ ((8 * S : Nat) : Int)) = true from decide_eq_true (by omega), show decide (0 ≤ n) = true from decide_eq_true (by omega)]; rfl
        have HOK := hide hok
        clear hok
        obtain ⟨k, rfl⟩ : ∃ k : Nat, n = (k : Int) := ⟨n.toNat, by omega⟩
        have hfst := hide (fun W => first_any W l k h.len (by omega))
        have hbd := built_both v (maskL l k) (by rw [length_maskL, h.len])
        have hYs : AdV (adL v (maskL l k)).toArray v (maskL l k) := AdV.mk' (by rw [length_maskL, h.len])
        obtain ⟨Y, hY⟩ : ∃ Y, Y = (adL v (maskL l k)).toArray := ⟨_, rfl⟩
        rw [← hY] at hbd hYs
        have hYz := hYs.size
        have hYo : allOne Y = true := hYs.one
        have hK := fun (W : World) (g : Nat) (hg : W.heap[g]? = some (.cells X 60 (0, 0))) => h.kind hg
        have HKK := hide hK
        clear hY hK
        go_wp2_with (first
          | (go_at_call 84; refine (hrt.out _).mono ?_; rintro e w2 ⟨rfl, hb2⟩; have h12 := row_kept hb2 (by have := hlt.out; simp; omega) H1.out; have h22 := row_kept hb2 (by have := hlt.out; simp; omega) H2.out)
          | (go_at_call 124; refine (hsz.out _).mono ?_; rintro e w3 ⟨rfl, hb3⟩; have hlt2 : Hid (W.heap.size ≤ w2.heap.size) := hide (by exact hb2.size); have h13 := row_kept hb3 (by have := hlt.out; have := hlt2.out; omega) h12; have h23 := row_kept hb3 (by have := hlt.out; have := hlt2.out; omega) h22; have k13 := HKK.out w3 _ h13))
        have hlt3 : Hid (w2.heap.size ≤ w3.heap.size) := hide (by exact hb3.size)
        go_region_law (go_simp; go_at_call 123; refine (hfst.out _).mono ?_; rintro e w4 ⟨rfl, hb4⟩; have h14 := row_kept hb4 (by have := hlt.out; have := hlt2.out; have := hlt3.out; simp; omega) h13; have h24 := row_kept hb4 (by have := hlt.out; have := hlt2.out; have := hlt3.out; simp; omega) h23; have k14 := HKK.out w4 _ h14)
        all_goals
          go_wp2
          refine bodyPost_ret (results_cell_tmp (fn := Try.f86) Try.results86 _ _ (w.heap.size + 1) 60 Y (0, 0) _ rfl (setRow_heap w4 _ _ _ _ _ h24) Try.underlying60 rfl (by rw [hYz]; exact info_ad)) rfl ⟨⟨Y, ?_, ?_⟩, below_setRow (((hB.out.trans (hb2.mono (by have := hlt.out; omega))).trans (hb3.mono (by have := hlt.out; have := hlt2.out; omega))).trans ((below_undrew' hb4).mono (by have := hlt.out; have := hlt2.out; have := hlt3.out; simp; omega))) (by omega) _⟩
          · rw [mask_yes HOK.out]; rfl
          · rw [mask_yesV HOK.out, mask_yesB HOK.out]; exact hYs
end Go.Proofs.Ytgbmamahkpkdfaa
