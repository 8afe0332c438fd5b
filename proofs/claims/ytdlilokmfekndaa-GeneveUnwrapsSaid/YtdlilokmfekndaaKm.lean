/-
  The walk of segment.Parse.
-/
import Derived.Test.YtdlilokmfekndaaKl
namespace Go.Proofs.Ytdlilokmfekndaa
open Go.RowKit
attribute [local go_sem ↓] exec_span exec_put exec_build heap_alloc_new heap_old heap_alloc_drew
attribute [local go_sem] spanQ_ptr spanC_some heap_of_drew heap_of_drewN rs_arr rs_ad rs_ip rs_rip rs_seg putAt_ptr putOk_ptr oldOk_some World.setRow_alloc_new setRow_drew
set_option maxRecDepth 100000
set_option linter.unusedVariables false
set_option linter.unusedSimpArgs false

theorem parS_row {w W w1 : World} {h : Ip} {D : List UInt8} {Y : Array Value} {z : Nat} (hbW : Below w.heap.size w W) (hz : w.heap.size ≤ z) (hzW : z < W.heap.size) (p : ParS W h D (.returned (.tuple #[.agg Y, .int .i64 (segE h D)])) w1) :
    ParS w h D (.returned (.tuple #[.agg Y, .int .i64 (segE h D)])) (w1.setRow z Y) := by
  obtain ⟨Y', e, b1, h0, h1⟩ := p
  cases e
  have n1 := hbW.size
  have n2 := b1.size
  have hs := setRow_grown w1 z Y
  refine ⟨_, rfl, below_setRow (hbW.trans (b1.mono n1)) hz _, h0, fun hE => ?_⟩
  obtain ⟨ao, co, ad, cd, V, g1, g2⟩ := h1 hE
  have key : ∀ (A : Option Addr) (c : Nat) (l : List UInt8), Gave W w1 A c l → Gave w (w1.setRow z Y) A c l := fun A c l ⟨y1, y2, y3, y4⟩ => by
    have q2 : Byt (w1.setRow z Y) w1.heap.size A l := y1.other (Nat.le_refl _) hs (fun a e => by have := y4 a e; omega)
    exact ⟨q2.more (by rw [size_setRow]; exact Nat.le_refl _), y2, y3, fun x e => Nat.le_trans n1 (y4 x e)⟩
  exact ⟨ao, co, ad, cd, V, key _ _ _ g1, key _ _ _ g2⟩
theorem ParS.val {w w1 : World} {h : Ip} {D : List UInt8} {e : Ending} (p : ParS w h D e w1) : ∃ Y, e = .returned (.tuple #[.agg Y, .int .i64 (segE h D)]) ∧ Y.size = 11 ∧ allOne Y = true ∧ Y.extract 0 11 = Y := by
  obtain ⟨Y, he, -, h0, h1⟩ := p
  by_cases hE : segE h D = 0
  · obtain ⟨ao, co, ad, cd, V, -, -⟩ := h1 hE
    exact ⟨Y, he, V.size, V.one, V.x0⟩
  · have V : SgV Y nSg := by rw [h0 hE]; exact nSg_ok
    exact ⟨Y, he, V.size, V.one, V.x0⟩

set_option maxHeartbeats 2000000 in
theorem parseS_any (w : World) (X : Array Value) (h : Ip) (x : IpV X h) (D : List UInt8) (hD : Byt w w.heap.size h.ad D) (hDl : D.length = h.nd) (hdc : h.nd ≤ h.cd) (hm : h.nd ≤ 140737488355328) :
    Calls Try.prog 13 #[.agg X] w fun e w' => ParS w h D e w' := by
  have hxs := x.size
  have hxr := x.x0
  obtain ⟨W, hW⟩ : ∃ W, (w.alloc (.cells X 48)).alloc (.cells (sgL nSg).toArray 53) = W := ⟨_, rfl⟩
  obtain ⟨r1, r2, hz, hbW⟩ := two_packs w X _ _ _ W hW
  obtain ⟨Z, hZ⟩ : ∃ Z, Z = (sgL nSg).toArray := ⟨_, rfl⟩
  have hbn := built_noneS
  rw [← hZ] at r2 hbn
  have hZs : Z.size = 11 := by rw [hZ]; rfl
  have hZo : allOne Z = true := by rw [hZ]; exact nSg_ok.one
  have HZE := hide hZ
  have c35 := (x.cells r1).c35
  have hDW : Byt W W.heap.size h.ad D := (hD.below hbW).more hbW.size
  have KT := hide (fun hp : h.p = 6 => parseT_any W X h x D hp hDW hDl hdc hm)
  have KU := hide (fun hp : h.p = 17 => parseU_any W X h x D hp hDW hDl hdc hm)
  have HF := hide (fun (Y : Array Value) (w1 : World) => parS_row (w := w) (W := W) (w1 := w1) (h := h) (D := D) (Y := Y) (z := w.heap.size + 1) hbW (by omega) (by omega))
  have HZK := hide (fun (w1 : World) (b : Below W.heap.size W w1) => ((b.block (w.heap.size + 1) (by omega)).trans r2 : w1.heap[w.heap.size + 1]? = some (.cells Z 53 (0, 0))))
  have HB := hide hbW
  have HW := hide hW
  have HZ := hide hz
  clear hbW hW hz hZ hD hDW x hDl hdc hm
  go_enter Try.func13, Try.ntmps13
  go_upto_region 1 with (fail)
  change Code.wp _ _ _ _ ((w.alloc (.cells X 48)).alloc (.cells (sgL nSg).toArray 53))
  rw [HW.out]
  obtain ⟨p, hp⟩ : ∃ p, p = h.p := ⟨_, rfl⟩
  rw [← hp] at c35
  by_cases h6 : p = 6
  · have hp6 : h.p = 6 := by rw [← hp]; exact h6
    subst h6
    have K := hide (KT.out hp6)
    clear KT KU hp hp6
    go_wp2_with fail
    refine K.out.mono ?_
    rintro e w1 hq
    obtain ⟨Y, rfl, hYs, hYo, hY0⟩ := hq.val
    have hb1 : Below W.heap.size W w1 := by obtain ⟨_, -, b, -⟩ := hq; exact b
    have z1 := HZK.out w1 hb1
    have HFF := hide (HF.out Y w1 hq)
    obtain ⟨E, hE⟩ : ∃ E, E = segE h D := ⟨_, rfl⟩
    rw [← hE] at HFF ⊢
    clear hq hb1 hE
    dsimp only
    go_wp2
    have hrow := setRow_heap w1 (w.heap.size + 1) Z Y _ _ z1
    refine bodyPost_ret (results_cell_tmp (fn := Try.f13) Try.results13 _ _ (w.heap.size + 1) 53 Y (0, 0) _ rfl hrow Try.underlying53 rfl (by rw [hYs]; exact info_seg)) rfl ?_
    exact HFF.out
  · have e6 : (p == 6) = false := by simpa using h6
    by_cases h17 : p = 17
    · have hp17 : h.p = 17 := by rw [← hp]; exact h17
      subst h17
      have K := hide (KU.out hp17)
      clear KT KU hp hp17
      go_wp2_with fail
      refine K.out.mono ?_
      rintro e w1 hq
      obtain ⟨Y, rfl, hYs, hYo, hY0⟩ := hq.val
      have hb1 : Below W.heap.size W w1 := by obtain ⟨_, -, b, -⟩ := hq; exact b
      have z1 := HZK.out w1 hb1
      have HFF := hide (HF.out Y w1 hq)
      obtain ⟨E, hE⟩ : ∃ E, E = segE h D := ⟨_, rfl⟩
      rw [← hE] at HFF ⊢
      clear hq hb1 hE
      dsimp only
      go_wp2
      have hrow := setRow_heap w1 (w.heap.size + 1) Z Y _ _ z1
      refine bodyPost_ret (results_cell_tmp (fn := Try.f13) Try.results13 _ _ (w.heap.size + 1) 53 Y (0, 0) _ rfl hrow Try.underlying53 rfl (by rw [hYs]; exact info_seg)) rfl ?_
      exact HFF.out
    · have hE : Hid (segE h D = 14) := hide (by unfold segE; rw [if_neg (by rw [← hp]; exact h6), if_neg (by rw [← hp]; exact h17)])
      have e17 : (p == 17) = false := by simpa using h17
      clear KT KU hp h6 h17
      go_wp2
      have hrow := setRow_heap W (w.heap.size + 1) Z Z _ _ r2
      refine bodyPost_ret (results_cell_tmp (fn := Try.f13) Try.results13 _ _ (w.heap.size + 1) 53 Z (0, 0) _ rfl hrow Try.underlying53 rfl (by rw [hZs]; exact info_seg)) rfl ?_
      exact parS_err HZE.out hE.out (by decide) (below_setRow HB.out (by omega) _)
end Go.Proofs.Ytdlilokmfekndaa
