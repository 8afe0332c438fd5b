/-
  The one of the greater Gen, with votes of its own: newer.
-/
import Derived.Test.YtmbddengmheeeaaLfl
namespace Go.Proofs.Ytmbddengmheeeaa
open Go.RowKit
set_option maxRecDepth 100000
set_option linter.unusedVariables false
set_option linter.unusedSimpArgs false
attribute [local go_sem ↓] exec_span exec_put exec_build heap_alloc_new heap_old
attribute [local go_sem] spanQ_ptr spanC_some heap_of_drew heap_of_drewN rs_ad rs_spec rs_rec putAt_ptr putOk_ptr oldOk_some store_fl

theorem rc_set22 {X : Array Value} {k : Kn} {va va' : Option Addr} {vc vc' : Nat} (h : RcV X (k.rc va vc)) : RcV (X.setIfInBounds 22 (.slice va' k.vs.length vc')) (k.rc va' vc') := by
  refine ⟨?_, h.la, h.wf⟩
  rw [h.eq, List.setIfInBounds_toArray]
  congr 1
  have hl := len_spL h.la
  simp only [Kn.rc] at hl
  simp only [rcL, Kn.rc, List.set_cons_succ]
  rw [List.set_append_right _ _ (by omega), hl]; rfl
/-- a Rec handed back, its votes its own. -/
def RecP (w : World) (k : Kn) (X : Array Value) (w' : World) : Prop :=
  ∃ va vc, KnV w' w'.heap.size X k va vc ∧ OwnVo w' w.heap.size (.slice va k.vs.length vc) k.vs ∧ Below w.heap.size w w'
theorem votes_kn {w w' : World} {v : Value} {X : Array Value} {k : Kn} {va : Option Addr} {vc : Nat} (ho : OwnVo w' w.heap.size v k.vs) (hl : k.vs.length ≤ 16) :
    ∃ A c, v = .slice A k.vs.length c ∧ k.vs.length ≤ c ∧ VoS w' w'.heap.size A k.vs ∧ (A = none → c = 0) := by
  exact row_votes ho
theorem ownV_less {w : World} {base base' t n m : Nat} {v : Value} {xs : List Value} (h : w.ownsRow base t n v m xs) (hb : base' ≤ base) : w.ownsRow base' t n v m xs := by
  refine ⟨h.1, ?_⟩
  rcases h.2 with h | ⟨g, cap, cur, h1, h2, h3⟩
  · exact .inl h
  · exact .inr ⟨g, cap, cur, h1, by omega, h3⟩
theorem ownV_kept {w w' : World} {base t n m : Nat} {v : Value} {xs : List Value} (h : w.ownsRow base t n v m xs) {g : Nat} (hg : w.grownBy w' (some g)) (hlt : g < base) : w'.ownsRow base t n v m xs := by
  refine World.ownsRow.kept (row := some g) h hg ?_
  rcases h.2 with ⟨rfl, _⟩ | ⟨b, cap, cur, rfl, hb, _⟩
  · exact .inl rfl
  · refine .inr ?_
    simp [Value.ownBlock]
    omega
theorem grown_row (w : World) (g : Nat) (cs : Array Value) : w.grownBy (w.setRow g cs) (some g) :=
  ⟨rfl, rfl, rfl, by simp, fun k _ hk => setRow_other w g k cs (fun e => hk (by rw [e]))⟩
def newK (a b : Kn) : Kn := if a.g < b.g then b else a
set_option maxHeartbeats 8000000 in
theorem newK_any (w : World) (B : Nat) (X Y : Array Value) (a b : Kn) (va vb : Option Addr) (ca cb : Nat) (h : KnV w B X a va ca) (h' : KnV w B Y b vb cb) (hB : B ≤ w.heap.size) (hl : a.vs.length ≤ 16) (hl' : b.vs.length ≤ 16) :
    Calls Try.prog 46 #[.agg X, .agg Y] w (fun e w' => ∃ X', e = .returned (.agg X') ∧ RecP w (newK a b) X' w') := by
  obtain ⟨W, hW, r1, r2, r3, hz, hb⟩ := three_new w X Y (rcL zRcd).toArray 34
  obtain ⟨a0, -, a22, -⟩ := h.rc.cells r1
  obtain ⟨b0, -⟩ := h'.rc.cells r2
  simp only [Kn.rc] at a0 a22 b0
  have hxs := h.rc.size
  have hxx := h.rc.x0
  have hys := h'.rc.size
  have hyx := h'.rc.x0
  have hyo := h'.rc.one
  have hzs : (rcL zRcd).toArray.size = 24 := by simp [rcL, spL, adL, zRcd, zSp]
  have HW := hide hW
  have HZ := hide hz
  have HB := hide hb
  clear hW hz hb
  obtain ⟨ag, hag⟩ : ∃ x, x = a.g := ⟨_, rfl⟩
  obtain ⟨bg, hbg⟩ : ∃ x, x = b.g := ⟨_, rfl⟩
  rw [← hag] at a0
  rw [← hbg] at b0
  have HAG := hide hag
  have HBG := hide hbg
  clear hag hbg
  by_cases c1 : ag < bg
  · have hk : newK a b = b := by unfold newK; rw [← HAG.out, ← HBG.out]; exact if_pos c1
    have HK := hide hk
    clear hk
    have H := hide h'
    have HL := hide hl'
    clear h h' hl hl'
    go_enter Try.func46, Try.ntmps46
    go_upto_region 1 with (fail)
    change Code.wp _ _ _ _ (((w.alloc (.cells X 34)).alloc (.cells Y 34)).alloc (.cells (rcL zRcd).toArray 34))
    rw [HW.out]
    generalize (rcL zRcd).toArray = Z at r3 hzs
    go_upto_region 3 with (fail)
    have q1 := setRow_heap W w.heap.size _ Y _ _ r1
    have q2 := (setRow_other W w.heap.size (w.heap.size + 1 + 1) Y (by omega)).trans r3
    have g2 := below_setRow (Below.refl w.heap.size W) (Nat.le_refl _) Y
    have gz : (W.setRow w.heap.size Y).heap.size = W.heap.size := setRow_size _ _ _
    obtain ⟨W2, hW2⟩ : ∃ W2, W.setRow w.heap.size Y = W2 := ⟨_, rfl⟩
    rw [hW2] at q1 q2 g2 gz ⊢
    have B2 : Hid (Below w.heap.size w W2) := hide (HB.out.trans g2)
    have Z2 : Hid (W2.heap.size = w.heap.size + 3) := hide (by have := HZ.out; omega)
    clear r1 r2 r3 hW2 g2 gz a0 b0 a22
    obtain ⟨-, -, e22, -⟩ := H.out.rc.cells q1
    simp only [Kn.rc] at e22
    have KC := hide (cloneV_any W2 B vb cb b.vs (H.out.vo.below B2.out hB) (by have := Z2.out; omega) HL.out H.out.nn)
    obtain ⟨n, hn⟩ : ∃ n, n = b.vs.length := ⟨_, rfl⟩
    rw [← hn] at KC e22
    have HN := hide hn
    clear hn
    go_wp2_with fail
    refine KC.out.mono ?_
    rintro e w1 ⟨v, rfl, ho, b1⟩
    dsimp only
    obtain ⟨A, c, rfl, hcp, hvs, hnn⟩ := row_votes ho
    have HO := hide ho
    have p1 := (b1.block w.heap.size (by have := Z2.out; omega)).trans q1
    have p2 := (b1.block (w.heap.size + 1 + 1) (by have := Z2.out; omega)).trans q2
    have B3 : Hid (Below w.heap.size w w1) := hide (B2.out.trans (b1.mono (by have := Z2.out; omega)))
    have Z3 : Hid (w.heap.size + 3 ≤ w1.heap.size) := hide (by have := Z2.out; have := b1.size; omega)
    obtain ⟨-, -, f22, -⟩ := H.out.rc.cells p1
    simp only [Kn.rc] at f22
    have fr := frozen_of_row w1 w.heap.size 22 _ _ p1
    have HVS := hide hvs
    have HCP := hide hcp
    have HNN := hide hnn
    rw [← HN.out] at f22 ⊢
    clear q1 q2 e22 ho b1 hvs hcp hnn
    go_upto_region 4 with (fail)
    have s1 := heap_setCell_same w1 w.heap.size 22 _ _ (.slice A n c) p1
    have gg := grown_lf w1 w.heap.size 22 (.slice A n c)
    obtain ⟨w3, hw3⟩ : ∃ w3, w1.setCell ⟨w.heap.size, 22, none⟩ (.slice A n c) = w3 := ⟨_, rfl⟩
    rw [hw3] at s1 gg ⊢
    have s2 := (gg.block (w.heap.size + 1 + 1) (by have := Z3.out; omega) (by simp; omega)).trans p2
    have R3 := rc_set22 (va' := A) (vc' := c) H.out.rc
    rw [← HN.out] at R3
    generalize Y.setIfInBounds 22 (.slice A n c) = X3 at s1 R3
    have x3s := R3.size
    have x3x := R3.x0
    have x3o := R3.one
    have B4 : Hid (Below w.heap.size w w3) := hide (B3.out.grown gg (by have := Z3.out; omega) (fun k hk => by cases hk; exact Nat.le_refl _))
    have G3 := hide gg
    clear gg p1 p2 f22 fr hw3
    go_wp2
    have tt := setRow_heap w3 (w.heap.size + 1 + 1) _ X3 _ _ s2
    refine bodyPost_ret (results_cell_row (fn := Try.f46) Try.results46 _ _ (w.heap.size + 1 + 1) 34 X3 (0, 0) _ rfl tt Try.underlying34 rfl (by rw [x3s]; exact info_rec)) rfl ?_
    have z4 : w.heap.size < W2.heap.size := by have := Z2.out; omega
    have ho4 := ownV_kept (ownV_kept HO.out G3.out z4) (grown_row w3 (w.heap.size + 1 + 1) X3) (by have := Z2.out; omega)
    obtain ⟨A', c', e, h1, h2, h3⟩ := row_votes ho4
    cases e
    refine ⟨X3, rfl, ?_⟩
    rw [HK.out]
    exact ⟨A, c, ⟨R3, h2, by have := HL.out; omega, h3, h1⟩, ownV_less ho4 (by omega), below_setRow B4.out (by omega) _⟩
  · have hk : newK a b = a := by unfold newK; rw [← HAG.out, ← HBG.out]; exact if_neg c1
    have HK := hide hk
    clear hk
    have H := hide h
    have HL := hide hl
    clear h h' hl hl'
    go_enter Try.func46, Try.ntmps46
    go_upto_region 1 with (fail)
    change Code.wp _ _ _ _ (((w.alloc (.cells X 34)).alloc (.cells Y 34)).alloc (.cells (rcL zRcd).toArray 34))
    rw [HW.out]
    generalize (rcL zRcd).toArray = Z at r3 hzs
    go_upto_region 3 with (fail)
    obtain ⟨W2, rfl⟩ : ∃ W2, W2 = W := ⟨_, rfl⟩
    have q1 := r1
    have q2 := r3
    have B2 := HB
    have Z2 := HZ
    clear r1 r2 r3 a0 b0 a22
    obtain ⟨-, -, e22, -⟩ := H.out.rc.cells q1
    simp only [Kn.rc] at e22
    have KC := hide (cloneV_any W2 B va ca a.vs (H.out.vo.below B2.out hB) (by have := Z2.out; omega) HL.out H.out.nn)
    obtain ⟨n, hn⟩ : ∃ n, n = a.vs.length := ⟨_, rfl⟩
    rw [← hn] at KC e22
    have HN := hide hn
    clear hn
    go_wp2_with fail
    refine KC.out.mono ?_
    rintro e w1 ⟨v, rfl, ho, b1⟩
    dsimp only
    obtain ⟨A, c, rfl, hcp, hvs, hnn⟩ := row_votes ho
    have HO := hide ho
    have p1 := (b1.block w.heap.size (by have := Z2.out; omega)).trans q1
    have p2 := (b1.block (w.heap.size + 1 + 1) (by have := Z2.out; omega)).trans q2
    have B3 : Hid (Below w.heap.size w w1) := hide (B2.out.trans (b1.mono (by have := Z2.out; omega)))
    have Z3 : Hid (w.heap.size + 3 ≤ w1.heap.size) := hide (by have := Z2.out; have := b1.size; omega)
    obtain ⟨-, -, f22, -⟩ := H.out.rc.cells p1
    simp only [Kn.rc] at f22
    have fr := frozen_of_row w1 w.heap.size 22 _ _ p1
    have HVS := hide hvs
    have HCP := hide hcp
    have HNN := hide hnn
    rw [← HN.out] at f22 ⊢
    clear q1 q2 e22 ho b1 hvs hcp hnn
    go_upto_region 4 with (fail)
    have s1 := heap_setCell_same w1 w.heap.size 22 _ _ (.slice A n c) p1
    have gg := grown_lf w1 w.heap.size 22 (.slice A n c)
    obtain ⟨w3, hw3⟩ : ∃ w3, w1.setCell ⟨w.heap.size, 22, none⟩ (.slice A n c) = w3 := ⟨_, rfl⟩
    rw [hw3] at s1 gg ⊢
    have s2 := (gg.block (w.heap.size + 1 + 1) (by have := Z3.out; omega) (by simp; omega)).trans p2
    have R3 := rc_set22 (va' := A) (vc' := c) H.out.rc
    rw [← HN.out] at R3
    generalize X.setIfInBounds 22 (.slice A n c) = X3 at s1 R3
    have x3s := R3.size
    have x3x := R3.x0
    have x3o := R3.one
    have B4 : Hid (Below w.heap.size w w3) := hide (B3.out.grown gg (by have := Z3.out; omega) (fun k hk => by cases hk; exact Nat.le_refl _))
    have G3 := hide gg
    clear gg p1 p2 f22 fr hw3
    go_wp2
    have tt := setRow_heap w3 (w.heap.size + 1 + 1) _ X3 _ _ s2
    refine bodyPost_ret (results_cell_row (fn := Try.f46) Try.results46 _ _ (w.heap.size + 1 + 1) 34 X3 (0, 0) _ rfl tt Try.underlying34 rfl (by rw [x3s]; exact info_rec)) rfl ?_
    have z4 : w.heap.size < W2.heap.size := by have := Z2.out; omega
    have ho4 := ownV_kept (ownV_kept HO.out G3.out z4) (grown_row w3 (w.heap.size + 1 + 1) X3) (by have := Z2.out; omega)
    obtain ⟨A', c', e, h1, h2, h3⟩ := row_votes ho4
    cases e
    refine ⟨X3, rfl, ?_⟩
    rw [HK.out]
    exact ⟨A, c, ⟨R3, h2, by have := HL.out; omega, h3, h1⟩, ownV_less ho4 (by omega), below_setRow B4.out (by omega) _⟩
end Go.Proofs.Ytmbddengmheeeaa
