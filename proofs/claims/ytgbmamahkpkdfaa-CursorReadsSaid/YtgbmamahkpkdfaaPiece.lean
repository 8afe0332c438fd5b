/-
  The walk of a Reader's piece of whatever kind: what it was, or the error by which it gives up.
-/
import Derived.Test.YtgbmamahkpkdfaaPe
namespace Go.Proofs.Ytgbmamahkpkdfaa
open Go.RowKit
set_option maxRecDepth 100000

/-- what a piece is: a number, bytes, how many were read; or the error by which it gives up. -/
inductive PRes where
  | got (N : Nat) (b : List UInt8) (m : Nat)
  | gave (er : Nat)

def pieceS (l : List UInt8) (k : Nat) (kd sz : Int) : PRes :=
  if kd = 0 then (if 1 ≤ sz ∧ sz ≤ 8 then (if sz ≤ (l.length : Int) - k then .got (numS ((l.drop k).take sz.toNat)) [] sz.toNat else .gave 10) else .gave 1)
  else if kd = 1 then (if sz < 0 then .gave 1 else if sz ≤ (l.length : Int) - k then .got 0 ((l.drop k).take sz.toNat) sz.toNat else .gave 10)
  else if kd = 2 then (if sz < 0 then .gave 1 else if sz ≤ (l.length : Int) - k then .got 0 [] sz.toNat else .gave 10)
  else if kd = 3 then (if sz < 0 then .gave 1 else if sz ≤ (l.length : Int) - k then (if ((l.drop k).take sz.toNat).all (fun x => x == 0) = true then .got 0 [] sz.toNat else .gave 11) else .gave 10)
  else if kd = 4 then (if sz = 0 then .got 0 (l.drop k) (l.length - k) else .gave 1)
  else .gave 1

theorem allZero_iff (r : List UInt8) : AllZero r ↔ r.all (fun x => x == 0) = true := by
  rw [List.all_eq_true]
  constructor
  · intro h x hx
    obtain ⟨i, hi, rfl⟩ := List.getElem_of_mem hx
    simp [h i hi]
  · intro h i hi
    simpa using h r[i] (List.getElem_mem hi)

def PiecePost (w : World) (g : Nat) (A : Option Addr) (l : List UInt8) (c k : Nat) (er : Int) : PRes → Ending → World → Prop
  | .got N b m, e, w' => (∃ v, e = .returned (.agg #[.int .u64 (N : Int), v]) ∧ OwnB w' w.heap.size v b) ∧ Rd w' g A l.length c (k + m) er ∧ w.grownBy w' (some g)
  | .gave er', e, w' => e = giveUp er' ∧ Below w.heap.size w w'

/-- the world behind a piece's two variables: the piece itself, and what it was. -/
theorem two_vars (w : World) (cs ds : Array Value) (t u : TypeId) : ∃ W, W = (w.alloc (.cells cs t)).alloc (.cells ds u) ∧ Below w.heap.size w W ∧ W.heap.size = w.heap.size + 2 ∧ W.heap[w.heap.size + 1]? = some (.cells ds u (0, 0)) := by
  refine ⟨_, rfl, ((Below.refl _ _).alloc (Nat.le_refl _) _).alloc (by simp) _, by simp, ?_⟩
  have := heap_alloc_new (w.alloc (.cells cs t)) (.cells ds u)
  simpa using this

/-- a block of two cells, both written: what it holds then, and that a Reader and all that was there are as they were. -/
theorem two_set {w1 : World} {G : Nat} {x y : Value} {t : TypeId} (h : w1.heap[G]? = some (.cells #[x, y] t (0, 0))) (a b : Value) :
    ((w1.setCell ⟨G, 0, none⟩ a).setCell ⟨G, 1, none⟩ b).cell? ⟨G, 0, none⟩ = some a ∧ ((w1.setCell ⟨G, 0, none⟩ a).setCell ⟨G, 1, none⟩ b).cell? ⟨G, 1, none⟩ = some b ∧
    ∀ {w W : World} {g : Nat} {A : Option Addr} {n c k : Nat} {er : Int}, w.grownBy W (some g) → W.grownBy w1 (some g) → Rd w1 g A n c k er → g ≠ G → w.heap.size ≤ G →
      Rd ((w1.setCell ⟨G, 0, none⟩ a).setCell ⟨G, 1, none⟩ b) g A n c k er ∧ w.grownBy ((w1.setCell ⟨G, 0, none⟩ a).setCell ⟨G, 1, none⟩ b) (some g) := by
  have h1 : (w1.setCell ⟨G, 0, none⟩ a).heap[G]? = some (.cells #[a, y] t (0, 0)) := heap_setCell_same w1 G 0 _ _ _ h
  have h2 : ((w1.setCell ⟨G, 0, none⟩ a).setCell ⟨G, 1, none⟩ b).heap[G]? = some (.cells #[a, b] t (0, 0)) := heap_setCell_same _ G 1 _ _ _ h1
  refine ⟨cell_of_row _ G 0 _ _ (0, 0) h2, cell_of_row _ G 1 _ _ (0, 0) h2, fun {w W g A n c k er} hw hg hR hne hG => ⟨?_, ?_⟩⟩
  · exact hR.kept ((Below.heap_setCell _ ⟨G, 1, none⟩ b g (by exact hne)).trans (Below.heap_setCell _ ⟨G, 0, none⟩ a g (by exact hne)))
  · have h12 := grown_trans hw hg
    refine ⟨h12.os, h12.tape, h12.output, by simpa using h12.size, fun i hi hr => ?_⟩
    rw [Below.heap_setCell _ ⟨G, 1, none⟩ b i (by show i ≠ G; omega), Below.heap_setCell _ ⟨G, 0, none⟩ a i (by show i ≠ G; omega)]
    exact h12.block i hi hr

theorem OwnB.base {w : World} {B B' : Nat} {v : Value} {l : List UInt8} (h : OwnB w B v l) (hB : B' ≤ B) : OwnB w B' v l := by
  refine ⟨h.1, ?_⟩
  rcases h.2 with e | ⟨g, cap, cur, e, hb, rest⟩
  · exact .inl e
  · exact .inr ⟨g, cap, cur, e, Nat.le_trans hB hb, rest⟩
theorem OwnB.two_set {w : World} {B G : Nat} {v a b : Value} {l : List UInt8} (h : OwnB w B v l) (hG : G < B) : OwnB ((w.setCell ⟨G, 0, none⟩ a).setCell ⟨G, 1, none⟩ b) B v l := by
  have hne : v.ownBlock = none ∨ v.ownBlock ≠ some G := by
    rcases h.2 with ⟨e, _⟩ | ⟨g', cap, cur, e, hbg, _⟩
    · exact .inl (by rw [e]; rfl)
    · exact .inr (by rw [e]; simp [Value.ownBlock]; omega)
  exact (h.kept (grown_set w G 0 a) hne).kept (grown_set _ G 1 b) hne

set_option maxHeartbeats 1000000 in
theorem piece_num (w : World) (g : Nat) (A : Option Addr) (l : List UInt8) (c k : Nat) (er : Int) (h : Rd w g A l.length c k er) (m : Nat) (hm1 : 1 ≤ m) (hm8 : m ≤ 8) (hk : k + m ≤ l.length) (hl : l.length ≤ c) (hn : l.length ≤ 140737488355328) (hb : Byt w g A l) :
    Calls Try.prog 67 #[.pointer (some ⟨g, 0, none⟩), .agg #[.int .i64 0, .int .i64 (m : Int)]] w fun e w' => PiecePost w g A l c k er (.got (numS ((l.drop k).take m)) [] m) e w' := by
  go_enter Try.func67, Try.ntmps67
  obtain ⟨W, hW, hbW, hzW, hvW⟩ := two_vars w #[.int .i64 0, .int .i64 (m : Int)] #[.int .u64 0, .slice none 0 0] 109 40
  have HZ := hide hzW
  have HV := hide hvW
  clear hzW hvW
  go_wp2_with fail
  rw [← hW]
  have hRW : Rd W g A l.length c k er := h.kept (hbW.block g h.lt)
  have hbyW : Byt W g A l := by have := h.lt; exact hb.below (hbW.mono (by omega))
  refine (num_ok W g A l c k er hRW m hm1 hm8 hl hn hk hbyW).mono ?_
  rintro e w1 ⟨rfl, hR1, hg1⟩
  have hv1 : w1.heap[w.heap.size + 1]? = some (.cells #[.int .u64 0, .slice none 0 0] 40 (0, 0)) := (hg1.block _ (by have := HZ.out; omega) (by have := h.lt; simp; omega)).trans HV.out
  have c0 : w1.cell? ⟨w.heap.size + 1, 0, none⟩ = some (.int .u64 0) := cell_of_row w1 _ 0 _ _ (0, 0) hv1
  have c1 : w1.cell? ⟨w.heap.size + 1, 1, none⟩ = some (.slice none 0 0) := cell_of_row w1 _ 1 _ _ (0, 0) hv1
  have f0 : w1.frozen? ⟨w.heap.size + 1, 0, none⟩ = false := frozen_of_row w1 _ 0 _ _ hv1
  have f1 : w1.frozen? ⟨w.heap.size + 1, 1, none⟩ = false := frozen_of_row w1 _ 1 _ _ hv1
  obtain ⟨r0, r1, hfin⟩ := two_set hv1 (.int .u64 (numS ((l.drop k).take m) : Nat)) (.slice none 0 0)
  have hend := hfin (Below.row hbW (some g)) hg1 hR1 (by have := h.lt; omega) (Nat.le_succ _)
  have HEND := hide hend
  clear hW hv1 hfin hend
  go_wp2
  exact bodyPost_ret (v := .agg #[.int .u64 (numS ((l.drop k).take m) : Nat), (.slice none 0 0)]) (by simp [results, Try.results67, go_sem, r0, r1]) rfl ⟨⟨_, rfl, OwnB.nil _ _⟩, HEND.out⟩

set_option maxHeartbeats 1000000 in
theorem piece_take (w : World) (g : Nat) (A : Option Addr) (l : List UInt8) (c k : Nat) (er : Int) (h : Rd w g A l.length c k er) (m : Nat) (hk : k + m ≤ l.length) (hl : l.length ≤ c) (hn : l.length ≤ 140737488355328) (hb : Byt w g A l) :
    Calls Try.prog 67 #[.pointer (some ⟨g, 0, none⟩), .agg #[.int .i64 1, .int .i64 (m : Int)]] w fun e w' => PiecePost w g A l c k er (.got 0 ((l.drop k).take m) m) e w' := by
  have hcall := fun (W : World) (hRW : Rd W g A l.length c k er) (hbyW : Byt W g A l) => take_ok W g A l c k er hRW m hl hn hk hbyW
  obtain ⟨r, hr⟩ : ∃ r, r = (l.drop k).take m := ⟨_, rfl⟩
  rw [← hr] at hcall ⊢
  have HCALL := hide hcall
  clear hcall hr
  go_enter Try.func67, Try.ntmps67
  obtain ⟨W, hW, hbW, hzW, hvW⟩ := two_vars w #[.int .i64 1, .int .i64 (m : Int)] #[.int .u64 0, .slice none 0 0] 109 40
  have HZ := hide hzW
  have HV := hide hvW
  clear hzW hvW
  go_wp2_with fail
  rw [← hW]
  have hRW : Rd W g A l.length c k er := h.kept (hbW.block g h.lt)
  have hbyW : Byt W g A l := by have := h.lt; exact hb.below (hbW.mono (by omega))
  refine (HCALL.out W hRW hbyW).mono ?_
  rintro e w1 ⟨⟨v, rfl, hown⟩, hR1, hg1⟩
  obtain ⟨A3, c3, rfl, hl3, _, _⟩ := hown.shape
  have hown2 := hown.two_set (G := w.heap.size + 1) (a := .int .u64 0) (b := .slice A3 r.length c3) (by have := HZ.out; omega)
  have HO := hide hown2
  clear hown hown2
  have hv1 : w1.heap[w.heap.size + 1]? = some (.cells #[.int .u64 0, .slice none 0 0] 40 (0, 0)) := (hg1.block _ (by have := HZ.out; omega) (by have := h.lt; simp; omega)).trans HV.out
  have c0 : w1.cell? ⟨w.heap.size + 1, 0, none⟩ = some (.int .u64 0) := cell_of_row w1 _ 0 _ _ (0, 0) hv1
  have c1 : w1.cell? ⟨w.heap.size + 1, 1, none⟩ = some (.slice none 0 0) := cell_of_row w1 _ 1 _ _ (0, 0) hv1
  have f0 : w1.frozen? ⟨w.heap.size + 1, 0, none⟩ = false := frozen_of_row w1 _ 0 _ _ hv1
  have f1 : w1.frozen? ⟨w.heap.size + 1, 1, none⟩ = false := frozen_of_row w1 _ 1 _ _ hv1
  obtain ⟨r0, r1, hfin⟩ := two_set hv1 (.int .u64 0) (.slice A3 r.length c3)
  have hend := hfin (Below.row hbW (some g)) hg1 hR1 (by have := h.lt; omega) (Nat.le_succ _)
  have HEND := hide hend
  clear hW hv1 hfin hend
  go_wp2
  exact bodyPost_ret (v := .agg #[.int .u64 0, (.slice A3 r.length c3)]) (by simp [results, Try.results67, go_sem, r0, r1]) rfl ⟨⟨_, rfl, (HO.out.base (by have := HZ.out; omega))⟩, HEND.out⟩

set_option maxHeartbeats 1000000 in
theorem piece_skip (w : World) (g : Nat) (A : Option Addr) (l : List UInt8) (c k : Nat) (er : Int) (h : Rd w g A l.length c k er) (m : Nat) (hk : k + m ≤ l.length) (hl : l.length ≤ c) (hn : l.length ≤ 140737488355328) (hb : Byt w g A l) :
    Calls Try.prog 67 #[.pointer (some ⟨g, 0, none⟩), .agg #[.int .i64 2, .int .i64 (m : Int)]] w fun e w' => PiecePost w g A l c k er (.got 0 [] m) e w' := by
  go_enter Try.func67, Try.ntmps67
  obtain ⟨W, hW, hbW, hzW, hvW⟩ := two_vars w #[.int .i64 2, .int .i64 (m : Int)] #[.int .u64 0, .slice none 0 0] 109 40
  have HZ := hide hzW
  have HV := hide hvW
  clear hzW hvW
  go_wp2_with fail
  rw [← hW]
  have hRW : Rd W g A l.length c k er := h.kept (hbW.block g h.lt)
  have hbyW : Byt W g A l := by have := h.lt; exact hb.below (hbW.mono (by omega))
  refine (skip_ok W g A l c k er hRW m hl hn hk hbyW).mono ?_
  rintro e w1 ⟨rfl, hR1, hg1⟩
  have hv1 : w1.heap[w.heap.size + 1]? = some (.cells #[.int .u64 0, .slice none 0 0] 40 (0, 0)) := (hg1.block _ (by have := HZ.out; omega) (by have := h.lt; simp; omega)).trans HV.out
  have c0 : w1.cell? ⟨w.heap.size + 1, 0, none⟩ = some (.int .u64 0) := cell_of_row w1 _ 0 _ _ (0, 0) hv1
  have c1 : w1.cell? ⟨w.heap.size + 1, 1, none⟩ = some (.slice none 0 0) := cell_of_row w1 _ 1 _ _ (0, 0) hv1
  have f0 : w1.frozen? ⟨w.heap.size + 1, 0, none⟩ = false := frozen_of_row w1 _ 0 _ _ hv1
  have f1 : w1.frozen? ⟨w.heap.size + 1, 1, none⟩ = false := frozen_of_row w1 _ 1 _ _ hv1
  obtain ⟨r0, r1, hfin⟩ := two_set hv1 (.int .u64 0) (.slice none 0 0)
  have hend := hfin (Below.row hbW (some g)) hg1 hR1 (by have := h.lt; omega) (Nat.le_succ _)
  have HEND := hide hend
  clear hW hv1 hfin hend
  go_wp2
  exact bodyPost_ret (v := .agg #[.int .u64 0, (.slice none 0 0)]) (by simp [results, Try.results67, go_sem, r0, r1]) rfl ⟨⟨_, rfl, OwnB.nil _ _⟩, HEND.out⟩

set_option maxHeartbeats 1000000 in
theorem piece_rest (w : World) (g : Nat) (A : Option Addr) (l : List UInt8) (c k : Nat) (er : Int) (h : Rd w g A l.length c k er) (hk : k ≤ l.length) (hl : l.length ≤ c) (hn : l.length ≤ 140737488355328) (hb : Byt w g A l) :
    Calls Try.prog 67 #[.pointer (some ⟨g, 0, none⟩), .agg #[.int .i64 4, .int .i64 0]] w fun e w' => PiecePost w g A l c k er (.got 0 (l.drop k) (l.length - k)) e w' := by
  have hcall := fun (W : World) (hRW : Rd W g A l.length c k er) (hbyW : Byt W g A l) => rest_ok W g A l c k er hRW hl hn hk hbyW
  obtain ⟨r, hr⟩ : ∃ r, r = l.drop k := ⟨_, rfl⟩
  rw [← hr] at hcall ⊢
  have HCALL := hide hcall
  clear hcall hr
  go_enter Try.func67, Try.ntmps67
  obtain ⟨W, hW, hbW, hzW, hvW⟩ := two_vars w #[.int .i64 4, .int .i64 0] #[.int .u64 0, .slice none 0 0] 109 40
  have HZ := hide hzW
  have HV := hide hvW
  clear hzW hvW
  go_wp2_with fail
  rw [← hW]
  have hRW : Rd W g A l.length c k er := h.kept (hbW.block g h.lt)
  have hbyW : Byt W g A l := by have := h.lt; exact hb.below (hbW.mono (by omega))
  refine (HCALL.out W hRW hbyW).mono ?_
  rintro e w1 ⟨⟨v, rfl, hown⟩, hR1, hg1⟩
  obtain ⟨A3, c3, rfl, hl3, _, _⟩ := hown.shape
  have hown2 := hown.two_set (G := w.heap.size + 1) (a := .int .u64 0) (b := .slice A3 r.length c3) (by have := HZ.out; omega)
  have HO := hide hown2
  clear hown hown2
  have hR2 : Rd w1 g A l.length c (k + (l.length - k)) er := by rw [show k + (l.length - k) = l.length from by omega]; exact hR1
  clear hR1
  have hR1 := hR2
  clear hR2
  have hv1 : w1.heap[w.heap.size + 1]? = some (.cells #[.int .u64 0, .slice none 0 0] 40 (0, 0)) := (hg1.block _ (by have := HZ.out; omega) (by have := h.lt; simp; omega)).trans HV.out
  have c0 : w1.cell? ⟨w.heap.size + 1, 0, none⟩ = some (.int .u64 0) := cell_of_row w1 _ 0 _ _ (0, 0) hv1
  have c1 : w1.cell? ⟨w.heap.size + 1, 1, none⟩ = some (.slice none 0 0) := cell_of_row w1 _ 1 _ _ (0, 0) hv1
  have f0 : w1.frozen? ⟨w.heap.size + 1, 0, none⟩ = false := frozen_of_row w1 _ 0 _ _ hv1
  have f1 : w1.frozen? ⟨w.heap.size + 1, 1, none⟩ = false := frozen_of_row w1 _ 1 _ _ hv1
  obtain ⟨r0, r1, hfin⟩ := two_set hv1 (.int .u64 0) (.slice A3 r.length c3)
  have hend := hfin (Below.row hbW (some g)) hg1 hR1 (by have := h.lt; omega) (Nat.le_succ _)
  have HEND := hide hend
  clear hW hv1 hfin hend
  go_wp2
  exact bodyPost_ret (v := .agg #[.int .u64 0, (.slice A3 r.length c3)]) (by simp [results, Try.results67, go_sem, r0, r1]) rfl ⟨⟨_, rfl, (HO.out.base (by have := HZ.out; omega))⟩, HEND.out⟩

set_option maxHeartbeats 1000000 in
theorem piece_num_bad (w : World) (g : Nat) (A : Option Addr) (l : List UInt8) (c k : Nat) (er : Int) (h : Rd w g A l.length c k er) (sz : Int) (hs : ¬ (1 ≤ sz ∧ sz ≤ 8)) :
    Calls Try.prog 67 #[.pointer (some ⟨g, 0, none⟩), .agg #[.int .i64 0, .int .i64 sz]] w fun e w' => PiecePost w g A l c k er (.gave 1) e w' := by
  go_enter Try.func67, Try.ntmps67
  obtain ⟨W, hW, hbW, hzW, hvW⟩ := two_vars w #[.int .i64 0, .int .i64 sz] #[.int .u64 0, .slice none 0 0] 109 40
  clear hzW hvW
  go_wp2_with fail
  rw [← hW]
  clear hW
  have hRW : Rd W g A l.length c k er := h.kept (hbW.block g h.lt)
  refine (num_bad W g sz hs).mono ?_
  rintro e w1 ⟨rfl, q, rfl⟩
  go_wp2
  exact ⟨rfl, rfl, below_drewN hbW q⟩

set_option maxHeartbeats 1000000 in
theorem piece_num_short (w : World) (g : Nat) (A : Option Addr) (l : List UInt8) (c k : Nat) (er : Int) (h : Rd w g A l.length c k er) (sz : Int) (h1 : 1 ≤ sz) (h8 : sz ≤ 8) (hn : l.length ≤ 140737488355328) (hk : k ≤ l.length) (hs : (l.length : Int) - k < sz) :
    Calls Try.prog 67 #[.pointer (some ⟨g, 0, none⟩), .agg #[.int .i64 0, .int .i64 sz]] w fun e w' => PiecePost w g A l c k er (.gave 10) e w' := by
  go_enter Try.func67, Try.ntmps67
  obtain ⟨W, hW, hbW, hzW, hvW⟩ := two_vars w #[.int .i64 0, .int .i64 sz] #[.int .u64 0, .slice none 0 0] 109 40
  clear hzW hvW
  go_wp2_with fail
  rw [← hW]
  clear hW
  have hRW : Rd W g A l.length c k er := h.kept (hbW.block g h.lt)
  refine (num_short W g A _ c k er hRW sz h1 h8 hn hk hs).mono ?_
  rintro e w1 ⟨rfl, q, rfl⟩
  go_wp2
  exact ⟨rfl, rfl, below_drewN hbW q⟩

set_option maxHeartbeats 1000000 in
theorem piece_take_neg (w : World) (g : Nat) (A : Option Addr) (l : List UInt8) (c k : Nat) (er : Int) (h : Rd w g A l.length c k er) (sz : Int) (hs : sz < 0) :
    Calls Try.prog 67 #[.pointer (some ⟨g, 0, none⟩), .agg #[.int .i64 1, .int .i64 sz]] w fun e w' => PiecePost w g A l c k er (.gave 1) e w' := by
  go_enter Try.func67, Try.ntmps67
  obtain ⟨W, hW, hbW, hzW, hvW⟩ := two_vars w #[.int .i64 1, .int .i64 sz] #[.int .u64 0, .slice none 0 0] 109 40
  clear hzW hvW
  go_wp2_with fail
  rw [← hW]
  clear hW
  have hRW : Rd W g A l.length c k er := h.kept (hbW.block g h.lt)
  refine (take_neg W g sz hs).mono ?_
  rintro e w1 ⟨rfl, q, rfl⟩
  go_wp2
  exact ⟨rfl, rfl, below_drewN hbW q⟩

set_option maxHeartbeats 1000000 in
theorem piece_take_short (w : World) (g : Nat) (A : Option Addr) (l : List UInt8) (c k : Nat) (er : Int) (h : Rd w g A l.length c k er) (sz : Int) (h0 : 0 ≤ sz) (hn : l.length ≤ 140737488355328) (hk : k ≤ l.length) (hs : (l.length : Int) - k < sz) :
    Calls Try.prog 67 #[.pointer (some ⟨g, 0, none⟩), .agg #[.int .i64 1, .int .i64 sz]] w fun e w' => PiecePost w g A l c k er (.gave 10) e w' := by
  go_enter Try.func67, Try.ntmps67
  obtain ⟨W, hW, hbW, hzW, hvW⟩ := two_vars w #[.int .i64 1, .int .i64 sz] #[.int .u64 0, .slice none 0 0] 109 40
  clear hzW hvW
  go_wp2_with fail
  rw [← hW]
  clear hW
  have hRW : Rd W g A l.length c k er := h.kept (hbW.block g h.lt)
  refine (take_short W g A _ c k er hRW sz h0 hn hk hs).mono ?_
  rintro e w1 ⟨rfl, q, rfl⟩
  go_wp2
  exact ⟨rfl, rfl, below_drewN hbW q⟩

set_option maxHeartbeats 1000000 in
theorem piece_skip_neg (w : World) (g : Nat) (A : Option Addr) (l : List UInt8) (c k : Nat) (er : Int) (h : Rd w g A l.length c k er) (sz : Int) (hs : sz < 0) :
    Calls Try.prog 67 #[.pointer (some ⟨g, 0, none⟩), .agg #[.int .i64 2, .int .i64 sz]] w fun e w' => PiecePost w g A l c k er (.gave 1) e w' := by
  go_enter Try.func67, Try.ntmps67
  obtain ⟨W, hW, hbW, hzW, hvW⟩ := two_vars w #[.int .i64 2, .int .i64 sz] #[.int .u64 0, .slice none 0 0] 109 40
  clear hzW hvW
  go_wp2_with fail
  rw [← hW]
  clear hW
  have hRW : Rd W g A l.length c k er := h.kept (hbW.block g h.lt)
  refine (skip_neg W g A _ c k er hRW sz hs).mono ?_
  rintro e w1 ⟨rfl, q, rfl⟩
  go_wp2
  exact ⟨rfl, rfl, below_drewN hbW q⟩

set_option maxHeartbeats 1000000 in
theorem piece_skip_short (w : World) (g : Nat) (A : Option Addr) (l : List UInt8) (c k : Nat) (er : Int) (h : Rd w g A l.length c k er) (sz : Int) (h0 : 0 ≤ sz) (hn : l.length ≤ 140737488355328) (hk : k ≤ l.length) (hs : (l.length : Int) - k < sz) :
    Calls Try.prog 67 #[.pointer (some ⟨g, 0, none⟩), .agg #[.int .i64 2, .int .i64 sz]] w fun e w' => PiecePost w g A l c k er (.gave 10) e w' := by
  go_enter Try.func67, Try.ntmps67
  obtain ⟨W, hW, hbW, hzW, hvW⟩ := two_vars w #[.int .i64 2, .int .i64 sz] #[.int .u64 0, .slice none 0 0] 109 40
  clear hzW hvW
  go_wp2_with fail
  rw [← hW]
  clear hW
  have hRW : Rd W g A l.length c k er := h.kept (hbW.block g h.lt)
  refine (skip_short W g A _ c k er hRW sz h0 hn hk hs).mono ?_
  rintro e w1 ⟨rfl, q, rfl⟩
  go_wp2
  exact ⟨rfl, rfl, below_drewN hbW q⟩

set_option maxHeartbeats 1000000 in
theorem piece_zero_neg (w : World) (g : Nat) (A : Option Addr) (l : List UInt8) (c k : Nat) (er : Int) (h : Rd w g A l.length c k er) (sz : Int) (hs : sz < 0) :
    Calls Try.prog 67 #[.pointer (some ⟨g, 0, none⟩), .agg #[.int .i64 3, .int .i64 sz]] w fun e w' => PiecePost w g A l c k er (.gave 1) e w' := by
  go_enter Try.func67, Try.ntmps67
  obtain ⟨W, hW, hbW, hzW, hvW⟩ := two_vars w #[.int .i64 3, .int .i64 sz] #[.int .u64 0, .slice none 0 0] 109 40
  clear hzW hvW
  go_wp2_with fail
  rw [← hW]
  clear hW
  have hRW : Rd W g A l.length c k er := h.kept (hbW.block g h.lt)
  refine (zero_neg W g sz hs).mono ?_
  rintro e w1 ⟨rfl, q, rfl⟩
  go_wp2
  exact ⟨rfl, rfl, below_drewN hbW q⟩

set_option maxHeartbeats 1000000 in
theorem piece_zero_short (w : World) (g : Nat) (A : Option Addr) (l : List UInt8) (c k : Nat) (er : Int) (h : Rd w g A l.length c k er) (sz : Int) (h0 : 0 ≤ sz) (hn : l.length ≤ 140737488355328) (hk : k ≤ l.length) (hs : (l.length : Int) - k < sz) :
    Calls Try.prog 67 #[.pointer (some ⟨g, 0, none⟩), .agg #[.int .i64 3, .int .i64 sz]] w fun e w' => PiecePost w g A l c k er (.gave 10) e w' := by
  go_enter Try.func67, Try.ntmps67
  obtain ⟨W, hW, hbW, hzW, hvW⟩ := two_vars w #[.int .i64 3, .int .i64 sz] #[.int .u64 0, .slice none 0 0] 109 40
  clear hzW hvW
  go_wp2_with fail
  rw [← hW]
  clear hW
  have hRW : Rd W g A l.length c k er := h.kept (hbW.block g h.lt)
  refine (zero_short W g A _ c k er hRW sz h0 hn hk hs).mono ?_
  rintro e w1 ⟨rfl, q, rfl⟩
  go_wp2
  exact ⟨rfl, rfl, below_drewN hbW q⟩

set_option maxHeartbeats 1000000 in
theorem piece_rest_bad (w : World) (g : Nat) (A : Option Addr) (l : List UInt8) (c k : Nat) (er : Int) (h : Rd w g A l.length c k er) (sz : Int) (hs : ¬ sz = 0) :
    Calls Try.prog 67 #[.pointer (some ⟨g, 0, none⟩), .agg #[.int .i64 4, .int .i64 sz]] w fun e w' => PiecePost w g A l c k er (.gave 1) e w' := by
  go_enter Try.func67, Try.ntmps67
  obtain ⟨W, hW, hbW, hzW, hvW⟩ := two_vars w #[.int .i64 4, .int .i64 sz] #[.int .u64 0, .slice none 0 0] 109 40
  clear hzW hvW
  go_wp2_with fail
  rw [← hW]
  clear hW
  have hRW : Rd W g A l.length c k er := h.kept (hbW.block g h.lt)
  refine (rest_bad W g sz hs).mono ?_
  rintro e w1 ⟨rfl, q, rfl⟩
  go_wp2
  exact ⟨rfl, rfl, below_drewN hbW q⟩

set_option maxHeartbeats 1000000 in
theorem piece_zero (w : World) (g : Nat) (A : Option Addr) (l : List UInt8) (c k : Nat) (er : Int) (h : Rd w g A l.length c k er) (m : Nat) (hk : k + m ≤ l.length) (hl : l.length ≤ c) (hn : l.length ≤ 140737488355328) (hb : Byt w g A l) :
    Calls Try.prog 67 #[.pointer (some ⟨g, 0, none⟩), .agg #[.int .i64 3, .int .i64 (m : Int)]] w fun e w' =>
      (AllZero ((l.drop k).take m) ∧ PiecePost w g A l c k er (.got 0 [] m) e w') ∨ (¬ AllZero ((l.drop k).take m) ∧ PiecePost w g A l c k er (.gave 11) e w') := by
  have hcall := fun (W : World) (hRW : Rd W g A l.length c k er) (hbyW : Byt W g A l) => zero_any W g A l c k er hRW m hl hn hk hbyW
  obtain ⟨r, hr⟩ : ∃ r, r = (l.drop k).take m := ⟨_, rfl⟩
  rw [← hr] at hcall ⊢
  have HCALL := hide hcall
  clear hcall hr
  go_enter Try.func67, Try.ntmps67
  obtain ⟨W, hW, hbW, hzW, hvW⟩ := two_vars w #[.int .i64 3, .int .i64 (m : Int)] #[.int .u64 0, .slice none 0 0] 109 40
  have HZ := hide hzW
  have HV := hide hvW
  clear hzW hvW
  go_wp2_with fail
  rw [← hW]
  have hRW : Rd W g A l.length c k er := h.kept (hbW.block g h.lt)
  have hbyW : Byt W g A l := by have := h.lt; exact hb.below (hbW.mono (by omega))
  refine (HCALL.out W hRW hbyW).mono ?_
  rintro e w1 (⟨hz, rfl, hR1, hg1⟩ | ⟨hz, rfl, q, rfl⟩)
  · have HZR := hide hz
    clear hz
    have hv1 : w1.heap[w.heap.size + 1]? = some (.cells #[.int .u64 0, .slice none 0 0] 40 (0, 0)) := (hg1.block _ (by have := HZ.out; omega) (by have := h.lt; simp; omega)).trans HV.out
    have c0 : w1.cell? ⟨w.heap.size + 1, 0, none⟩ = some (.int .u64 0) := cell_of_row w1 _ 0 _ _ (0, 0) hv1
    have c1 : w1.cell? ⟨w.heap.size + 1, 1, none⟩ = some (.slice none 0 0) := cell_of_row w1 _ 1 _ _ (0, 0) hv1
    have f0 : w1.frozen? ⟨w.heap.size + 1, 0, none⟩ = false := frozen_of_row w1 _ 0 _ _ hv1
    have f1 : w1.frozen? ⟨w.heap.size + 1, 1, none⟩ = false := frozen_of_row w1 _ 1 _ _ hv1
    obtain ⟨r0, r1, hfin⟩ := two_set hv1 (.int .u64 0) (.slice none 0 0)
    have hend := hfin (Below.row hbW (some g)) hg1 hR1 (by have := h.lt; omega) (Nat.le_succ _)
    have HEND := hide hend
    clear hW hv1 hfin hend
    go_wp2
    exact bodyPost_ret (v := .agg #[.int .u64 0, .slice none 0 0]) (by simp [results, Try.results67, go_sem, r0, r1]) rfl (.inl ⟨HZR.out, ⟨_, rfl, OwnB.nil _ _⟩, HEND.out⟩)
  · have HZR := hide hz
    clear hz hW
    go_wp2
    exact ⟨rfl, .inr ⟨HZR.out, rfl, below_drewN hbW q⟩⟩

set_option maxHeartbeats 1000000 in
theorem piece_other (w : World) (g : Nat) (A : Option Addr) (l : List UInt8) (c k : Nat) (er : Int) (kd sz : Int) (h0 : ¬ kd = 0) (h1 : ¬ kd = 1) (h2 : ¬ kd = 2) (h3 : ¬ kd = 3) (h4 : ¬ kd = 4) :
    Calls Try.prog 67 #[.pointer (some ⟨g, 0, none⟩), .agg #[.int .i64 kd, .int .i64 sz]] w fun e w' => PiecePost w g A l c k er (.gave 1) e w' := by
  go_enter Try.func67, Try.ntmps67
  go_wp2
  exact ⟨rfl, rfl, ((Below.refl _ _).alloc (Nat.le_refl _) _).alloc (by simp) _⟩
end Go.Proofs.Ytgbmamahkpkdfaa
