import Derived.Test.YtjppmalcaogpiaaWq
import Derived.Deep.RegionWith
import Derived.Deep.DeepCutAuto
namespace Go.Proofs.Ytjppmalcaogpiaa
open Go.RowKit
set_option maxRecDepth 100000
attribute [local go_sem] ord_none_lt ord_none_gt ord_none_eq ord_none_ne ord_lt_lt ord_lt_gt ord_lt_eq ord_lt_ne ord_gt_lt ord_gt_gt ord_gt_eq ord_gt_ne ord_eq_lt ord_eq_gt ord_eq_eq ord_eq_ne store_fl unary_negF
def turnsF (l : List Nat) (n : Int) : List Nat := if n < 1 ∨ 4096 < n ∨ 32 < l.length ∨ bestF l = 0 then [] else turnsP (partsL l) n.toNat
def TurnsPost (w : World) (r : List Nat) (e : Ending) (w' : World) : Prop := ∃ v, e = .returned v ∧ OwnR w' w.heap.size 3 v (r.map inV) ∧ Below w.heap.size w w'

/-- the greatest one has the whole part. -/
theorem best_mem : ∀ (l : List Nat) (s : Nat), l.foldl (fun s x => max s (clF x)) s = s ∨ ∃ x ∈ l, clF x = l.foldl (fun s x => max s (clF x)) s
  | [], _ => .inl rfl
  | a :: l, s => by
    rw [List.foldl_cons]
    rcases best_mem l (max s (clF a)) with h | ⟨x, hx, h⟩
    · rw [h]
      by_cases c : clF a ≤ s
      · left; exact Nat.max_eq_left c
      · right; exact ⟨a, List.mem_cons_self, (Nat.max_eq_right (by omega)).symm⟩
    · right; exact ⟨x, List.mem_cons_of_mem _ hx, h⟩
theorem clF_clF (b : Nat) : clF (clF b) = clF b := by
  have h := clF_le b
  have hM := fMost_I
  rw [clF_pos (by omega)]; exact Nat.min_eq_left h
theorem clF_best (l : List Nat) : clF (bestF l) = bestF l := by
  have h := bestF_le l
  have hM := fMost_I
  rw [clF_pos (by omega)]; exact Nat.min_eq_left h
theorem best_part {l : List Nat} (h : bestF l ≠ 0) : ∃ j, j < (partsL l).length ∧ (partsL l).getD j 0 = fOne := by
  rcases best_mem l 0 with h1 | ⟨x, hx, h1⟩
  · exact absurd h1 h
  · obtain ⟨j, hj, rfl⟩ := List.getElem_of_mem hx
    refine ⟨j, by rw [partsL_len]; exact hj, ?_⟩
    have e : (partsL l).getD j 0 = prtF l[j] (bestF l) := by
      rw [List.getD_eq_getElem?_getD, List.getElem?_eq_getElem (by rw [partsL_len]; exact hj)]; simp [partsL]
    rw [e]
    have h2 : clF l[j] = bestF l := h1
    unfold prtF
    rw [h2, clF_best, if_neg (by omega), if_pos (Nat.le_refl _)]
theorem partsL_le (l : List Nat) : ∀ x ∈ partsL l, x ≤ fOne := by
  intro x hx
  simp only [partsL, List.mem_map] at hx
  obtain ⟨y, _, rfl⟩ := hx
  exact prtF_le _ _

/-- what the rows hold behind k steps. -/
structure TS (w wr : World) (gd m : Nat) (vp vt : Value) (ps : List Nat) (k : Nat) : Prop where
  bel : Below w.heap.size w wr
  debts : OwnR wr w.heap.size 22 (.slice (some ⟨gd, 0, none⟩) m m) ((stT ps k).1.map flV)
  turns : OwnR wr w.heap.size 3 vt ((stT ps k).2.map inV)
  parts : OwnR wr w.heap.size 22 vp (ps.map flV)
  ne : vp.ownBlock ≠ some gd

theorem TS.stored {w wr : World} {gd m : Nat} {vp vt : Value} {ps xs : List Nat} {k i : Nat} {u : Value} (hb : Below w.heap.size w wr) (hd : OwnR wr w.heap.size 22 (.slice (some ⟨gd, 0, none⟩) m m) (xs.map flV))
    (ht : OwnR wr w.heap.size 3 vt ((stT ps k).2.map inV)) (hp : OwnR wr w.heap.size 22 vp (ps.map flV)) (ne : vp.ownBlock ≠ some gd) :
    Below w.heap.size w (wr.setCell ⟨gd, i, none⟩ u) ∧ OwnR (wr.setCell ⟨gd, i, none⟩ u) w.heap.size 22 (.slice (some ⟨gd, 0, none⟩) m m) ((xs.map flV).set i u) ∧
      OwnR (wr.setCell ⟨gd, i, none⟩ u) w.heap.size 3 vt ((stT ps k).2.map inV) ∧ OwnR (wr.setCell ⟨gd, i, none⟩ u) w.heap.size 22 vp (ps.map flV) := by
  obtain ⟨s1, s2⟩ := hd.set i u
  have hg := hd.at gd rfl
  exact ⟨hb.setCell hg.1 u, s1, ht.kept s2 (ht.ne hd (by decide)), hp.kept s2 (.inr ne)⟩

/-- a step on which no turn comes: its store. -/
theorem TS.skip {w wr : World} {gd m : Nat} {vp vt : Value} {ps : List Nat} {k d p : Nat} (h : TS w wr gd m vp vt ps k) (hd : d = (stT ps k).1.getD (k % ps.length) 0) (hp : p = ps.getD (k % ps.length) 0) (hlt : addF d p < fOne) :
    TS w (wr.setCell ⟨gd, k % ps.length, none⟩ (.float .f64 (addF d p))) gd m vp vt ps (k + 1) := by
  have hc : comes d p = false := decide_eq_false (by omega)
  obtain ⟨h1, h2, h3, h4⟩ := TS.stored (i := k % ps.length) (u := .float .f64 (addF d p)) h.bel h.debts h.turns h.parts h.ne
  have e : stT ps (k + 1) = ((stT ps k).1.set (k % ps.length) (addF d p), (stT ps k).2) := by
    simp only [stT, ← hd, ← hp, hc]; unfold nextD; rw [if_pos hlt]; rfl
  refine ⟨h1, ?_, ?_, h4, h.ne⟩
  · rw [e]; simp only [List.map_set]; exact h2
  · rw [e]; exact h3

/-- a step on which a turn comes: its two stores, its box and its append. -/
theorem TS.came {w wr w3 : World} {gd m : Nat} {vp vt vt' : Value} {ps : List Nat} {k d p : Nat} (h : TS w wr gd m vp vt ps k) (hd : d = (stT ps k).1.getD (k % ps.length) 0) (hp : p = ps.getD (k % ps.length) 0) (hge : fOne ≤ addF d p)
    (o : Obj)
    (hown : w3.ownsRow w.heap.size 3 1 vt' ((stT ps k).2.length + 1) ((stT ps k).2.map inV ++ [inV (k % ps.length)]))
    (hg : (((wr.setCell ⟨gd, k % ps.length, none⟩ (.float .f64 (addF d p))).setCell ⟨gd, k % ps.length, none⟩ (.float .f64 (subF (addF d p)))).alloc o).grownBy w3 vt.ownBlock) :
    TS w w3 gd m vp vt' ps (k + 1) := by
  have hc : comes d p = true := decide_eq_true hge
  obtain ⟨a1, a2, a3, a4⟩ := TS.stored (i := k % ps.length) (u := .float .f64 (addF d p)) h.bel h.debts h.turns h.parts h.ne
  have e0 : ((stT ps k).1.map flV).set (k % ps.length) (.float .f64 (addF d p)) = ((stT ps k).1.set (k % ps.length) (addF d p)).map flV := by rw [List.map_set]; rfl
  rw [e0] at a2
  obtain ⟨b1, b2, b3, b4⟩ := TS.stored (i := k % ps.length) (u := .float .f64 (subF (addF d p))) a1 a2 a3 a4 h.ne
  have e1 : (((stT ps k).1.set (k % ps.length) (addF d p)).map flV).set (k % ps.length) (.float .f64 (subF (addF d p))) = (((stT ps k).1.set (k % ps.length) (subF (addF d p)))).map flV := by
    rw [List.map_set, List.set_set, List.map_set]; rfl
  rw [e1] at b2
  have hs : w.heap.size ≤ wr.heap.size := h.bel.size
  generalize hV : ((wr.setCell ⟨gd, k % ps.length, none⟩ (.float .f64 (addF d p))).setCell ⟨gd, k % ps.length, none⟩ (.float .f64 (subF (addF d p)))) = V at *
  have hsV : w.heap.size ≤ V.heap.size := b1.size
  have e : stT ps (k + 1) = ((stT ps k).1.set (k % ps.length) (subF (addF d p)), (stT ps k).2 ++ [k % ps.length]) := by
    simp only [stT, ← hd, ← hp, hc]; unfold nextD; rw [if_neg (by omega)]; rfl
  refine ⟨?_, ?_, ?_, ?_, h.ne⟩
  · exact below_grown (b1.alloc hsV _) (b3.alloc _) hg (Nat.le_refl _) (by simp; omega)
  · rw [e]; exact (b2.alloc _).kept hg ((b2.alloc o).ne (b3.alloc o) (by decide))
  · rw [e]; unfold OwnR; simp only [List.map_append, List.map_cons, List.map_nil, List.length_append, List.length_map, List.length_singleton]; exact hown
  · exact (b4.alloc _).kept hg ((b4.alloc o).ne (b3.alloc o) (by decide))

theorem TS.start {w wx : World} {gd m : Nat} {vp : Value} {ps : List Nat} (hm : m = ps.length) (hb : Below w.heap.size w wx) (hd : OwnR wx w.heap.size 22 (.slice (some ⟨gd, 0, none⟩) m m) (List.replicate m (.float .f64 0)))
    (hp : OwnR wx w.heap.size 22 vp (ps.map flV)) (ne : vp.ownBlock ≠ some gd) : TS w wx gd m vp (.slice none 0 0) ps 0 := by
  refine ⟨hb, ?_, OwnR.nil _ _ _, hp, ne⟩
  have e : ((stT ps 0).1.map flV) = List.replicate m (.float .f64 0) := by simp [stT, flV, hm]
  rw [e]; exact hd
theorem FlS.drew {w : World} {B : Nat} {A : Option Addr} {l : List Nat} (h : FlS w B A l) : FlS w.drew B A l := h
theorem FlS.alloc {w : World} {B : Nat} {A : Option Addr} {l : List Nat} (h : FlS w B A l) (hB : B ≤ w.heap.size) (o : Obj) : FlS (w.alloc o) B A l := h.below ((Below.refl _ _).alloc hB o) (Nat.le_refl _)
/-- the rows ahead of the first step. -/
def TStart (w wx : World) (m : Nat) (ps : List Nat) (p d : Value) : Prop := ∃ gd Ap cp, d = .slice (some ⟨gd, 0, none⟩) m m ∧ p = .slice Ap m cp ∧ TS w wx gd m p (.slice none 0 0) ps 0
theorem belowW_undrew {B : Nat} {w w' : World} (h : Below B w.drew w') : Below B w w' := ⟨h.os, h.tape, h.output, h.size, h.block⟩
theorem TStart.drew {w wx : World} {m : Nat} {ps : List Nat} {p d : Value} (h : TStart w wx m ps p d) : TStart w wx.drew m ps p d := by
  obtain ⟨gd, Ap, cp, h1, h2, h3⟩ := h
  exact ⟨gd, Ap, cp, h1, h2, h3.bel.drew, h3.debts, h3.turns, h3.parts, h3.ne⟩
theorem made_fl (m : Nat) : (madeCells #[Value.float .f64 0] m).toList = List.replicate m (.float .f64 0) := toList_madeCells_one _ _
/-- the parts first, then the debts. -/
theorem tstartA {w w1 w2 : World} {m : Nat} {ps : List Nat} {v : Value} (hm : m = ps.length) (hm32 : m ≤ 32) (h1 : Below w.heap.size w w1) (ho : OwnR w2 w1.heap.size 22 v (ps.map flV)) (hb : Below w1.heap.size w1 w2) :
    TStart w (w2.alloc (.cells (madeCells #[.float .f64 0] m) 22)) m ps v (.slice (some ⟨w2.heap.size, 0, none⟩) m m) := by
  obtain ⟨A, c, e, _⟩ := ho.shape
  have s1 := h1.size
  have s2 := hb.size
  have hB : Below w.heap.size w w2 := h1.trans (hb.mono s1)
  have hl := World.ownsRow_lit (e := 22) (size := 1) (base := w.heap.size) w2 (madeCells #[Value.float .f64 0] m) m (by omega) (by unfold maxLen; omega) (by rw [size_madeCells]; omega)
  have ho' : OwnR w2 w.heap.size 22 v (ps.map flV) := by
    refine ⟨ho.1, ?_⟩
    rcases ho.2 with h | ⟨g, cap, cur, a1, a2, a3⟩
    · exact .inl h
    · exact .inr ⟨g, cap, cur, a1, by omega, a3⟩
  refine ⟨_, A, c, rfl, by rw [e, List.length_map, ← hm], TS.start hm (hB.alloc (by omega) _) ?_ (ho'.alloc _) ?_⟩
  · unfold OwnR; rw [List.length_replicate, ← made_fl]; exact hl
  · intro h; have := (ho.at _ h).2; omega
/-- the debts first, then the parts. -/
theorem tstartB {w w1 w2 : World} {m : Nat} {ps : List Nat} {v : Value} (hm : m = ps.length) (hm32 : m ≤ 32) (h1 : Below w.heap.size w w1)
    (ho : OwnR w2 (w1.alloc (.cells (madeCells #[.float .f64 0] m) 22)).heap.size 22 v (ps.map flV)) (hb : Below (w1.alloc (.cells (madeCells #[.float .f64 0] m) 22)).heap.size (w1.alloc (.cells (madeCells #[.float .f64 0] m) 22)) w2) :
    TStart w w2 m ps v (.slice (some ⟨w1.heap.size, 0, none⟩) m m) := by
  obtain ⟨A, c, e, _⟩ := ho.shape
  have s1 := h1.size
  have s2 := hb.size
  have s3 : (w1.alloc (.cells (madeCells #[.float .f64 0] m) 22)).heap.size = w1.heap.size + 1 := by simp
  have hB : Below w.heap.size w w2 := (h1.alloc s1 _).trans (hb.mono (by omega))
  have hl := World.ownsRow_lit (e := 22) (size := 1) (base := w.heap.size) w1 (madeCells #[Value.float .f64 0] m) m (by omega) (by unfold maxLen; omega) (by rw [size_madeCells]; omega)
  have hl' : OwnR (w1.alloc (.cells (madeCells #[.float .f64 0] m) 22)) w.heap.size 22 (.slice (some ⟨w1.heap.size, 0, none⟩) m m) (List.replicate m (.float .f64 0)) := by
    unfold OwnR; rw [List.length_replicate, ← made_fl]; exact hl
  have ho' : OwnR w2 w.heap.size 22 v (ps.map flV) := by
    refine ⟨ho.1, ?_⟩
    rcases ho.2 with h | ⟨g, cap, cur, a1, a2, a3⟩
    · exact .inl h
    · exact .inr ⟨g, cap, cur, a1, by omega, a3⟩
  refine ⟨_, A, c, rfl, by rw [e, List.length_map, ← hm], TS.start hm hB (hl'.below hb) ho' ?_⟩
  intro h; have := (ho.at _ h).1; omega
theorem getD_le {l : List Nat} {b : Nat} (h : ∀ x ∈ l, x ≤ b) (i : Nat) : l.getD i 0 ≤ b := by
  rw [List.getD_eq_getElem?_getD]
  cases hc : l[i]? with
  | none => exact Nat.zero_le _
  | some y => exact h y (List.mem_of_getElem? hc)
theorem map_flV {l : List Nat} {i : Nat} (h : i < (l.map flV).length) : (l.map flV)[i] = .float .f64 (l.getD i 0) := by
  rw [List.getElem_map, List.getD_eq_getElem?_getD, List.getElem?_eq_getElem (by simpa using h)]; rfl
/-- what a step reads. -/
theorem TS.reads {w wr : World} {gd m k i cp : Nat} {Ap : Option Addr} {vt : Value} {ps : List Nat} (h : TS w wr gd m (.slice Ap m cp) vt ps k) (hm : m = ps.length) (hi : i < m) (hp : ∀ x ∈ ps, x ≤ fOne) :
    ∃ gp d p, Ap = some ⟨gp, 0, none⟩ ∧ wr.cell? ⟨gp, i, none⟩ = some (.float .f64 p) ∧ wr.cell? ⟨gd, i, none⟩ = some (.float .f64 d) ∧ wr.frozen? ⟨gd, i, none⟩ = false ∧ d ≤ fOne ∧ p ≤ fOne ∧
      d = (stT ps k).1.getD i 0 ∧ p = ps.getD i 0 := by
  obtain ⟨gp, cp', hvp, _⟩ := h.parts.pos (by rw [List.length_map]; omega)
  have e := Value.slice.inj hvp
  obtain ⟨rfl, _, _⟩ := e
  refine ⟨gp, _, _, rfl, ?_, ?_, h.debts.frozen i, getD_le (stT_le hp k) i, getD_le hp i, rfl, rfl⟩
  · rw [h.parts.cell i (by rw [List.length_map]; omega), map_flV]
  · rw [h.debts.cell i (by rw [List.length_map, stT_len]; omega), map_flV]
theorem box_cell (w : World) (a b : Addr) (u v x : Value) (t : TypeId) : (((w.setCell a u).setCell b v).alloc (.cells #[x] t)).cell? ((⟨w.heap.size, 0, none⟩ : Addr).add 0) = some x := by
  have hz : ((w.setCell a u).setCell b v).heap.size = w.heap.size := by simp [World.setCell]
  have h := cell_of_row (((w.setCell a u).setCell b v).alloc (.cells #[x] t)) _ 0 _ _ (0, 0) (heap_alloc_new _ _)
  rw [hz] at h
  exact h
def lenV : Value → Nat
  | .slice _ n _ => n
  | _ => 0
theorem turnsF_nil {l : List Nat} {n : Int} (h : n < 1 ∨ 4096 < n ∨ 32 < l.length ∨ bestF l = 0) : turnsF l n = [] := if_pos h

set_option maxHeartbeats 4000000 in
theorem turns_any (A : Option Addr) (c : Nat) (l : List Nat) (n : Int) (B : Nat) (w : World) (hl : l.length ≤ 140737488355328) (hn63 : -9223372036854775808 ≤ n ∧ n ≤ 9223372036854775807) (hB : B ≤ w.heap.size) (hb : FlS w B A l) :
    Calls Try.prog 23 #[.slice A l.length c, .int .i64 n] w (TurnsPost w (turnsF l n)) := by
  obtain ⟨m, hm⟩ : ∃ m, m = l.length := ⟨_, rfl⟩
  have HNil : Hid (∀ w', (n < 1 ∨ 4096 < n ∨ 32 < m ∨ bestF l = 0) → Below w.heap.size w w' → TurnsPost w (turnsF l n) (.returned (.slice none 0 0)) w') := by
    refine hide fun w' h hbb => ?_
    rw [hm] at h
    rw [turnsF_nil h]; exact ⟨_, rfl, OwnR.nil _ _ _, hbb⟩
  have CB := hide (fun w' (h : FlS w' B A l) (hB' : B ≤ w'.heap.size) => best_any A c l B w' hl hB' h)
  rw [← hm] at CB hl ⊢
  have HF := hide hb
  have hlen := hide hm
  clear hm hb
  by_cases h1 : n < 1
  · have H := hide (HNil.out w (.inl h1) (Below.refl _ _))
    clear HNil CB
    go_enter Try.func23, Try.ntmps23
    go_wp2
    go_ret
    exact H.out
  · by_cases h2 : 4096 < n
    · have H := hide (HNil.out w (.inr (.inl h2)) (Below.refl _ _))
      clear HNil CB
      go_enter Try.func23, Try.ntmps23
      go_wp2
      go_ret
      exact H.out
    · by_cases h3 : 32 < m
      · have H := hide (HNil.out w (.inr (.inr (.inl h3))) (Below.refl _ _))
        have h3' : (32 : Int) < (m : Int) := by omega
        clear HNil CB
        go_enter Try.func23, Try.ntmps23
        go_wp2
        go_ret
        exact H.out
      · by_cases h4 : bestF l = 0
        · have H := hide (fun w' => HNil.out w' (.inr (.inr (.inr h4))))
          rw [h4] at CB
          have ho : FloatKind.f64.format.order 0 0 = some .eq := by decide
          have h3' : ¬ (32 : Int) < (m : Int) := by omega
          clear HNil h4 
          go_enter Try.func23, Try.ntmps23
          go_wp2_with (first | ((with_reducible refine (CB.out _ HF.out hB).mono ?_); rintro e w1 ⟨rfl, B1⟩) | fail)
          go_ret
          exact H.out _ B1
        · obtain ⟨b, hbst⟩ : ∃ b, b = bestF l := ⟨_, rfl⟩
          have ho : FloatKind.f64.format.order b 0 = some .gt := order_gt (by rw [hbst]; exact Nat.le_of_lt (bestF_lt l)) (by omega)
          have hm32 : m ≤ 32 := by omega
          have h3' : ¬ (32 : Int) < (m : Int) := by omega
          have CP := hide (fun w' (h : FlS w' B A l) (hB' : B ≤ w'.heap.size) => parts_any A c l B w' (by have := hlen.out; omega) hB' h)
          rw [← hlen.out] at CP
          obtain ⟨j, hj, hjp⟩ := best_part h4
          obtain ⟨N, rfl⟩ : ∃ N : Nat, n = (N : Int) := ⟨n.toNat, by omega⟩
          have HT : Hid (turnsF l (N : Int) = turnsP (partsL l) N) := by
            refine hide ?_
            unfold turnsF; rw [if_neg (by have := hlen.out; omega)]; rfl
          obtain ⟨ps, hps⟩ : ∃ ps, ps = partsL l := ⟨_, rfl⟩
          have HPS := hide hps
          have hml : Hid (m = ps.length) := by refine hide ?_; rw [hps, partsL_len]; exact hlen.out
          have HPle : Hid (∀ x ∈ ps, x ≤ fOne) := by rw [hps]; exact partsL_le l
          rw [← hps] at hj hjp HT
          rw [← hbst] at CB
          have HJ := hide hj
          have HJP := hide hjp
          obtain ⟨i0, hi, hz0, hz1, hz2⟩ := info_parts info_fl
          have hmk : ∀ W : World, (Instr.makeSlice 28 (.int .i64 (m : Int)) (.int .i64 (m : Int))).run Try.prog W = .ok (.slice (some ⟨W.heap.size, 0, none⟩) m m) (W.alloc (.cells (madeCells #[.float .f64 0] m) 22)) := fun W => by
            have h := run_make (P := Try.prog) W 28 22 i0 _ Try.underlying28 hi hz0 .i64 .i64 m m (by omega) (by omega) (by rw [hz2]; omega) (by omega)
            simp only [Int.toNat_natCast, hz1, Nat.mul_one] at h
            exact h
          have HMK := hide hmk
          clear HNil h4 hbst hj hjp hps hmk hi hz0 hz1 hz2 hl hn63
          go_enter Try.func23, Try.ntmps23
          go_upto_region 3 with (first | ((with_reducible refine (CB.out _ HF.out hB).mono ?_); rintro e w1 ⟨rfl, B1⟩; have hB1 := hide B1; clear B1) | fail)
          go_cut [5, 6] from 26 to 30 (fun p d wx => TStart w wx m ps p d)
          case first =>
            have hmk := HMK.out
            have hFl : Hid (FlS w1 B A l) := hide (HF.out.below hB1.out hB)
            have hsz : B ≤ w1.heap.size := Nat.le_trans hB hB1.out.size
            have HSZ := hide hsz
            clear hsz
            go_region_with (first | (go_at_call 34; refine (CP.out _ (by first | exact hFl.out.drew | exact (hFl.out.alloc HSZ.out _).drew) (by have := HSZ.out; simp; omega)).mono ?_; rintro e w2 ⟨v, rfl, ho2, b2⟩))
            all_goals (go_wp2_with fail; go_meet; first | exact tstartA (by rw [hml.out]) hm32 hB1.out (by rw [HPS.out]; exact ho2) (belowW_undrew b2) | exact tstartB (by rw [hml.out]) hm32 hB1.out (by rw [HPS.out]; exact ho2) (belowW_undrew b2))
          case rest =>
            obtain ⟨gd, Ap, cp, rfl, rfl, hts⟩ := hcut
            have HTS := hide hts
            clear hts HF HMK CB CP hB1
            have HSt : Hid ((stT ps (0 * m)).2.length < N) := by refine hide ?_; rw [Nat.zero_mul]; simp [stT]; omega
            go_wp2
            go_loopw [7] (fun vt wr => ∃ r : Nat, Hid (TS w wr gd m (.slice Ap m cp) vt ps (r * m)) ∧ Hid ((stT ps (r * m)).2.length < N)) (fun vt _ => N - lenV vt)
            case atStart => exact ⟨0, by rw [Nat.zero_mul]; exact HTS, HSt⟩
            case round =>
              obtain ⟨r, hr, hlt⟩ := hrel
              obtain ⟨L0, hL0⟩ : ∃ L, L = lenV u7 := ⟨_, rfl⟩
              have HL0 : Hid (L0 = (stT ps (r * m)).2.length) := by
                refine hide ?_
                obtain ⟨A', c', e, _⟩ := hr.out.turns.shape
                rw [hL0, e]; simp [lenV]
              have HL1 := hide hL0
              clear hL0
              go_wp2
              go_loopw [7, 33] (fun vt v wr => ∃ i : Nat, i ≤ m ∧ v = .int .i64 (i : Int) ∧ Hid (TS w wr gd m (.slice Ap m cp) vt ps (r * m + i)) ∧ Hid ((stT ps (r * m + i)).2.length < N)) (fun _ v _ => m - (intOf v).toNat)
              case atStart => exact ⟨0, by omega, rfl, hr, hlt⟩
              case round =>
                obtain ⟨i, hi, rfl, hts, hlt2⟩ := hrel
                by_cases hlti : i < m
                · have hm0 : 0 < m := by omega
                  have hkm : (r * m + i) % ps.length = i := by rw [← hml.out, Nat.mul_comm, Nat.mul_add_mod, Nat.mod_eq_of_lt hlti]
                  obtain ⟨gp, d, p, rfl, hcp, hcd, hfd, hdl, hpl, hd, hp⟩ := hts.out.reads hml.out hlti HPle.out
                  have HD := hide hd
                  have HP := hide hp
                  obtain ⟨ha, ha2⟩ := add_two hdl hpl
                  have hsk := fun h => hts.out.skip (d := d) (p := p) (by rw [hkm]; exact hd) (by rw [hkm]; exact hp) h
                  have hcm := fun w3 vt' h o h2 h3 => TS.came (w3 := w3) (vt' := vt') hts.out (d := d) (p := p) (by rw [hkm]; exact hd) (by rw [hkm]; exact hp) h o h2 h3
                  rw [hkm] at hsk hcm
                  obtain ⟨a, hae⟩ : ∃ a, a = addF d p := ⟨_, rfl⟩
                  rw [← hae] at ha ha2 hsk hcm
                  have hqa := fun W => run_fl (P := Try.prog) .add 22 ha W
                  have HSK := hide hsk
                  have HCM := hide hcm
                  clear hsk hcm hd hp ha hdl hpl
                  by_cases hlt3 : a < fOne
                  · have ho : FloatKind.f64.format.order a 4607182418800017408 = some .lt := order_lt (Nat.le_of_lt one_lt) hlt3
                    have HN := hide (HSK.out hlt3)
                    have HN2 : Hid ((stT ps (r * m + i + 1)).2.length < N) := by
                      refine hide ?_
                      have e : (stT ps (r * m + i + 1)).2 = (stT ps (r * m + i)).2 := by
                        have hc : comes d p = false := decide_eq_false (by omega)
                        simp only [stT, hkm]; rw [← HD.out, ← HP.out, hc]; rfl
                      rw [e]; exact hlt2.out
                    clear HSK HCM hlt3 hts hlt2 hae ha2 hkm
                    go_wp2
                    go_roundw
                    case rel => exact ⟨i + 1, by omega, by go_num, HN, HN2⟩
                    case measure => simp [intOf]; omega
                  · have ho : FloatKind.f64.format.order a 4607182418800017408 = some .gt ∨ FloatKind.f64.format.order a 4607182418800017408 = some .eq := by
                      have h2 := two_lt
                      rcases Nat.lt_or_eq_of_le (Nat.le_of_not_lt hlt3) with h | h
                      · left; exact order_gt (y := fOne) (by omega) h
                      · right; exact order_eq (y := fOne) (by omega) h.symm
                    have ho : (FloatKind.f64.format.order a 4607182418800017408 == some .lt) = false := by rcases ho with h | h <;> rw [h] <;> rfl
                    obtain ⟨hs1, hs2⟩ := sub_one (Nat.le_of_not_lt hlt3) ha2
                    obtain ⟨z, hz⟩ : ∃ z, z = subF a := ⟨_, rfl⟩
                    rw [← hz] at hs1
                    have hqs : ∀ W : World, (binOp .sub 22 (.float .f64 a) (.float .f64 4607182418800017408)).run Try.prog W = .ok (.float .f64 z) W := fun W => run_fl (P := Try.prog) .sub 22 hs1 W
                    have HC2 := hide (fun w3 vt' => HCM.out w3 vt' (Nat.le_of_not_lt hlt3))
                    rw [← hz] at HC2
                    have HST : Hid ((stT ps (r * m + i + 1)).2 = (stT ps (r * m + i)).2 ++ [i]) := by
                      refine hide ?_
                      have hc : comes d p = true := decide_eq_true (by omega)
                      simp only [stT, hkm]; rw [← HD.out, ← HP.out, hc]; rfl
                    obtain ⟨L, hL⟩ : ∃ L, L = (stT ps (r * m + i)).2.length := ⟨_, rfl⟩
                    obtain ⟨At, ct, hvt, hct⟩ := hts.out.turns.shape
                    rw [List.length_map, ← hL] at hvt
                    subst hvt
                    have HLL := hide hL
                    have hLN : L < N := by rw [hL]; exact hlt2.out
                    obtain ⟨i1, hj, hj0, hj1, hj2⟩ := info_parts info_in
                    have HT3 : Hid (∀ u v : Value, ((wr.setCell ⟨gd, i, none⟩ u).setCell ⟨gd, i, none⟩ v).ownsRow w.heap.size 3 1 (.slice At L ct) L ((stT ps (r * m + i)).2.map inV)) := by
                      refine hide fun u v => ?_
                      obtain ⟨a1, a2, a3, a4⟩ := TS.stored (i := i) (u := u) hts.out.bel hts.out.debts hts.out.turns hts.out.parts hts.out.ne
                      have e0 : ((stT ps (r * m + i)).1.map flV).set i u = ((stT ps (r * m + i)).1.map flV).set i u := rfl
                      have s2 := a2.set i v
                      have h3 := a3.kept s2.2 (a3.ne a2 (by decide))
                      have h4 := h3
                      unfold OwnR at h4
                      rw [List.length_map, ← hL] at h4
                      exact h4
                    have hsz := hts.out.bel.size
                    have HSZ := hide hsz
                    clear hs1 hs2 hz hts hlt2 hae ha2 hkm HCM HSK hlt3 hL hct hsz
                    go_wp2_with (first | (at_builtin; refine wpList_append_own _ rfl _ _ 31 rfl w.heap.size 3 i1 (.int .i64 0) 1 8 Try.underlying31 hj hj0 hj1 hj2 rfl (by decide) _ L ((stT ps (r * m + i)).2.map inV) rfl (World.ownsRow.alloc (HT3.out _ _) _) ⟨wr.heap.size, 0, none⟩ 1 1 [inV i] rfl rfl ?c1 ?c2 ?c3 ?c4 ?c5 ?_) | fail)
                    case c1 =>
                      intro j u hj
                      match j, hj with
                      | 0, hj => simp [inV] at hj; subst hj; exact box_cell wr _ _ _ _ _ _
                    case c2 => intro u hu; simp [inV] at hu; subst hu; rfl
                    case c3 => unfold maxLen; omega
                    case c4 => omega
                    case c5 => have h1 := HSZ.out; simp; omega
                    · intro v' w3 hown' hgrow _
                      have HN : Hid (TS w w3 gd m (.slice (some ⟨gp, 0, none⟩) m cp) v' ps (r * m + i + 1)) := by
                        refine hide (HC2.out w3 v' _ ?_ hgrow)
                        rw [← HLL.out]; exact hown'
                      have HLN : Hid ((stT ps (r * m + i + 1)).2.length = L + 1) := by refine hide ?_; rw [HST.out, List.length_append, ← HLL.out]; rfl
                      obtain ⟨A', c', hv', _⟩ := HN.out.turns.shape
                      rw [List.length_map, HLN.out] at hv'
                      subst hv'
                      clear hown' hgrow HC2 HT3
                      by_cases hend : L + 1 = N
                      · have hend' : (L : Int) + 1 = (N : Int) := by omega
                        have HF : Hid (TurnsPost w (turnsF l (N : Int)) (.returned (.slice A' (L + 1) c')) w3) := by
                          refine hide ?_
                          rw [HT.out, turnsP_at HJ.out HJP.out (k := r * m + i + 1) (by rw [HLN.out]; exact hend)]
                          exact ⟨_, rfl, HN.out.turns, HN.out.bel⟩
                        clear hend
                        go_wp2
                        go_ret
                        exact HF.out
                      · have hend' : ((L : Int) + 1 == (N : Int)) = false := by simp; omega
                        have HN2 : Hid ((stT ps (r * m + i + 1)).2.length < N) := by rw [HLN.out]; exact hide (by omega)
                        go_wp2
                        go_roundw
                        case rel => exact ⟨i + 1, by omega, by go_num, HN, HN2⟩
                        case measure => simp [intOf]; omega
                · obtain rfl : i = m := by omega
                  have hr' : Hid (TS w wr gd i (.slice Ap i cp) u7 ps ((r + 1) * i)) := by rw [Nat.add_mul, Nat.one_mul]; exact hts
                  have hl' : Hid ((stT ps ((r + 1) * i)).2.length < N) := by rw [Nat.add_mul, Nat.one_mul]; exact hlt2
                  clear hlti
                  go_wp2
                  go_roundw
                  case rel => exact ⟨r + 1, hr', hl'⟩
                  case measure =>
                    obtain ⟨A', c', e, _⟩ := hr'.out.turns.shape
                    have e1 : lenV u7 = (stT ps ((r + 1) * i)).2.length := by rw [e]; simp [lenV]
                    have e2 := stT_round HJ.out HJP.out r
                    rw [← hml.out] at e2
                    have e3 := hl'.out
                    rw [← HL1.out, HL0.out, e1]; omega
end Go.Proofs.Ytjppmalcaogpiaa
