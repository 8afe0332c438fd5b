/-
  A view: which functions only read it, or write one's place in it.
-/
import Derived.Test.YtpbgbfmpjgkllaaMm
import Derived.Deep.WholeRow
import Derived.StillTailTactics
import Derived.Maps.AppendAt
namespace Go.Proofs.Ytpbgbfmpjgkllaa
open Go.RowKit
set_option maxRecDepth 100000
set_option linter.unusedVariables false
set_option linter.unusedSimpArgs false
attribute [local go_sem ↓] exec_span exec_put exec_build heap_alloc_new heap_old
attribute [local go_sem] spanQ_ptr spanC_some heap_of_drew heap_of_drewN putAt_ptr putOk_ptr oldOk_some World.setRow_alloc_new rs_inf rs_view

theorem alloc_nm (w : World) (o : Obj) : ∃ W, w.alloc o = W ∧ W.heap[w.heap.size]? = some o ∧ W.heap.size = w.heap.size + 1 ∧ Below w.heap.size w W := by
  refine ⟨_, rfl, heap_alloc_new _ _, by simp, (Below.refl _ _).alloc (Nat.le_refl _) _⟩
theorem grown_ofB {w w' : World} (h : Below w.heap.size w w') (row : Option Nat) : w.grownBy w' row := ⟨h.os, h.tape, h.output, h.size, fun k hk _ => h.block k hk⟩
theorem below_putObj {B b : Nat} {w0 w : World} (h : Below B w0 w) (hb : B ≤ b) (o : Obj) : Below B w0 (w.putObj b o) :=
  h.trans ⟨rfl, rfl, rfl, by simp, fun k hk => World.putObj_heap_other (by omega)⟩
set_option maxHeartbeats 1000000 in
theorem rightI_any (w : World) (a : Int × Int) : Calls Try.prog 12 #[infV a] w (RetV w (.bool (rightI a))) := by
  obtain ⟨s, i⟩ := a
  have hF : Hid (∀ w' r, Below w.heap.size w w' → r = rightI (s, i) → RetV w (.bool (rightI (s, i))) (.returned (.bool r)) w') := hide fun w' r hb hr => ⟨by rw [hr], hb⟩
  have HE : Hid (rightI (s, i) = (decide (s ≥ 0) && (decide (s ≤ 2) && (decide (i ≥ 0) && decide (i ≤ 1099511627776))))) := hide rfl
  generalize rightI (s, i) = R at hF HE ⊢
  have hB : Hid (Below w.heap.size w (w.alloc (.cells #[.int .i64 s, .int .i64 i] 24))) := hide ((Below.refl _ _).alloc (Nat.le_refl _) _)
  unfold infV infA
  go_enter Try.func12, Try.ntmps12
  obtain ⟨q1, h1⟩ : ∃ q, q = decide (s ≥ 0) := ⟨_, rfl⟩
  obtain ⟨q2, h2⟩ : ∃ q, q = decide (s ≤ 2) := ⟨_, rfl⟩
  obtain ⟨q3, h3⟩ : ∃ q, q = decide (i ≥ 0) := ⟨_, rfl⟩
  obtain ⟨q4, h4⟩ : ∃ q, q = decide (i ≤ 1099511627776) := ⟨_, rfl⟩
  rw [← h1, ← h2, ← h3, ← h4] at HE
  have g1 := h1.symm
  have g2 := h2.symm
  have g3 := h3.symm
  have g4 := h4.symm
  clear h1 h2 h3 h4
  cases q1
  · have hR : Hid (false = R) := hide (by rw [HE.out]; rfl)
    go_wp2
    go_ret
    exact hF.out _ _ hB.out hR.out
  cases q2
  · have hR : Hid (false = R) := hide (by rw [HE.out]; rfl)
    go_wp2
    go_ret
    exact hF.out _ _ hB.out hR.out
  cases q3
  · have hR : Hid (false = R) := hide (by rw [HE.out]; rfl)
    go_wp2
    go_ret
    exact hF.out _ _ hB.out hR.out
  · have hR : Hid (q4 = R) := hide (by rw [HE.out]; rfl)
    go_wp2
    go_ret
    exact hF.out _ _ hB.out hR.out
set_option maxHeartbeats 1000000 in
theorem rightR_any (w : World) (a : Int × Int) : Calls Try.prog 13 #[infV a] w (RetV w (.bool (rightI a))) := by
  obtain ⟨s, i⟩ := a
  have hF : Hid (∀ w' r, Below w.heap.size w w' → r = rightI (s, i) → RetV w (.bool (rightI (s, i))) (.returned (.bool r)) w') := hide fun w' r hb hr => ⟨by rw [hr], hb⟩
  have HE : Hid (rightI (s, i) = (decide (s ≥ 0) && (decide (s ≤ 2) && (decide (i ≥ 0) && decide (i ≤ 1099511627776))))) := hide rfl
  generalize rightI (s, i) = R at hF HE ⊢
  have hB : Hid (Below w.heap.size w (w.alloc (.cells #[.int .i64 s, .int .i64 i] 23))) := hide ((Below.refl _ _).alloc (Nat.le_refl _) _)
  unfold infV infA
  go_enter Try.func13, Try.ntmps13
  obtain ⟨q1, h1⟩ : ∃ q, q = decide (s ≥ 0) := ⟨_, rfl⟩
  obtain ⟨q2, h2⟩ : ∃ q, q = decide (s ≤ 2) := ⟨_, rfl⟩
  obtain ⟨q3, h3⟩ : ∃ q, q = decide (i ≥ 0) := ⟨_, rfl⟩
  obtain ⟨q4, h4⟩ : ∃ q, q = decide (i ≤ 1099511627776) := ⟨_, rfl⟩
  rw [← h1, ← h2, ← h3, ← h4] at HE
  have g1 := h1.symm
  have g2 := h2.symm
  have g3 := h3.symm
  have g4 := h4.symm
  clear h1 h2 h3 h4
  cases q1
  · have hR : Hid (false = R) := hide (by rw [HE.out]; rfl)
    go_wp2
    go_ret
    exact hF.out _ _ hB.out hR.out
  cases q2
  · have hR : Hid (false = R) := hide (by rw [HE.out]; rfl)
    go_wp2
    go_ret
    exact hF.out _ _ hB.out hR.out
  cases q3
  · have hR : Hid (false = R) := hide (by rw [HE.out]; rfl)
    go_wp2
    go_ret
    exact hF.out _ _ hB.out hR.out
  · have hR : Hid (q4 = R) := hide (by rw [HE.out]; rfl)
    go_wp2
    go_ret
    exact hF.out _ _ hB.out hR.out
set_option maxHeartbeats 1000000 in
theorem newerR_any (w : World) (a b : Int × Int) : Calls Try.prog 11 #[infV a, infV b] w (RetV w (.bool (newerI a b))) := by
  obtain ⟨s, i⟩ := a
  obtain ⟨t, j⟩ := b
  have hF : Hid (∀ w' r, Below w.heap.size w w' → r = newerI (s, i) (t, j) → RetV w (.bool (newerI (s, i) (t, j))) (.returned (.bool r)) w') := hide fun w' r hb hr => ⟨by rw [hr], hb⟩
  have HE : Hid (newerI (s, i) (t, j) = (decide (i > j) || (i == j && decide (s > t)))) := hide rfl
  generalize newerI (s, i) (t, j) = R at hF HE ⊢
  have hB : Hid (Below w.heap.size w ((w.alloc (.cells #[.int .i64 s, .int .i64 i] 23)).alloc (.cells #[.int .i64 t, .int .i64 j] 23))) := hide (((Below.refl _ _).alloc (Nat.le_refl _) _).alloc (by simp) _)
  unfold infV infA
  go_enter Try.func11, Try.ntmps11
  obtain ⟨q1, h1⟩ : ∃ q, q = decide (i > j) := ⟨_, rfl⟩
  obtain ⟨q2, h2⟩ : ∃ q, q = (i == j) := ⟨_, rfl⟩
  obtain ⟨q3, h3⟩ : ∃ q, q = decide (s > t) := ⟨_, rfl⟩
  rw [← h1, ← h2, ← h3] at HE
  have g1 := h1.symm
  have g2 := h2.symm
  have g3 := h3.symm
  clear h1 h2 h3
  cases q1
  · cases q2
    · have hR : Hid (false = R) := hide HE.out.symm
      go_wp2
      go_ret
      exact hF.out _ _ hB.out hR.out
    · have hR : Hid (q3 = R) := hide (by rw [HE.out]; rfl)
      go_wp2
      go_ret
      exact hF.out _ _ hB.out hR.out
  · have hR : Hid (true = R) := hide (by rw [HE.out]; rfl)
    go_wp2
    go_ret
    exact hF.out _ _ hB.out hR.out
theorem built_given14_any (s i : Int) : Try.prog.built 24 [(0, .int .i64 s), (1, .int .i64 i)] = some #[.int .i64 s, .int .i64 i] := by kernel_rfl
theorem info_given14_any : (Try.prog.info? 24).map (·.size) = some 2 := by kernel_rfl
theorem rs_given14_any : rowSize Try.prog 24 = some 2 := by kernel_rfl
set_option maxHeartbeats 1000000 in
theorem given14_any (w : World) (p : Int × Int) : Calls Try.prog 9 #[infV p] w (RetV w (infV p)) := by
  obtain ⟨s, i⟩ := p
  have hb := built_given14_any s i
  have rs := rs_given14_any
  unfold infV infA
  go_enter Try.func9, Try.ntmps9
  go_wp2
  refine bodyPost_ret (results_cell_row (fn := Try.f9) Try.results9 _ _ (w.heap.size + 1) 24 #[.int .i64 s, .int .i64 i] (0, 0) _ rfl (heap_alloc2_new _ _ _) Try.underlying24 rfl (by exact info_given14_any)) rfl ?_
  exact ⟨rfl, ((Below.refl _ _).alloc (Nat.le_refl _) _).alloc (by simp) _⟩
theorem built_taken14_any (s i : Int) : Try.prog.built 23 [(0, .int .i64 s), (1, .int .i64 i)] = some #[.int .i64 s, .int .i64 i] := by kernel_rfl
theorem info_taken14_any : (Try.prog.info? 23).map (·.size) = some 2 := by kernel_rfl
theorem rs_taken14_any : rowSize Try.prog 23 = some 2 := by kernel_rfl
set_option maxHeartbeats 1000000 in
theorem taken14_any (w : World) (p : Int × Int) : Calls Try.prog 22 #[infV p] w (RetV w (infV p)) := by
  obtain ⟨s, i⟩ := p
  have hb := built_taken14_any s i
  have rs := rs_taken14_any
  unfold infV infA
  go_enter Try.func22, Try.ntmps22
  go_wp2
  refine bodyPost_ret (results_cell_row (fn := Try.f22) Try.results22 _ _ (w.heap.size + 1) 23 #[.int .i64 s, .int .i64 i] (0, 0) _ rfl (heap_alloc2_new _ _ _) Try.underlying23 rfl (by exact info_taken14_any)) rfl ?_
  exact ⟨rfl, ((Below.refl _ _).alloc (Nat.le_refl _) _).alloc (by simp) _⟩
set_option maxHeartbeats 1000000 in
theorem hasV_any (w : World) (g b : Nat) (me : Int) (l : List (Int × Int)) (k : Int) (h : ViewS w g b me l) : Calls Try.prog 40 #[.pointer (some ⟨g, 0, none⟩), .int .i64 k] w (RetV w (.bool (hasV l k))) := by
  have hl := view_lookOk h k
  obtain ⟨-, c1⟩ := h.cells
  have hB : Hid (∀ o, Below w.heap.size w (w.alloc o)) := hide fun o => (Below.refl _ _).alloc (Nat.le_refl _) _
  generalize hasV l k = R at hl ⊢
  generalize getV l k = p at hl
  obtain ⟨s, i⟩ := p
  unfold infV infA at hl
  clear h
  go_enter Try.func40, Try.ntmps40
  go_wp2
  go_ret
  exact ⟨rfl, hB.out _⟩
set_option maxHeartbeats 1000000 in
theorem getV_any (w : World) (g b : Nat) (me : Int) (l : List (Int × Int)) (k : Int) (h : ViewS w g b me l) : Calls Try.prog 27 #[.pointer (some ⟨g, 0, none⟩), .int .i64 k] w (RetV w (infV (getV l k))) := by
  obtain ⟨W, hW, r1, hz, hb⟩ := alloc_nm w (.cells #[.int .i64 0, .int .i64 0] 24)
  have hv := h.below hb (Nat.le_refl _)
  have hl := view_look hv k
  obtain ⟨-, c1⟩ := hv.cells
  generalize getV l k = p at hl ⊢
  obtain ⟨s, i⟩ := p
  unfold infV infA at hl ⊢
  have hao : allOne #[Value.int .i64 s, Value.int .i64 i] = true := by simp [allOne, Value.oneCell']
  have HB := hide hb
  have HZ := hide hz
  have HW := hide hW
  clear h hv hb hz hW
  go_enter Try.func27, Try.ntmps27
  go_upto_region 1 with (fail)
  change Code.wp _ _ _ _ (w.alloc (.cells #[.int .i64 0, .int .i64 0] 24))
  rw [HW.out]
  go_wp2
  refine bodyPost_ret (results_cell_row (fn := Try.f27) Try.results27 _ _ w.heap.size 24 #[.int .i64 s, .int .i64 i] (0, 0) _ rfl (setRow_heap W _ _ _ _ _ r1) Try.underlying24 rfl (by exact info_inf)) rfl ?_
  exact ⟨rfl, below_setRow HB.out (Nat.le_refl _) _⟩
def newOk (me nodes : Int) : Bool := decide (1 ≤ nodes) && (decide (nodes ≤ 16) && (decide (0 ≤ me) && decide (me < nodes)))
/-- what New hands back. -/
def NewP (w : World) (me nodes : Int) (e : Ending) (w' : World) : Prop :=
  Below w.heap.size w w' ∧ ((newOk me nodes = false ∧ e = .returned (.tuple #[.pointer none, .int .i64 1])) ∨
    (newOk me nodes = true ∧ ∃ g b, e = .returned (.tuple #[.pointer (some ⟨g, 0, none⟩), .int .i64 0]) ∧ w.heap.size ≤ g ∧ w.heap.size ≤ b ∧ ViewS w' g b me (List.replicate nodes.toNat (0, 0))))
theorem built_view0 (me : Int) (b : Nat) : Try.prog.built 75 [(0, .int .i64 me), (1, .map (some b))] = some #[.int .i64 me, .map (some b)] := by kernel_rfl
theorem built_inf0 : Try.prog.built 24 [] = some #[.int .i64 0, .int .i64 0] := by kernel_rfl
set_option maxHeartbeats 4000000 in
theorem newV_any (w : World) (me nodes : Int) : Calls Try.prog 15 #[.int .i64 me, .int .i64 nodes] w (NewP w me nodes) := by
  have hno : Hid (newOk me nodes = false → ∀ w', Below w.heap.size w w' → NewP w me nodes (.returned (.tuple #[.pointer none, .int .i64 1])) w') := hide fun e w' hb => ⟨hb, .inl ⟨e, rfl⟩⟩
  have HE : Hid (newOk me nodes = (decide (1 ≤ nodes) && (decide (nodes ≤ 16) && (decide (0 ≤ me) && decide (me < nodes))))) := hide rfl
  have hyes : Hid (newOk me nodes = true → ∀ w' g b, Below w.heap.size w w' → w.heap.size ≤ g → w.heap.size ≤ b → ViewS w' g b me (List.replicate nodes.toNat (0, 0)) → NewP w me nodes (.returned (.tuple #[.pointer (some ⟨g, 0, none⟩), .int .i64 0])) w') := hide fun e w' g b hb h1 h2 h3 => ⟨hb, .inr ⟨e, g, b, rfl, h1, h2, h3⟩⟩
  generalize newOk me nodes = ok at hno HE hyes
  obtain ⟨q1, h1⟩ : ∃ q, q = decide (1 ≤ nodes) := ⟨_, rfl⟩
  obtain ⟨q2, h2⟩ : ∃ q, q = decide (nodes ≤ 16) := ⟨_, rfl⟩
  obtain ⟨q3, h3⟩ : ∃ q, q = decide (0 ≤ me) := ⟨_, rfl⟩
  obtain ⟨q4, h4⟩ : ∃ q, q = decide (me < nodes) := ⟨_, rfl⟩
  rw [← h1, ← h2, ← h3, ← h4] at HE
  have g1 : decide (nodes < 1) = !q1 := by rw [h1]; by_cases e : nodes < 1 <;> simp [e] <;> omega
  have g2 : decide (16 < nodes) = !q2 := by rw [h2]; by_cases e : 16 < nodes <;> simp [e] <;> omega
  have g3 : decide (me < 0) = !q3 := by rw [h3]; by_cases e : me < 0 <;> simp [e] <;> omega
  have g4 : decide (nodes ≤ me) = !q4 := by rw [h4]; by_cases e : nodes ≤ me <;> simp [e] <;> omega
  have Q := hide (And.intro h1 (And.intro h2 (And.intro h3 h4)))
  clear h1 h2 h3 h4
  have hbv := built_view0 me
  have hbi := built_inf0
  have hmk := @run_makeMap Try.prog 73
  have hr0 : Hid (Below w.heap.size w w) := hide (Below.refl _ _)
  go_enter Try.func15, Try.ntmps15
  cases q1
  · have hR : Hid (ok = false) := hide (by rw [HE.out]; rfl)
    go_wp2
    go_ret2
    exact hno.out hR.out _ hr0.out
  cases q2
  · have hR : Hid (ok = false) := hide (by rw [HE.out]; rfl)
    go_wp2
    go_ret2
    exact hno.out hR.out _ hr0.out
  cases q3
  · have hR : Hid (ok = false) := hide (by rw [HE.out]; rfl)
    go_wp2
    go_ret2
    exact hno.out hR.out _ hr0.out
  cases q4
  · have hR : Hid (ok = false) := hide (by rw [HE.out]; rfl)
    go_wp2
    go_ret2
    exact hno.out hR.out _ hr0.out
  have hR : Hid (ok = true) := hide (by rw [HE.out]; rfl)
  have hn : 1 ≤ nodes ∧ nodes ≤ 16 := ⟨of_decide_eq_true Q.out.1.symm, of_decide_eq_true Q.out.2.1.symm⟩
  obtain ⟨n, rfl⟩ : ∃ n : Nat, nodes = (n : Int) := ⟨nodes.toNat, by omega⟩
  rw [Int.toNat_natCast] at hyes
  have hn16 : n ≤ 16 := by omega
  clear hn HE hno Q
  go_upto_region 4 with (fail)
  clear g1 g2 g3 g4
  obtain ⟨w1, hw1, r1, z1, b1⟩ := alloc_nm w (.map #[] 0)
  rw [hw1]
  obtain ⟨w2, hw2, r2, z2, b2⟩ := alloc_nm w1 (.cells #[.int .i64 me, .map (some w.heap.size)] 75)
  rw [hw2]
  have r1' := (b2.block w.heap.size (by omega)).trans r1
  have HV : Hid (ViewS w2 w1.heap.size w.heap.size me (List.replicate 0 (0, 0)) ∧ Below w.heap.size w w2) := hide ⟨⟨r2, ⟨#[], 0, r1', rfl, Stamps.nil _⟩⟩, b1.trans (b2.mono (by omega))⟩
  have HZ := hide (And.intro z1 z2)
  obtain ⟨g, hg⟩ : ∃ g, g = w1.heap.size := ⟨_, rfl⟩
  obtain ⟨b, hb⟩ : ∃ b, b = w.heap.size := ⟨_, rfl⟩
  have HGB : Hid (w.heap.size ≤ g ∧ w.heap.size ≤ b) := hide ⟨by omega, by omega⟩
  have eg : w.heap.size + 1 = g := by omega
  rw [← hg] at HV
  rw [eg]
  have HV2 : Hid (ViewS w2 g b me (List.replicate 0 (0, 0)) ∧ Below w.heap.size w w2) := by rw [hb]; exact HV
  rw [← hb]
  clear hw1 hw2 r1 r2 r1' z1 z2 b1 b2 HV hg hb hmk hbv eg
  go_wp2
  go_loopw [28] (fun i wr => ∃ j : Nat, j ≤ n ∧ i = .int .i64 (j : Int) ∧ Hid (ViewS wr g b me (List.replicate j (0, 0)) ∧ Below w.heap.size w wr)) (fun i _ => n - (intOf i).toNat)
  case atStart => exact ⟨0, by omega, rfl, HV2⟩
  case round =>
    obtain ⟨j, hj, rfl, hI⟩ := hrel
    by_cases hlt : j < n
    · obtain ⟨-, c1⟩ := hI.out.1.cells
      obtain ⟨ob, hst, hv⟩ := view_push hI.out.1 (0, 0)
      rw [List.length_replicate] at hst
      unfold infV infA at hst
      have HN : Hid (ViewS (wr.putObj b ob) g b me (List.replicate (j + 1) (0, 0)) ∧ Below w.heap.size w (wr.putObj b ob)) := hide ⟨by rw [List.replicate_succ']; exact hv, below_putObj hI.out.2 HGB.out.2 ob⟩
      have hji : (j : Int) < (n : Int) := by omega
      clear hv hI
      go_wp2
      go_roundw
      case rel => exact ⟨j + 1, by omega, by go_num, HN⟩
      case measure => simp [intOf]; omega
    · obtain rfl : j = n := by omega
      go_wp2
      go_ret2
      exact hyes.out hR.out _ _ _ hI.out.2 HGB.out.1 HGB.out.2 hI.out.1
/-- me is said to be gone. -/
def denyL (l : List (Int × Int)) (me inc : Int) : List (Int × Int) := if inc < (getV l me).2 then l else l.set me.toNat (0, min (inc + 1) 1099511627776)
def denyB (l : List (Int × Int)) (me inc : Int) : Bool := if inc < (getV l me).2 then false else decide (inc < 1099511627776)
/-- a view's part is turned, all else as it was. -/
def TurnP (w : World) (g b : Nat) (me : Int) (l' : List (Int × Int)) (v : Value) (e : Ending) (w' : World) : Prop := e = .returned v ∧ ViewS w' g b me l' ∧ w.grownBy w' (some b)
theorem ViewS.drewN {w : World} {g b : Nat} {me : Int} {l : List (Int × Int)} (h : ViewS w g b me l) (n : Nat) : ViewS (w.drewN n) g b me l := ⟨h.row, h.map⟩
theorem ViewS.drew {w : World} {g b : Nat} {me : Int} {l : List (Int × Int)} (h : ViewS w g b me l) : ViewS w.drew g b me l := ⟨h.row, h.map⟩
theorem ViewS.bw {w : World} {g b : Nat} {me : Int} {l : List (Int × Int)} (h : ViewS w g b me l) (p : BW w) : ViewS p.w g b me l := h.below p.below (Nat.le_refl _)
theorem grown_drew (w : World) (r : Option Nat) : w.grownBy w.drew r := ⟨rfl, rfl, rfl, Nat.le_refl _, fun _ _ _ => rfl⟩
theorem getV_set {l : List (Int × Int)} {k : Int} (h : hasV l k = true) (p : Int × Int) : getV (l.set k.toNat p) k = p := by
  obtain ⟨h0, h1⟩ := of_decide_eq_true h
  unfold getV
  rw [if_pos h0, List.getD_eq_getElem?_getD, List.getElem?_set_self (by omega)]; rfl
theorem run_minI {P : Program} (ats : Array TypeId) (t : TypeId) (x y : Int) (w : World) : (Builtin.min_ ats t #[.int .i64 x, .int .i64 y]).run P w = .ok (.int .i64 (min x y)) w := by
  rcases Int.lt_trichotomy x y with h | h | h
  · have h2 : ¬ y < x := by omega
    simp [Builtin.min_, Builtin.min2, h, h2]; omega
  · subst h
    simp [Builtin.min_, Builtin.min2]
  · have h2 : ¬ x < y := by omega
    simp [Builtin.min_, Builtin.min2, h, h2]; omega
theorem field0_inf (w : World) (s i : Int) : (Instr.field 24 (.agg #[.int .i64 s, .int .i64 i]) 0).run Try.prog w = .ok (.int .i64 s) w := by kernel_rfl
theorem field1_inf (w : World) (s i : Int) : (Instr.field 24 (.agg #[.int .i64 s, .int .i64 i]) 1).run Try.prog w = .ok (.int .i64 i) w := by kernel_rfl
theorem quiet_field {P : Program} {dst : Option Tmp} {t ty : TypeId} {x : Operand} {k : Nat} {pos : String} {after : Array Edge} {g : Option (Nat × Bool)} {a : Act} {C : World → Prop} {K : Act → Prop} {v : Value}
    (h : ∀ w, (Instr.field t (a.eval x) k).run P w = .ok v w) (hK : K (a.put dst v)) : Oper.quiet P ⟨dst, .field t x k, ty, pos, after, g⟩ a C K := by
  refine ⟨v, ?_, hK⟩
  intro w _
  unfold Oper.quietAt execOp
  simp only [Sem.run_bind, h w, Result.andThen_ok, Sem.run_pure]
  exact ⟨rfl, rfl⟩
theorem built_inf2 (s i : Int) : Try.prog.built 24 [(0, .int .i64 s), (1, .int .i64 i)] = some #[.int .i64 s, .int .i64 i] := by kernel_rfl
set_option maxHeartbeats 4000000 in
theorem denyV_any (w : World) (g b : Nat) (me : Int) (l : List (Int × Int)) (inc : Int) (h : ViewS w g b me l) (hm : hasV l me = true) (hi0 : 0 ≤ inc) (hi1 : inc ≤ 1099511627776) :
    Calls Try.prog 41 #[.pointer (some ⟨g, 0, none⟩), .int .i64 inc] w (TurnP w g b me (denyL l me inc) (.bool (denyB l me inc))) := by
  have HF : Hid (∀ w' r l', w.grownBy w' (some b) → r = denyB l me inc → l' = denyL l me inc → ViewS w' g b me l' → TurnP w g b me (denyL l me inc) (.bool (denyB l me inc)) (.returned (.bool r)) w') := hide fun w' r l' hg hr hl hv => ⟨by rw [hr], hl ▸ hv, hg⟩
  have HY : Hid (inc < (getV l me).2 → denyL l me inc = l ∧ denyB l me inc = false) := hide fun e => by unfold denyL denyB; rw [if_pos e, if_pos e]; exact ⟨rfl, rfl⟩
  have HN : Hid (¬ inc < (getV l me).2 → denyL l me inc = l.set me.toNat (0, min (inc + 1) 1099511627776) ∧ denyB l me inc = decide (inc < 1099511627776)) := hide fun e => by unfold denyL denyB; rw [if_neg e, if_neg e]; exact ⟨rfl, rfl⟩
  generalize denyL l me inc = L' at HF HY HN ⊢
  generalize denyB l me inc = R at HF HY HN ⊢
  have RL : ∀ p : BW w, (Instr.lookup 73 (.map (some b)) (.int .i64 me) false).run Try.prog p.w = .ok (infV (getV l me)) p.w := fun p => view_look (h.bw p) me
  have R0 : ∀ p : BW w, p.w.cell? ⟨g, 0, none⟩ = some (.int .i64 me) := fun p => (h.bw p).cells.1
  have R1 : ∀ p : BW w, p.w.cell? ⟨g, 1, none⟩ = some (.map (some b)) := fun p => (h.bw p).cells.2
  obtain ⟨⟨s, j⟩, hp⟩ : ∃ p, p = getV l me := ⟨_, rfl⟩
  rw [← hp] at RL HY HN
  unfold infV infA at RL
  have H := hide h
  have HM := hide hm
  obtain ⟨q, hq⟩ : ∃ q, q = decide (inc < j) := ⟨_, rfl⟩
  have g1 := hq.symm
  have HQ := hide hq
  clear h hm hp hq
  go_enter Try.func41, Try.ntmps41
  go_wp2
  first | refine wp_region_belowS w (Below.refl _ _) ?_ | refine wp_region_below w (Below.refl _ _) (by kernel_rfl) (by kernel_rfl) ?_
  repeat
    first
    | (go_big_quiet_want; apply quiet_field; (intro w; first | exact field1_inf _ _ _ | exact field0_inf _ _ _); (try simp only [Act.put, List.setIfInBounds_toArray, List.set_cons_zero, List.set_cons_succ]); go_big_quiet_on)
    | (go_big_quiet_step (fail))
    | (go_big_quiet_want; apply quiet_span; (intro p; go_simp; rfl); (try simp only [Act.put, List.setIfInBounds_toArray, List.set_cons_zero, List.set_cons_succ]); go_big_quiet_on)
  refine wpQuiet_nil ?_
  intro _ hw'
  obtain ⟨pq, hw''⟩ := hw'
  subst hw''
  cases q
  · obtain ⟨e1, e2⟩ := HN.out (by have := of_decide_eq_false HQ.out.symm; omega)
    have HV := hide (H.out.bw pq)
    have HG := hide (grown_ofB pq.below (some b))
    have HE := hide (And.intro e1 e2)
    obtain ⟨c0, c1⟩ := HV.out.cells
    obtain ⟨W, hW⟩ : ∃ W, W = pq.w := ⟨_, rfl⟩
    rw [← hW] at HV HG c0 c1 ⊢
    have HC : Hid (inc + 1 = 1099511627776 ∨ inc + 1 < 1099511627776 ∨ inc = 1099511627776) := hide (by omega)
    have hIn := hi0
    clear hW e1 e2 g1 RL R0 R1 HN HY
    rcases HC.out with h9 | h9 | h9
    · obtain ⟨mn, hmn2⟩ : ∃ mn, mn = min (inc + 1) 1099511627776 := ⟨_, rfl⟩
      rw [← hmn2] at HE
      obtain rfl : mn = 1099511627776 := by rw [hmn2]; omega
      obtain rfl : inc = 1099511627775 := by omega
      have hbi := built_inf2 0 (1099511627776)
      obtain ⟨ob, hst, hv⟩ := view_store HV.out.drew HM.out (0, 1099511627776)
      unfold infV infA at hst
      have HS := hide hv
      have c0' : W.drew.cell? ⟨g, 0, none⟩ = some (.int .i64 me) := c0
      have c1' : W.drew.cell? ⟨g, 1, none⟩ = some (.map (some b)) := c1
      clear hv hmn2
      go_upto_region 3 with (fail)
      go_still_tail 12, (by kernel_rfl)
      have HG2 : Hid (w.grownBy (W.drew.putObj b ob) (some b)) := hide ((World.grownBy.trans HG.out (grown_drew W (some b))).trans (grown_putObj _ b ob))
      go_wp2
      go_ret
      exact HF.out _ _ _ HG2.out HE.out.2.symm HE.out.1.symm HS.out
    · skip
      obtain ⟨mn, hmn2⟩ : ∃ mn, mn = min (inc + 1) 1099511627776 := ⟨_, rfl⟩
      rw [← hmn2] at HE
      obtain rfl : mn = inc + 1 := by rw [hmn2]; omega
      have hbi := built_inf2 0 (inc + 1)
      obtain ⟨ob, hst, hv⟩ := view_store HV.out.drew HM.out (0, inc + 1)
      unfold infV infA at hst
      have HS := hide hv
      have c0' : W.drew.cell? ⟨g, 0, none⟩ = some (.int .i64 me) := c0
      have c1' : W.drew.cell? ⟨g, 1, none⟩ = some (.map (some b)) := c1
      have hwr : IntKind.i64.wrap (inc + 1) = inc + 1 := by rw [IntKind.wrap_i64]; omega
      have hwr2 : wrap64 (inc + 1) = inc + 1 := Go.IntWalk.wrap64_in _ (by omega)
      clear hv hmn2
      go_upto_region 3 with (fail)
      go_still_tail 12, (by kernel_rfl)
      have HG2 : Hid (w.grownBy (W.drew.putObj b ob) (some b)) := hide ((World.grownBy.trans HG.out (grown_drew W (some b))).trans (grown_putObj _ b ob))
      go_wp2
      go_ret
      exact HF.out _ _ _ HG2.out HE.out.2.symm HE.out.1.symm HS.out
    · obtain ⟨mn, hmn2⟩ : ∃ mn, mn = min (inc + 1) 1099511627776 := ⟨_, rfl⟩
      rw [← hmn2] at HE
      obtain rfl : mn = 1099511627776 := by rw [hmn2]; omega
      obtain rfl : inc = 1099511627776 := by omega
      have hbi := built_inf2 0 (1099511627776)
      obtain ⟨ob, hst, hv⟩ := view_store HV.out.drew HM.out (0, 1099511627776)
      unfold infV infA at hst
      have HS := hide hv
      have c0' : W.drew.cell? ⟨g, 0, none⟩ = some (.int .i64 me) := c0
      have c1' : W.drew.cell? ⟨g, 1, none⟩ = some (.map (some b)) := c1
      clear hv hmn2
      go_upto_region 3 with (fail)
      go_still_tail 12, (by kernel_rfl)
      have HG2 : Hid (w.grownBy (W.drew.putObj b ob) (some b)) := hide ((World.grownBy.trans HG.out (grown_drew W (some b))).trans (grown_putObj _ b ob))
      go_wp2
      go_ret
      exact HF.out _ _ _ HG2.out HE.out.2.symm HE.out.1.symm HS.out
  · obtain ⟨e1, e2⟩ := HY.out (of_decide_eq_true HQ.out.symm)
    have HV := hide (H.out.bw pq)
    have HG := hide (grown_ofB pq.below (some b))
    have HE := hide (And.intro e1 e2)
    clear e1 e2
    go_wp2
    go_ret
    exact HF.out _ _ _ HG.out HE.out.2.symm HE.out.1.symm HV.out
end Go.Proofs.Ytpbgbfmpjgkllaa
