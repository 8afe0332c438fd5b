/-
  The walks of what goes first of two claims, and of what stands ahead in the rank.
-/
import Derived.Test.YtlpihjbnfdfbaaaOb
import Derived.Test.YtlpihjbnfdfbaaaSp
namespace Go.Proofs.Ytlpihjbnfdfbaaa
open Go.RowKit
set_option linter.unusedVariables false
set_option maxRecDepth 100000

/-- a replica's number for what is to be owned. -/
def kN (h : BitVec 64) (n : Nat) : Nat := (pairB 3#64 (BitVec.ofNat 64 n) h).toNat
/-- a claim as a value. -/
def clV (a k : Nat) : Value := .agg #[.int .i64 (a : Int), .int .u64 (k : Int)]
theorem u64_nat {a : Nat} (h : a < 18446744073709551616) : ((BitVec.ofNat 64 a).toNat : Int) = (a : Int) := by
  rw [BitVec.toNat_ofNat, Nat.mod_eq_of_lt h]

theorem kN_lt (h : BitVec 64) (a : Nat) : kN h a < 18446744073709551616 := (pairB 3#64 (BitVec.ofNat 64 a) h).isLt
theorem refpairk_any (w : World) (a : Nat) (h : BitVec 64) (ha : a < 16) :
    Calls Try.prog 66 #[.int .u64 3, .int .u64 (a : Int), .int .u64 (h.toNat : Int)] w fun e w' => e = .returned (.int .u64 (kN h a : Int)) ∧ w = w' := by
  have := refpair_any 3#64 (BitVec.ofNat 64 a) h w
  unfold uV at this
  rw [u64_nat (show a < 18446744073709551616 by omega)] at this
  exact this
theorem pairk_any (w : World) (a : Nat) (h : BitVec 64) (ha : a < 16) :
    Calls Try.prog 64 #[.int .u64 3, .int .u64 (a : Int), .int .u64 (h.toNat : Int)] w fun e w' => e = .returned (.int .u64 (kN h a : Int)) ∧ w = w' := by
  have := pair_any 3#64 (BitVec.ofNat 64 a) h w
  unfold uV at this
  rw [u64_nat (show a < 18446744073709551616 by omega)] at this
  exact this

def BefPost (w : World) (r : Bool) (e : Ending) (w' : World) : Prop := e = .returned (.bool r) ∧ w = w'

set_option maxHeartbeats 1000000 in
theorem before_any (w : World) (a b : Nat) (h : BitVec 64) (ha : a < 16) (hb : b < 16) :
    Calls Try.prog 44 #[.int .i64 (a : Int), .int .i64 (b : Int), .int .u64 (h.toNat : Int)] w (BefPost w (bef (kN h) a b)) := by
  have K1 := hide (fun W => refpairk_any W a h ha)
  have K2 := hide (fun W => refpairk_any W b h hb)
  have hbe : bef (kN h) a b = decide (kN h b < kN h a ∨ (kN h a = kN h b ∧ a < b)) := rfl
  have hx1 := kN_lt h a
  have hy1 := kN_lt h b
  obtain ⟨x, hx⟩ : ∃ x, x = kN h a := ⟨_, rfl⟩
  obtain ⟨y, hy⟩ : ∃ y, y = kN h b := ⟨_, rfl⟩
  obtain ⟨N, hN⟩ : ∃ N, N = h.toNat := ⟨_, rfl⟩
  rw [← hx] at hbe hx1 K1
  rw [← hy] at hbe hy1 K2
  rw [hbe, ← hN]
  rw [← hN] at K1 K2
  have wa : IntKind.u64.wrap (a : Int) = (a : Int) := Go.IntWalk.u64_in _ (by omega)
  have wb : IntKind.u64.wrap (b : Int) = (b : Int) := Go.IntWalk.u64_in _ (by omega)
  clear hbe hx hy hN hx1 hy1
  go_enter Try.func44, Try.ntmps44
  go_wp2_with fail
  refine (K1.out _).mono ?_
  rintro e w' ⟨rfl, rfl⟩
  go_wp2_with fail
  refine (K2.out _).mono ?_
  rintro e w' ⟨rfl, rfl⟩
  by_cases c1 : y < x
  · have hF : Hid (BefPost w (decide (y < x ∨ (x = y ∧ a < b))) (.returned (.bool true)) w) := hide ⟨by rw [decide_eq_true (by omega)], rfl⟩
    have c1' : (x : Int) > (y : Int) := by omega
    go_wp2
    go_ret
    exact hF.out
  · by_cases c2 : x = y
    · subst c2
      by_cases c3 : a < b
      · have hF : Hid (BefPost w (decide (x < x ∨ (x = x ∧ a < b))) (.returned (.bool true)) w) := hide ⟨by rw [decide_eq_true (by omega)], rfl⟩
        go_wp2
        go_ret
        exact hF.out
      · have hF : Hid (BefPost w (decide (x < x ∨ (x = x ∧ a < b))) (.returned (.bool false)) w) := hide ⟨by rw [decide_eq_false (by omega)], rfl⟩
        go_wp2
        go_ret
        exact hF.out
    · have hF : Hid (BefPost w (decide (y < x ∨ (x = y ∧ a < b))) (.returned (.bool false)) w) := hide ⟨by rw [decide_eq_false (by omega)], rfl⟩
      have c2' : ((x : Int) == (y : Int)) = false := by simp; omega
      go_wp2
      go_ret
      exact hF.out

theorem claims_below (w : World) (X Y Z : Array Value) (t : TypeId) : Below w.heap.size w (((w.alloc (.cells X t)).alloc (.cells Y t)).alloc (.cells Z t)) :=
  (((Below.refl _ _).alloc (Nat.le_refl _) _).alloc (by simp) _).alloc (by simp; omega) _
theorem block3 (w : World) (A B : Obj) (Z : Array Value) (t : TypeId) : (((w.alloc A).alloc B).alloc (.cells Z t)).heap[w.heap.size + 1 + 1]? = some (.cells Z t (0, 0)) := by
  have := heap_alloc_new ((w.alloc A).alloc B) (.cells Z t)
  simpa using this
def FirstPost (w : World) (v : Value) (e : Ending) (w' : World) : Prop := e = .returned v ∧ Below w.heap.size w w'
theorem firstV (a b x y : Nat) (c : Prop) [Decidable c] : (if c then clV a x else clV b y) = .agg (if c then #[.int .i64 (a : Int), .int .u64 (x : Int)] else #[.int .i64 (b : Int), .int .u64 (y : Int)]) := by split <;> rfl
theorem info_claim : (Try.prog.info? 78).map (·.size) = some 2 := by kernel_rfl

set_option maxHeartbeats 1000000 in
theorem ofirst_any (w : World) (a b x y : Nat) :
    Calls Try.prog 65 #[clV a x, clV b y] w (FirstPost w (if y < x ∨ (x = y ∧ a < b) then clV a x else clV b y)) := by
  have hf1 : Hid (∀ (h : y < x ∨ (x = y ∧ a < b)) w', Below w.heap.size w w' → FirstPost w (if y < x ∨ (x = y ∧ a < b) then clV a x else clV b y) (.returned (.agg #[.int .i64 (a : Int), .int .u64 (x : Int)])) w') := hide fun h w' hb => ⟨by rw [if_pos h]; rfl, hb⟩
  have hf2 : Hid (∀ (h : ¬ (y < x ∨ (x = y ∧ a < b))) w', Below w.heap.size w w' → FirstPost w (if y < x ∨ (x = y ∧ a < b) then clV a x else clV b y) (.returned (.agg #[.int .i64 (b : Int), .int .u64 (y : Int)])) w') := hide fun h w' hb => ⟨by rw [if_neg h]; rfl, hb⟩
  generalize (if y < x ∨ (x = y ∧ a < b) then clV a x else clV b y) = V at hf1 hf2 ⊢
  unfold clV
  by_cases c1 : y < x
  · have c1' : (x : Int) > (y : Int) := by omega
    have HF := hide (hf1.out (.inl c1))
    clear hf1 hf2
    go_enter Try.func65, Try.ntmps65
    go_wp2
    refine bodyPost_ret (results_cell_row (fn := Try.f65) Try.results65 _ _ (w.heap.size + 1 + 1) 78 _ (0, 0) _ rfl (block3 _ _ _ _ _) Try.underlying78 rfl (by exact info_claim)) rfl (HF.out _ (claims_below _ _ _ _ _))
  · by_cases c2 : x = y
    · subst c2
      by_cases c3 : a < b
      · have HF := hide (hf1.out (.inr ⟨rfl, c3⟩))
        clear hf1 hf2
        go_enter Try.func65, Try.ntmps65
        go_wp2
        refine bodyPost_ret (results_cell_row (fn := Try.f65) Try.results65 _ _ (w.heap.size + 1 + 1) 78 _ (0, 0) _ rfl (block3 _ _ _ _ _) Try.underlying78 rfl (by exact info_claim)) rfl (HF.out _ (claims_below _ _ _ _ _))
      · have HF := hide (hf2.out (by omega))
        clear hf1 hf2
        go_enter Try.func65, Try.ntmps65
        go_wp2
        refine bodyPost_ret (results_cell_row (fn := Try.f65) Try.results65 _ _ (w.heap.size + 1 + 1) 78 _ (0, 0) _ rfl (block3 _ _ _ _ _) Try.underlying78 rfl (by exact info_claim)) rfl (HF.out _ (claims_below _ _ _ _ _))
    · have HF := hide (hf2.out (by omega))
      have c2' : ((x : Int) == (y : Int)) = false := by simp; omega
      clear hf1 hf2
      go_enter Try.func65, Try.ntmps65
      go_wp2
      refine bodyPost_ret (results_cell_row (fn := Try.f65) Try.results65 _ _ (w.heap.size + 1 + 1) 78 _ (0, 0) _ rfl (block3 _ _ _ _ _) Try.underlying78 rfl (by exact info_claim)) rfl (HF.out _ (claims_below _ _ _ _ _))

section
attribute [local go_sem ↓] exec_span exec_put exec_build heap_alloc_new heap_old
theorem rs_claim : rowSize Try.prog 78 = some 2 := by kernel_rfl
attribute [local go_sem] spanQ_ptr spanC_some heap_of_drew heap_of_drewN rs_claim putAt_ptr putOk_ptr oldOk_some
theorem block2 (w : World) (X Y : Array Value) (t : TypeId) : ∃ W, (w.alloc (.cells X t)).alloc (.cells Y t) = W ∧ W.heap[w.heap.size]? = some (.cells X t (0, 0)) ∧ W.heap[w.heap.size + 1]? = some (.cells Y t (0, 0)) ∧ W.heap.size = w.heap.size + 2 ∧ Below w.heap.size w W := by
  refine ⟨_, rfl, ?_, ?_, by simp, ((Below.refl _ _).alloc (Nat.le_refl _) _).alloc (by simp) _⟩
  · rw [heap_alloc_old _ _ (by simp)]; exact heap_alloc_new _ _
  · have := heap_alloc_new (w.alloc (.cells X t)) (.cells Y t)
    simpa using this

theorem two_kept {w W W2 : World} {B : Nat} {X Y : Array Value} {t : TypeId} (hb : Below B W W2) (hB : w.heap.size + 2 ≤ B) (h1 : W.heap[w.heap.size]? = some (.cells X t (0, 0))) (h2 : W.heap[w.heap.size + 1]? = some (.cells Y t (0, 0))) :
    W2.heap[w.heap.size]? = some (.cells X t (0, 0)) ∧ W2.heap[w.heap.size + 1]? = some (.cells Y t (0, 0)) := ⟨(hb.block _ (by omega)).trans h1, (hb.block _ (by omega)).trans h2⟩
set_option maxHeartbeats 4000000 in
theorem behind_any (w : World) (a b x y : Nat) :
    Calls Try.prog 42 #[clV a x, clV b y] w (FirstPost w (.bool (decide (x < y ∨ (y = x ∧ b < a))))) := by
  have CF := hide (fun W => ofirst_any W a b x y)
  have hxs : (#[Value.int IntKind.i64 ↑a, Value.int IntKind.u64 ↑x] : Array Value).extract 0 2 = #[Value.int IntKind.i64 ↑a, Value.int IntKind.u64 ↑x] := rfl
  have hys : (#[Value.int IntKind.i64 ↑b, Value.int IntKind.u64 ↑y] : Array Value).extract 0 2 = #[Value.int IntKind.i64 ↑b, Value.int IntKind.u64 ↑y] := rfl
  obtain ⟨W, hW, h1, h2, hz, hb⟩ := block2 w #[Value.int IntKind.i64 ↑a, Value.int IntKind.u64 ↑x] #[Value.int IntKind.i64 ↑b, Value.int IntKind.u64 ↑y] 78
  have HB := hide hb
  have HZ := hide hz
  have HZ2 : Hid (w.heap.size + 2 ≤ W.heap.size) := hide (by omega)
  clear hb hz
  by_cases c1 : y < x ∨ (x = y ∧ a < b)
  · have hd : decide (x < y ∨ (y = x ∧ b < a)) = false := decide_eq_false (by omega)
    rw [hd]
    rw [if_pos c1] at CF
    clear c1 hd
    unfold clV at CF ⊢
    go_enter Try.func42, Try.ntmps42
    go_wp2
    go_region_held3 (fun w' => w'.heap[w.heap.size]? = some (.cells #[Value.int IntKind.i64 ↑a, Value.int IntKind.u64 ↑x] 78 (0, 0)) ∧ w'.heap[w.heap.size + 1]? = some (.cells #[Value.int IntKind.i64 ↑b, Value.int IntKind.u64 ↑y] 78 (0, 0)))
      (first | exact ⟨h1, h2⟩ | assumption)
      (first | (go_at_call 65; (with_reducible refine (CF.out _).mono ?_); rintro e w1 ⟨rfl, hb1⟩; have B1 := hide (below_undrew' hb1); have H12 := two_kept B1.out HZ2.out h1 h2))
    clear H12 hb1
    go_wp2
    go_ret
    exact ⟨rfl, HB.out.trans (B1.out.mono (show w.heap.size ≤ W.heap.size by have := HZ2.out; omega))⟩
  · rw [if_neg c1] at CF
    by_cases c2 : x < y
    · have hd : decide (x < y ∨ (y = x ∧ b < a)) = true := decide_eq_true (by omega)
      have hxy : ((y : Int) == (x : Int)) = false := by simp; omega
      rw [hd]
      clear c1 hd
      unfold clV at CF ⊢
      go_enter Try.func42, Try.ntmps42
      go_wp2
      go_region_held3 (fun w' => w'.heap[w.heap.size]? = some (.cells #[Value.int IntKind.i64 ↑a, Value.int IntKind.u64 ↑x] 78 (0, 0)) ∧ w'.heap[w.heap.size + 1]? = some (.cells #[Value.int IntKind.i64 ↑b, Value.int IntKind.u64 ↑y] 78 (0, 0)))
        (first | exact ⟨h1, h2⟩ | assumption)
        (first | (go_at_call 65; (with_reducible refine (CF.out _).mono ?_); rintro e w1 ⟨rfl, hb1⟩; have B1 := hide (below_undrew' hb1); have H12 := two_kept B1.out HZ2.out h1 h2))
      clear H12 hb1
      go_wp2
      go_ret
      exact ⟨rfl, HB.out.trans (B1.out.mono (show w.heap.size ≤ W.heap.size by have := HZ2.out; omega))⟩
    · by_cases c3 : b < a
      · have hd : decide (x < y ∨ (y = x ∧ b < a)) = true := decide_eq_true (by omega)
        have hab : ((b : Int) == (a : Int)) = false := by simp; omega
        rw [hd]
        clear c1 hd
        unfold clV at CF ⊢
        go_enter Try.func42, Try.ntmps42
        go_wp2
        go_region_held3 (fun w' => w'.heap[w.heap.size]? = some (.cells #[Value.int IntKind.i64 ↑a, Value.int IntKind.u64 ↑x] 78 (0, 0)) ∧ w'.heap[w.heap.size + 1]? = some (.cells #[Value.int IntKind.i64 ↑b, Value.int IntKind.u64 ↑y] 78 (0, 0)))
          (first | exact ⟨h1, h2⟩ | assumption)
          (first | (go_at_call 65; (with_reducible refine (CF.out _).mono ?_); rintro e w1 ⟨rfl, hb1⟩; have B1 := hide (below_undrew' hb1); have H12 := two_kept B1.out HZ2.out h1 h2))
        clear H12 hb1
        go_wp2
        go_ret
        exact ⟨rfl, HB.out.trans (B1.out.mono (show w.heap.size ≤ W.heap.size by have := HZ2.out; omega))⟩
      · have hd : decide (x < y ∨ (y = x ∧ b < a)) = false := decide_eq_false (by omega)
        have hab : ((b : Int) == (a : Int)) = true := by simp; omega
        have hxy : ((y : Int) == (x : Int)) = true := by simp; omega
        rw [hd]
        clear c1 hd
        unfold clV at CF ⊢
        go_enter Try.func42, Try.ntmps42
        go_wp2
        go_region_held3 (fun w' => w'.heap[w.heap.size]? = some (.cells #[Value.int IntKind.i64 ↑a, Value.int IntKind.u64 ↑x] 78 (0, 0)) ∧ w'.heap[w.heap.size + 1]? = some (.cells #[Value.int IntKind.i64 ↑b, Value.int IntKind.u64 ↑y] 78 (0, 0)))
          (first | exact ⟨h1, h2⟩ | assumption)
          (first | (go_at_call 65; (with_reducible refine (CF.out _).mono ?_); rintro e w1 ⟨rfl, hb1⟩; have B1 := hide (below_undrew' hb1); have H12 := two_kept B1.out HZ2.out h1 h2))
        clear H12 hb1
        go_wp2
        go_ret
        exact ⟨rfl, HB.out.trans (B1.out.mono (show w.heap.size ≤ W.heap.size by have := HZ2.out; omega))⟩
end
end Go.Proofs.Ytlpihjbnfdfbaaa
