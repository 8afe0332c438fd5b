/-
  The walks of the questions about one address or two: how many bytes, are they one, can it be, which stands ahead.
-/
import Derived.Test.YtmbddengmheeeaaFirst
import Derived.Test.YtmbddengmheeeaaSpan
import Derived.WalkSmall
namespace Go.Proofs.Ytmbddengmheeeaa
open Go.RowKit
attribute [local go_sem ↓] exec_span
attribute [local go_sem] spanQ_ptr spanC_some heap_of_drew rs_arr rs_ad
set_option maxRecDepth 100000
set_option linter.unusedVariables false

def sizeA (v : Bool) : Nat := if v then 16 else 4

set_option maxHeartbeats 400000 in
theorem refsize_any (w : World) (X : Array Value) (v : Bool) (l : List UInt8) (h : AdV X v l) :
    Calls Try.prog 95 #[.agg X] w fun e w' => e = .returned (.int .i64 (sizeA v : Nat)) ∧ Below w.heap.size w w' := by
  have h0 := h.c0
  cases v
  all_goals
    go_enter Try.func95, Try.ntmps95
    go_wp2
    go_ret
    exact ⟨rfl, (Below.refl _ _).alloc (Nat.le_refl _) _⟩

theorem sizeof_u8 : ∀ w, (sizeOf 5).run Try.prog w = .ok 1 w := fun _ => by kernel_rfl

theorem eql_arr (w : World) (l l' : List UInt8) (hl : l.length = 16) (hl' : l'.length = 16) : (binOp .eql 22 (.agg (l.map byteV).toArray) (.agg (l'.map byteV).toArray)).run Try.prog w = .ok (.bool (l == l')) w :=
  run_eql_bytes w 22 5 16 Try.underlying22 Try.underlying5 sizeof_u8 l l' hl hl'

set_option maxHeartbeats 1000000 in
theorem right_any (w : World) (X : Array Value) (v : Bool) (l : List UInt8) (h : AdV X v l) :
    Calls Try.prog 73 #[.agg X] w fun e w' => e = .returned (.bool (rightL v l)) ∧ Below w.heap.size w w' := by
  go_enter Try.func73, Try.ntmps73
  have hx0 := h.c0
  have hxs := h.size
  have hx1 := h.x1
  obtain ⟨W, hW, h1, hz, hb⟩ := one_block w (.cells X 24)
  have k1 := h.kind h1
  have heq := fun W => eql_arr W l (maskL l 32) h.len (by rw [length_maskL, h.len])
  have hfst := hide (fun W => first_any W l 32 h.len (by omega))
  have hB := hide hb
  have hlt : Hid (w.heap.size < W.heap.size) := hide (by omega)
  cases v
  · go_wp2
    clear hW hb hz
    go_region_law (first
      | (go_simp; go_at_call 92; refine (hfst.out _).mono ?_; rintro e w2 ⟨rfl, hb2⟩; have p0 : w2.heap[w.heap.size]? = some (.cells X 24 (0, 0)) := (hb2.block w.heap.size (by exact hlt.out)).trans h1))
    all_goals
      go_wp2
      go_ret
      exact ⟨rfl, hB.out.trans ((below_undrew' hb2).mono (by have := hlt.out; simp; omega))⟩
  · go_wp2
    go_quiet (fail)
    go_wp2
    go_ret
    exact ⟨by simp [rightL], below_drewN hB.out _⟩

/-- behind some bytes from the fifth on that are 0. -/
theorem refright_step {l : List UInt8} {j : Nat} (hj : j < l.length) (h : ∀ k (hk : k < l.length), 4 ≤ k → k < j → l[k] = 0) (h0 : l[j] = 0) : ∀ k (hk : k < l.length), 4 ≤ k → k < j + 1 → l[k] = 0 := fun k hk h4 hkj => by
  rcases Nat.lt_or_eq_of_le (Nat.le_of_lt_succ hkj) with h1 | h1
  · exact h k hk h4 h1
  · subst h1; exact h0

theorem rightL_four {l : List UInt8} (h : l.length = 16) (h0 : ∀ k (hk : k < l.length), 4 ≤ k → l[k] = 0) : rightL false l = true := by
  have := (right_four l h).2 h0
  unfold rightL
  rw [this]
  simp
theorem rightL_not {l : List UInt8} (h : l.length = 16) {j : Nat} (hj : j < l.length) (h4 : 4 ≤ j) (h0 : l[j] ≠ 0) : rightL false l = false := by
  rw [Bool.eq_false_iff]
  intro e
  have e' : maskL l 32 = l := by
    unfold rightL at e
    rw [Bool.false_or, beq_iff_eq] at e
    exact e.symm
  exact h0 ((right_four l h).1 e' j hj h4)

set_option maxHeartbeats 1000000 in
theorem refright_any (w : World) (X : Array Value) (v : Bool) (l : List UInt8) (h : AdV X v l) :
    Calls Try.prog 81 #[.agg X] w fun e w' => e = .returned (.bool (rightL v l)) ∧ Below w.heap.size w w' := by
  go_enter Try.func81, Try.ntmps81
  have hx0 := h.c0
  have hxs := h.size
  have hx1 := h.x0
  obtain ⟨W, hW, h1, hz, hb⟩ := one_block w (.cells X 24)
  have hsz := hide (refsize_any W X v l h)
  have hB := hide hb
  have hlt : Hid (w.heap.size < W.heap.size) := hide (by omega)
  clear hz hb
  go_wp2_with (go_at_call 95; refine hsz.out.mono ?_; rintro e w2 ⟨rfl, hb2⟩)
  have h2 : w2.heap[w.heap.size]? = some (.cells X 24 (0, 0)) := (hb2.block w.heap.size hlt.out).trans h1
  have hcell : ∀ j (hj : j < l.length), w2.cell? ⟨w.heap.size, 1 + j, none⟩ = some (.int .u8 (l[j].toNat : Int)) := fun j hj => by rw [cell_of_row w2 _ _ _ _ _ h2]; exact h.at j hj
  have HC := hide hcell
  have HB := hide (hB.out.trans (hb2.mono (Nat.le_of_lt hlt.out)))
  have hl := h.len
  clear hsz hcell hW h1 hb2 h2 hB
  cases v
  · go_loop [3] (fun i => ∃ j : Nat, 4 ≤ j ∧ j ≤ 16 ∧ i = .int .i64 (j : Int) ∧ Hid (∀ k (hk : k < l.length), 4 ≤ k → k < j → l[k] = 0)) (fun i => 16 - (intOf i).toNat)
    case atStart => exact ⟨4, by omega, by omega, rfl, hide (fun k hk h4 h0 => by omega)⟩
    case round =>
      obtain ⟨j, h4, hj, rfl, hall⟩ := hrel
      by_cases hlt2 : j < 16
      · have hjl : j < l.length := by omega
        obtain ⟨x, hx⟩ : ∃ x, x = l[j] := ⟨_, rfl⟩
        have hc := HC.out j hjl
        rw [← hx] at hc
        have hj0 : (0 : Int) ≤ (j : Int) := by omega
        have hj1 : (j : Int) < 16 := by omega
        have HX := hide hx
        clear hx
        by_cases hx0 : x = 0
        · subst hx0
          have hst := hide (refright_step hjl hall.out HX.out.symm)
          clear hall
          go_wp2
          go_round
          case rel => exact ⟨j + 1, by omega, by omega, by go_num, hst⟩
          case measure => simp [intOf]; omega
        · have hxi : ((x.toNat : Int) != 0) = true := by
            simp
            intro e
            exact hx0 (UInt8.toNat.inj (by simpa using e))
          have hres := hide (rightL_not hl hjl h4 (by rw [← HX.out]; exact hx0))
          go_wp2
          go_ret
          exact ⟨by rw [hres.out]; rfl, HB.out⟩
      · obtain rfl : j = 16 := by omega
        have hres := hide (rightL_four hl (fun k hk h4 => hall.out k hk h4 (by omega)))
        clear hall
        go_wp2
        go_ret
        exact ⟨by rw [hres.out]; rfl, HB.out⟩
  · go_loop [3] (fun i => i = .int .i64 16) (fun i => 0)
    case atStart => rfl
    case round =>
      obtain rfl := hrel
      go_wp2
      go_ret
      exact ⟨by simp [rightL], HB.out⟩
end Go.Proofs.Ytmbddengmheeeaa
