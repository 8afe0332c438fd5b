/-
  The walks of the questions about one address or two: how many bytes, are they one, can it be, which stands ahead.
-/
import Derived.Test.YtbkipfmnbfjkcaaFirst
import Derived.Test.YtbkipfmnbfjkcaaSpan
import Derived.WalkSmall
namespace Go.Proofs.Ytbkipfmnbfjkcaa
open Go.RowKit
attribute [local go_sem ↓] exec_span
attribute [local go_sem] spanQ_ptr spanC_some heap_of_drew rs_arr rs_ad
set_option maxRecDepth 100000
set_option linter.unusedVariables false

def sizeA (v : Bool) : Nat := if v then 16 else 4

theorem sizeof_u8 : ∀ w, (sizeOf 5).run Try.prog w = .ok 1 w := fun _ => by kernel_rfl

theorem eql_arr (w : World) (l l' : List UInt8) (hl : l.length = 16) (hl' : l'.length = 16) : (binOp .eql 59 (.agg (l.map byteV).toArray) (.agg (l'.map byteV).toArray)).run Try.prog w = .ok (.bool (l == l')) w :=
  run_eql_bytes w 59 5 16 Try.underlying59 Try.underlying5 sizeof_u8 l l' hl hl'

set_option maxHeartbeats 1000000 in
theorem adsame_any (w : World) (X Y : Array Value) (v v' : Bool) (l l' : List UInt8) (h : AdV X v l) (h' : AdV Y v' l') :
    Calls Try.prog 80 #[.agg X, .agg Y] w fun e w' => e = .returned (.bool (v == v' && l == l')) ∧ Below w.heap.size w w' := by
  go_enter Try.func80, Try.ntmps80
  have hx0 := h.c0
  have hy0 := h'.c0
  have hxs := h.size
  have hys := h'.size
  have hx1 := h.x1
  have hy1 := h'.x1
  have heq := fun W => eql_arr W l l' h.len h'.len
  obtain ⟨W, hW, h1, h2, hz, hb⟩ := two_blocks w (.cells X 61) (.cells Y 61)
  have k1 := h.kind h1
  have k2 := h'.kind h2
  clear hz
  have hB := hide hb
  clear hb
  cases v <;> cases v'
  all_goals
    go_wp2
    go_ret
    exact ⟨by simp, hB.out⟩

set_option maxHeartbeats 1000000 in
theorem right_any (w : World) (X : Array Value) (v : Bool) (l : List UInt8) (h : AdV X v l) :
    Calls Try.prog 62 #[.agg X] w fun e w' => e = .returned (.bool (rightL v l)) ∧ Below w.heap.size w w' := by
  go_enter Try.func62, Try.ntmps62
  have hx0 := h.c0
  have hxs := h.size
  have hx1 := h.x1
  obtain ⟨W, hW, h1, hz, hb⟩ := one_block w (.cells X 61)
  have k1 := h.kind h1
  have heq := fun W => eql_arr W l (maskL l 32) h.len (by rw [length_maskL, h.len])
  have hfst := hide (fun W => first_any W l 32 h.len (by omega))
  have hB := hide hb
  have hlt : Hid (w.heap.size < W.heap.size) := hide (by omega)
  cases v
  · go_wp2
    clear hW hb hz
    go_region_law (first
      | (go_simp; go_at_call 69; refine (hfst.out _).mono ?_; rintro e w2 ⟨rfl, hb2⟩; have p0 : w2.heap[w.heap.size]? = some (.cells X 61 (0, 0)) := (hb2.block w.heap.size (by exact hlt.out)).trans h1))
    all_goals
      go_wp2
      go_ret
      exact ⟨rfl, hB.out.trans ((below_undrew' hb2).mono (by have := hlt.out; simp; omega))⟩
  · go_wp2
    go_quiet (fail)
    go_wp2
    go_ret
    exact ⟨by simp [rightL], below_drewN hB.out _⟩

/-- behind some bytes from the fifth on that are 0. -/
theorem refright_step {l : List UInt8} {j : Nat} (hj : j < l.length) (h : ∀ k (hk : k < l.length), 4 ≤ k → k < j → l[k] = 0) (h0 : l[j] = 0) : ∀ k (hk : k < l.length), 4 ≤ k → k < j + 1 → l[k] = 0 := fun k hk h4 hkj => by
  rcases Nat.lt_or_eq_of_le (Nat.le_of_lt_succ hkj) with h1 | h1
  · exact h k hk h4 h1
  · subst h1; exact h0

theorem rightL_four {l : List UInt8} (h : l.length = 16) (h0 : ∀ k (hk : k < l.length), 4 ≤ k → l[k] = 0) : rightL false l = true := by
  have := (right_four l h).2 h0
  unfold rightL
  rw [this]
  simp
theorem rightL_not {l : List UInt8} (h : l.length = 16) {j : Nat} (hj : j < l.length) (h4 : 4 ≤ j) (h0 : l[j] ≠ 0) : rightL false l = false := by
  rw [Bool.eq_false_iff]
  intro e
  have e' : maskL l 32 = l := by
    unfold rightL at e
    rw [Bool.false_or, beq_iff_eq] at e
    exact e.symm
  exact h0 ((right_four l h).1 e' j hj h4)

end Go.Proofs.Ytbkipfmnbfjkcaa
