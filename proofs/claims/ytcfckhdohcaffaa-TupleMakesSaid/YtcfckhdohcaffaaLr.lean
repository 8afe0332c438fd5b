/-
  The walks of the document's word and Right, of a segment within a packet.
-/
import Derived.Test.YtcfckhdohcaffaaMkn
import Derived.Test.YtcfckhdohcaffaaRowS
namespace Go.Proofs.Ytcfckhdohcaffaa
open Go.RowKit
attribute [local go_sem ↓] exec_span exec_put exec_build heap_alloc_new heap_old
attribute [local go_sem] spanQ_ptr spanC_some heap_of_drew heap_of_drewN rs_arr rs_ad rs_ip rs_rip rs_seg rs_rseg putAt_ptr putOk_ptr oldOk_some World.setRow_alloc_new
set_option maxRecDepth 100000
set_option linter.unusedVariables false
set_option linter.unusedSimpArgs false

def wordL (n : Int) : Bool := decide (0 ≤ n) && decide (n ≤ 65535)
theorem word5_any (n : Int) (w : World) : Calls Try.prog 55 #[.int .i64 n] w fun e w' => e = .returned (.bool (wordL n)) ∧ w = w' := by
  by_cases h1 : 0 ≤ n
  · by_cases h2 : n ≤ 65535
    · go_enter Try.func55, Try.ntmps55
      go_wp2
      go_ret
      exact ⟨by simp [wordL, h1, h2], rfl⟩
    · go_enter Try.func55, Try.ntmps55
      go_wp2
      go_ret
      exact ⟨by simp [wordL, h1, h2], rfl⟩
  · go_enter Try.func55, Try.ntmps55
    go_wp2
    go_ret
    exact ⟨by simp [wordL]; omega, rfl⟩

def rightR5 (h : Ip) (s : Sg) : Bool := rightS s && !(s.ns && h.v)
theorem rightR5_eq (h : Ip) (s : Sg) : rightR5 h s = (wordL s.a && (wordL s.b && (if s.p = 6 then decide (0 ≤ s.f) && (decide (s.f ≤ 255) && (wordL s.wn && (wordL s.u && (decide (s.no ≤ 40) && (s.no % 4 == 0 && !s.ns))))) else s.q == 0 && (s.k == 0 && (s.f == 0 && (s.wn == 0 && (s.u == 0 && (s.no == 0 && !(s.ns && h.v))))))))) := by
  unfold rightR5 rightS upL wordL
  by_cases h6 : s.p = 6
  · rw [if_pos h6, if_pos h6]
    cases s.ns <;> simp [Bool.and_assoc]
  · rw [if_neg h6, if_neg h6]
    have e : ∀ z : Int, (decide (0 ≤ z) && decide (z ≤ 0)) = (z == 0) := fun z => by rw [Bool.eq_iff_iff]; simp; omega
    simp [e, Bool.and_assoc]

set_option maxHeartbeats 8000000 in
theorem refright5_any (w : World) (X Y : Array Value) (h : Ip) (s : Sg) (x : IpV X h) (y : SgV Y s) :
    Calls Try.prog 32 #[.agg X, .agg Y] w fun e w' => e = .returned (.bool (rightR5 h s)) ∧ Below w.heap.size w w' := by
  have hxs := x.size
  have hys := y.size
  obtain ⟨W, hW⟩ : ∃ W, (w.alloc (.cells X 27)).alloc (.cells Y 30) = W := ⟨_, rfl⟩
  obtain ⟨r1, r2, hz, hbW⟩ := two_packs w X _ _ _ W hW
  obtain ⟨R, hR⟩ : ∃ R, R = rightR5 h s := ⟨_, rfl⟩
  rw [← hR]
  rw [rightR5_eq] at hR
  have hi := (x.cells r1).c0
  obtain ⟨c0, c1, c2, c3, c4, c5, c6, c7, c8, c9, c10⟩ := y.cells r2
  have KA := hide (word5_any s.a)
  have KB := hide (word5_any s.b)
  have KW := hide (word5_any s.wn)
  have KU := hide (word5_any s.u)
  obtain ⟨ra, hra⟩ : ∃ r, r = wordL s.a := ⟨_, rfl⟩
  obtain ⟨rb, hrb⟩ : ∃ r, r = wordL s.b := ⟨_, rfl⟩
  obtain ⟨rw_, hrw⟩ : ∃ r, r = wordL s.wn := ⟨_, rfl⟩
  obtain ⟨ru, hru⟩ : ∃ r, r = wordL s.u := ⟨_, rfl⟩
  rw [← hra, ← hrb, ← hrw, ← hru] at hR
  rw [← hra] at KA
  rw [← hrb] at KB
  rw [← hrw] at KW
  rw [← hru] at KU
  clear hra hrb hrw hru x y
  obtain ⟨p, hp⟩ : ∃ v, v = s.p := ⟨_, rfl⟩
  obtain ⟨q, hq⟩ : ∃ v, v = s.q := ⟨_, rfl⟩
  obtain ⟨k, hk⟩ : ∃ v, v = s.k := ⟨_, rfl⟩
  obtain ⟨f, hf⟩ : ∃ v, v = s.f := ⟨_, rfl⟩
  obtain ⟨wn, hwn⟩ : ∃ v, v = s.wn := ⟨_, rfl⟩
  obtain ⟨u, hu⟩ : ∃ v, v = s.u := ⟨_, rfl⟩
  obtain ⟨no, hno⟩ : ∃ v, v = s.no := ⟨_, rfl⟩
  obtain ⟨ns, hns⟩ : ∃ v, v = s.ns := ⟨_, rfl⟩
  obtain ⟨v, hv⟩ : ∃ v, v = h.v := ⟨_, rfl⟩
  rw [← hp, ← hq, ← hk, ← hf, ← hwn, ← hu, ← hno, ← hns, ← hv] at hR
  rw [← hp] at c0
  rw [← hq] at c3
  rw [← hk] at c4
  rw [← hf] at c5
  rw [← hwn] at c6 KW
  rw [← hu] at c7 KU
  rw [← hns] at c8
  rw [← hno] at c9
  rw [← hv] at hi
  have HB := hide hbW
  clear hp hq hk hf hwn hu hno hns hv hbW hz
  have fin : ∀ b : Bool, b = R → Ending.returned (.bool b) = Ending.returned (.bool R) := fun b e => by rw [e]
  have key : (ra = false ∧ R = false) ∨ (ra = true ∧ rb = false ∧ R = false)
    ∨ (ra = true ∧ rb = true ∧ p = 6 ∧ ¬ 0 ≤ f ∧ R = false) ∨ (ra = true ∧ rb = true ∧ p = 6 ∧ 0 ≤ f ∧ ¬ f ≤ 255 ∧ R = false) ∨ (ra = true ∧ rb = true ∧ p = 6 ∧ 0 ≤ f ∧ f ≤ 255 ∧ rw_ = false ∧ R = false) ∨ (ra = true ∧ rb = true ∧ p = 6 ∧ 0 ≤ f ∧ f ≤ 255 ∧ rw_ = true ∧ ru = false ∧ R = false)
    ∨ (ra = true ∧ rb = true ∧ p = 6 ∧ 0 ≤ f ∧ f ≤ 255 ∧ rw_ = true ∧ ru = true ∧ ¬ (no : Int) ≤ 40 ∧ R = false) ∨ (ra = true ∧ rb = true ∧ p = 6 ∧ 0 ≤ f ∧ f ≤ 255 ∧ rw_ = true ∧ ru = true ∧ (no : Int) ≤ 40 ∧ ((no : Int) % 4 == 0) = false ∧ R = false) ∨ (ra = true ∧ rb = true ∧ p = 6 ∧ 0 ≤ f ∧ f ≤ 255 ∧ rw_ = true ∧ ru = true ∧ (no : Int) ≤ 40 ∧ ((no : Int) % 4 == 0) = true ∧ R = !ns)
    ∨ (ra = true ∧ rb = true ∧ (p == 6) = false ∧ ((q : Int) == 0) = false ∧ R = false) ∨ (ra = true ∧ rb = true ∧ (p == 6) = false ∧ q = 0 ∧ ((k : Int) == 0) = false ∧ R = false) ∨ (ra = true ∧ rb = true ∧ (p == 6) = false ∧ q = 0 ∧ k = 0 ∧ (f == 0) = false ∧ R = false) ∨ (ra = true ∧ rb = true ∧ (p == 6) = false ∧ q = 0 ∧ k = 0 ∧ f = 0 ∧ (wn == 0) = false ∧ R = false) ∨ (ra = true ∧ rb = true ∧ (p == 6) = false ∧ q = 0 ∧ k = 0 ∧ f = 0 ∧ wn = 0 ∧ (u == 0) = false ∧ R = false)
    ∨ (ra = true ∧ rb = true ∧ (p == 6) = false ∧ q = 0 ∧ k = 0 ∧ f = 0 ∧ wn = 0 ∧ u = 0 ∧ ((no : Int) == 0) = false ∧ R = false) ∨ (ra = true ∧ rb = true ∧ (p == 6) = false ∧ q = 0 ∧ k = 0 ∧ f = 0 ∧ wn = 0 ∧ u = 0 ∧ no = 0 ∧ ns = false ∧ R = true) ∨ (ra = true ∧ rb = true ∧ (p == 6) = false ∧ q = 0 ∧ k = 0 ∧ f = 0 ∧ wn = 0 ∧ u = 0 ∧ no = 0 ∧ ns = true ∧ R = !v) := by
    clear KA KB KW KU c0 c1 c2 c3 c4 c5 c6 c7 c8 c9 c10 hi fin HB r1 r2
    have n4 : ((no : Int) % 4 == 0) = (no % 4 == 0) := by rw [Bool.eq_iff_iff]; simp; omega
    have n0 : ((no : Int) == 0) = (no == 0) := by rw [Bool.eq_iff_iff]; simp
    have nq : ((q : Int) == 0) = (q == 0) := by rw [Bool.eq_iff_iff]; simp
    have nk : ((k : Int) == 0) = (k == 0) := by rw [Bool.eq_iff_iff]; simp
    rw [n4, n0, nq, nk, hR]
    by_cases h6 : p = 6
    · subst h6
      by_cases f0 : 0 ≤ f <;> by_cases f1 : f ≤ 255 <;> by_cases h40 : no ≤ 40 <;> by_cases hm : no % 4 = 0 <;> cases ra <;> cases rb <;> cases rw_ <;> cases ru <;> simp [h40, hm, f0, f1] <;> omega
    · by_cases hq0 : q = 0 <;> by_cases hk0 : k = 0 <;> by_cases hf0 : f = 0 <;> by_cases hw0 : wn = 0 <;> by_cases hu0 : u = 0 <;> by_cases hn0 : no = 0 <;> cases ns <;> cases ra <;> cases rb <;> simp [h6, hq0, hk0, hn0, hf0, hw0, hu0]
  clear hR
  rcases key with ⟨rfl, rfl⟩ | ⟨rfl, rfl, rfl⟩ | ⟨rfl, rfl, rfl, q1, rfl⟩ | ⟨rfl, rfl, rfl, q1, q2, rfl⟩ | ⟨rfl, rfl, rfl, q1, q2, rfl, rfl⟩ | ⟨rfl, rfl, rfl, q1, q2, rfl, rfl, rfl⟩ | ⟨rfl, rfl, rfl, q1, q2, rfl, rfl, q3, rfl⟩ | ⟨rfl, rfl, rfl, q1, q2, rfl, rfl, q3, q4, rfl⟩ | ⟨rfl, rfl, rfl, q1, q2, rfl, rfl, q3, q4, rfl⟩
    | ⟨rfl, rfl, q0, q1, rfl⟩ | ⟨rfl, rfl, q0, rfl, q1, rfl⟩ | ⟨rfl, rfl, q0, rfl, rfl, q1, rfl⟩ | ⟨rfl, rfl, q0, rfl, rfl, rfl, q1, rfl⟩ | ⟨rfl, rfl, q0, rfl, rfl, rfl, rfl, q1, rfl⟩ | ⟨rfl, rfl, q0, rfl, rfl, rfl, rfl, rfl, q1, rfl⟩ | ⟨rfl, rfl, q0, rfl, rfl, rfl, rfl, rfl, rfl, rfl, rfl⟩ | ⟨rfl, rfl, q0, rfl, rfl, rfl, rfl, rfl, rfl, rfl, rfl⟩
  all_goals (
    go_enter Try.func32, Try.ntmps32
    go_wp2_with (first
      | (go_at_call 55; (with_reducible refine (KA.out _).mono ?_); rintro e w1 ⟨rfl, rfl⟩)
      | (go_at_call 55; (with_reducible refine (KB.out _).mono ?_); rintro e w1 ⟨rfl, rfl⟩)
      | (go_at_call 55; (with_reducible refine (KW.out _).mono ?_); rintro e w1 ⟨rfl, rfl⟩)
      | (go_at_call 55; (with_reducible refine (KU.out _).mono ?_); rintro e w1 ⟨rfl, rfl⟩)
      | fail)
    go_ret
    exact ⟨ret_b (by first | rfl | (simp; done)), HB.out⟩)
end Go.Proofs.Ytcfckhdohcaffaa
