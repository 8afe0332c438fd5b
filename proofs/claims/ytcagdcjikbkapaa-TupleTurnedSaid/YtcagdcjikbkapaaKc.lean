/-
  The walks of segment.upTo, right, size, sumAt.
-/
import Derived.Test.YtcagdcjikbkapaaKb
namespace Go.Proofs.Ytcagdcjikbkapaa
open Go.RowKit
attribute [local go_sem ↓] exec_span exec_put exec_build heap_alloc_new heap_old
attribute [local go_sem] spanQ_ptr spanC_some heap_of_drew heap_of_drewN rs_arr rs_ad rs_ip rs_rip putAt_ptr putOk_ptr oldOk_some World.setRow_alloc_new
set_option maxRecDepth 100000
set_option linter.unusedVariables false
set_option linter.unusedSimpArgs false

theorem rs_seg : rowSize Try.prog 31 = some 11 := by kernel_rfl
attribute [local go_sem] rs_seg
/-- are all numbers from 0 to most? -/
def upL (most : Int) (l : List Int) : Bool := l.all fun n => decide (0 ≤ n) && decide (n ≤ most)
theorem upL_bad {most : Int} {l : List Int} {j : Nat} (h : j < l.length) (hb : l[j] < 0 ∨ most < l[j]) : upL most l = false := by
  unfold upL
  rw [List.all_eq_false]
  exact ⟨l[j], List.getElem_mem h, by simp; omega⟩
theorem upL_good {most : Int} {l : List Int} (h : ∀ j (hj : j < l.length), 0 ≤ l[j] ∧ l[j] ≤ most) : upL most l = true := by
  unfold upL
  rw [List.all_eq_true]
  intro x hx
  obtain ⟨j, hj, rfl⟩ := List.getElem_of_mem hx
  simp [h j hj]

set_option maxHeartbeats 1000000 in
theorem upTo_any (w : World) (most : Int) (A : Option Addr) (c : Nat) (l : List Int) (ha : IntsAt w w.heap.size A .i64 l) (hl : l.length ≤ 16) :
    Calls Try.prog 50 #[.int .i64 most, .slice A l.length c] w fun e w' => e = .returned (.bool (upL most l)) ∧ w = w' := by
  obtain ⟨R, hR⟩ : ∃ R, R = upL most l := ⟨_, rfl⟩
  rw [← hR]
  have HR := hide hR
  have HA := hide ha
  have HL := hide hl
  clear hR ha hl
  go_enter Try.func50, Try.ntmps50
  go_wp2
  go_loopw [9] (fun i wr => ∃ (j : Nat), j ≤ l.length ∧ i = .int .i64 (j : Int) ∧ wr = w ∧ Hid (∀ k (hk : k < l.length), k < j → 0 ≤ l[k] ∧ l[k] ≤ most))
    (fun i _ => l.length - (intOf i).toNat)
  case atStart => exact ⟨0, by omega, rfl, rfl, hide (fun k hk h => by omega)⟩
  case round =>
    obtain ⟨j, hj, rfl, rfl, hg⟩ := hrel
    by_cases hlt : j < l.length
    · have hjb : j < 16 := by have := HL.out; omega
      obtain ⟨bb, off, rfl, hbb, hc⟩ := HA.out (by omega)
      have hc0 := hc j hlt
      obtain ⟨n, hn⟩ : ∃ n, n = l[j] := ⟨_, rfl⟩
      rw [← hn] at hc0
      have HN := hide hn
      clear hc hbb hn
      by_cases h0 : n < 0
      · have hf : Hid (R = false) := hide (by rw [HR.out]; exact upL_bad hlt (.inl (by rw [← HN.out]; exact h0)))
        go_wp2
        go_ret
        exact ⟨ret_b hf.out.symm, rfl⟩
      · by_cases h1 : most < n
        · have hf : Hid (R = false) := hide (by rw [HR.out]; exact upL_bad hlt (.inr (by rw [← HN.out]; exact h1)))
          go_wp2
          go_ret
          exact ⟨ret_b hf.out.symm, rfl⟩
        · have hg2 : Hid (∀ k (hk : k < l.length), k < j + 1 → 0 ≤ l[k] ∧ l[k] ≤ most) := hide (fun k hk h => by
            by_cases e : k = j
            · subst e; rw [← HN.out]; omega
            · exact hg.out k hk (by omega))
          clear hg
          go_wp2
          go_roundw
          case rel => exact ⟨j + 1, by omega, by go_num, by first | rfl | trivial, hg2⟩
          case measure => simp [intOf]; omega
    · have hf : Hid (R = true) := hide (by rw [HR.out]; exact upL_good fun k hk => hg.out k hk (by omega))
      have hjl : j = l.length := by omega
      subst hjl
      clear hlt hg
      go_wp2
      go_ret
      exact ⟨ret_b hf.out.symm, rfl⟩

set_option maxHeartbeats 1000000 in
theorem sumAt_any (w : World) (p : Int) : Calls Try.prog 32 #[.int .i64 p] w fun e w' => e = .returned (.int .i64 (if p = 6 then 16 else 6)) ∧ w = w' := by
  by_cases hp : p = 6
  · subst hp
    go_enter Try.func32, Try.ntmps32
    go_wp2
    go_ret
    exact ⟨rfl, rfl⟩
  · have e : (p == 6) = false := by simpa using hp
    rw [if_neg hp]
    clear hp
    go_enter Try.func32, Try.ntmps32
    go_wp2
    go_ret
    exact ⟨rfl, rfl⟩

set_option maxHeartbeats 1000000 in
theorem sizeS_any (w : World) (X : Array Value) (s : Sg) (x : SgV X s) (hn : s.no ≤ 140737488355328) (hd : s.nd ≤ 140737488355328) :
    Calls Try.prog 29 #[.agg X] w fun e w' => e = .returned (.int .i64 (if s.p = 6 then 20 + (s.no : Int) + (s.nd : Int) else 8 + (s.nd : Int))) ∧ Below w.heap.size w w' := by
  have hxs := x.size
  obtain ⟨W, hW, h1, hz, hb⟩ := one_block w (.cells X 31)
  obtain ⟨c0, -, -, -, -, -, -, -, -, c9, c10⟩ := x.cells h1
  have HB := hide hb
  clear hz hb h1 x hxs
  have w1 : IntKind.i64.wrap (20 + (s.no : Int)) = 20 + (s.no : Int) := IntWalk.i64_in _ (by omega)
  have w2 : IntKind.i64.wrap (20 + (s.no : Int) + (s.nd : Int)) = 20 + (s.no : Int) + (s.nd : Int) := IntWalk.i64_in _ (by omega)
  have w3 : IntKind.i64.wrap (8 + (s.nd : Int)) = 8 + (s.nd : Int) := IntWalk.i64_in _ (by omega)
  obtain ⟨p, hp⟩ : ∃ p, p = s.p := ⟨_, rfl⟩
  rw [← hp] at c0 ⊢
  clear hp
  by_cases h6 : p = 6
  · subst h6
    go_enter Try.func29, Try.ntmps29
    go_wp2
    go_ret
    exact ⟨rfl, HB.out⟩
  · have e : (p == 6) = false := by simpa using h6
    rw [if_neg h6]
    clear h6
    go_enter Try.func29, Try.ntmps29
    go_wp2
    go_ret
    exact ⟨rfl, HB.out⟩

/-- can it be, within a packet of four? -/
def rightS (s : Sg) : Bool :=
  upL 65535 [s.a, s.b] && (if s.p = 6 then upL 255 [s.f] && upL 65535 [s.wn, s.u] && decide (s.no ≤ 40) && s.no % 4 == 0 && !s.ns
    else s.q == 0 && s.k == 0 && upL 0 [s.f, s.wn, s.u] && s.no == 0)

theorem upLit_any (W1 : World) (most : Int) (l : List Int) (n : Nat) (cs : Array Value) (hcs : cs = (l.map fun z => Value.int .i64 z).toArray) (hn : n = l.length) (hl : l.length ≤ 16) :
    Calls Try.prog 50 #[.int .i64 most, .slice (some ⟨W1.heap.size, 0, none⟩) n n] (W1.alloc (.cells cs 3)) fun e w' => e = .returned (.bool (upL most l)) ∧ Below W1.heap.size W1 w' := by
  subst hn
  have h := upTo_any (W1.alloc (.cells cs 3)) most (some ⟨W1.heap.size, 0, none⟩) l.length l (by
    have := IntsAt.lit W1 .i64 l cs 3 hcs
    rwa [show (W1.alloc (.cells cs 3)).heap.size = W1.heap.size + 1 by simp]) hl
  exact h.mono fun e w' ⟨h1, h2⟩ => ⟨h1, by rw [← h2]; exact (Below.refl _ _).alloc (Nat.le_refl _) _⟩

set_option maxHeartbeats 8000000 in
theorem rightS_any (w : World) (X : Array Value) (s : Sg) (x : SgV X s) (hn : s.no ≤ 140737488355328) :
    Calls Try.prog 28 #[.agg X] w fun e w' => e = .returned (.bool (rightS s)) ∧ Below w.heap.size w w' := by
  have hxs := x.size
  obtain ⟨W, hW, h1, hz, hb⟩ := one_block w (.cells X 31)
  have U1 := upLit_any W 65535 [s.a, s.b] 2 #[.int .i64 s.a, .int .i64 s.b] rfl rfl (by simp)
  have ea : (⟨W.heap.size, 0, none⟩ : Addr) = ⟨w.heap.size + 1, 0, none⟩ := by rw [hz]
  rw [ea] at U1
  have U1 := hide U1
  have U2 := hide (fun W1 => upLit_any W1 255 [s.f] 1 #[.int .i64 s.f] rfl rfl (by simp))
  have U3 := hide (fun W1 => upLit_any W1 65535 [s.wn, s.u] 2 #[.int .i64 s.wn, .int .i64 s.u] rfl rfl (by simp))
  have U4 := hide (fun W1 => upLit_any W1 0 [s.f, s.wn, s.u] 3 #[.int .i64 s.f, .int .i64 s.wn, .int .i64 s.u] rfl rfl (by simp))
  obtain ⟨r1, hr1⟩ : ∃ r, r = upL 65535 [s.a, s.b] := ⟨_, rfl⟩
  obtain ⟨r2, hr2⟩ : ∃ r, r = upL 255 [s.f] := ⟨_, rfl⟩
  obtain ⟨r3, hr3⟩ : ∃ r, r = upL 65535 [s.wn, s.u] := ⟨_, rfl⟩
  obtain ⟨r4, hr4⟩ : ∃ r, r = upL 0 [s.f, s.wn, s.u] := ⟨_, rfl⟩
  obtain ⟨R, hR⟩ : ∃ R, R = rightS s := ⟨_, rfl⟩
  rw [← hr1] at U1
  rw [← hr2] at U2
  rw [← hr3] at U3
  rw [← hr4] at U4
  rw [← hR]
  obtain ⟨p, hp⟩ : ∃ v, v = s.p := ⟨_, rfl⟩
  obtain ⟨q, hq⟩ : ∃ v, v = s.q := ⟨_, rfl⟩
  obtain ⟨k, hk⟩ : ∃ v, v = s.k := ⟨_, rfl⟩
  obtain ⟨no, hno⟩ : ∃ v, v = s.no := ⟨_, rfl⟩
  obtain ⟨ns, hns⟩ : ∃ v, v = s.ns := ⟨_, rfl⟩
  have HR : R = (r1 && (if p = 6 then r2 && r3 && decide (no ≤ 40) && no % 4 == 0 && !ns else q == 0 && k == 0 && r4 && no == 0)) := by
    rw [hR, hr1, hr2, hr3, hr4, hp, hq, hk, hno, hns]; rfl
  have HC : Hid (∀ w', Below W.heap.size W w' → w'.cell? ⟨w.heap.size, 0, none⟩ = some (.int .i64 p) ∧ w'.cell? ⟨w.heap.size, 1, none⟩ = some (.int .i64 s.a) ∧ w'.cell? ⟨w.heap.size, 2, none⟩ = some (.int .i64 s.b) ∧ w'.cell? ⟨w.heap.size, 3, none⟩ = some (.int .u32 (q : Int)) ∧ w'.cell? ⟨w.heap.size, 4, none⟩ = some (.int .u32 (k : Int)) ∧ w'.cell? ⟨w.heap.size, 5, none⟩ = some (.int .i64 s.f) ∧ w'.cell? ⟨w.heap.size, 6, none⟩ = some (.int .i64 s.wn) ∧ w'.cell? ⟨w.heap.size, 7, none⟩ = some (.int .i64 s.u) ∧ w'.cell? ⟨w.heap.size, 8, none⟩ = some (.bool ns) ∧ w'.cell? ⟨w.heap.size, 9, none⟩ = some (.slice s.ao no s.co)) := by
    rw [hp, hq, hk, hno, hns]
    exact hide fun w' hb => by
      have c := x.cells (row_kept hb (by omega) h1)
      exact ⟨c.c0, c.c1, c.c2, c.c3, c.c4, c.c5, c.c6, c.c7, c.c8, c.c9⟩
  rw [← hno] at hn
  obtain ⟨c0, c1, c2, c3, c4, c5, c6, c7, c8, c9⟩ := HC.out W (Below.refl _ _)
  have hB := hide hb
  have hz := hide hz
  clear hr1 hr2 hr3 hr4 hp hq hk hno hns hb x hR h1 ea
  have key : (r1 = false ∧ R = false) ∨ (r1 = true ∧ p = 6 ∧ r2 = false ∧ R = false) ∨ (r1 = true ∧ p = 6 ∧ r2 = true ∧ r3 = false ∧ R = false) ∨ (r1 = true ∧ p = 6 ∧ r2 = true ∧ r3 = true ∧ ¬ (no : Int) ≤ 40 ∧ R = false)
    ∨ (r1 = true ∧ p = 6 ∧ r2 = true ∧ r3 = true ∧ (no : Int) ≤ 40 ∧ ((no : Int) % 4 == 0) = false ∧ R = false) ∨ (r1 = true ∧ p = 6 ∧ r2 = true ∧ r3 = true ∧ (no : Int) ≤ 40 ∧ ((no : Int) % 4 == 0) = true ∧ (!ns) = R)
    ∨ (r1 = true ∧ (p == 6) = false ∧ ((q : Int) == 0) = false ∧ R = false) ∨ (r1 = true ∧ (p == 6) = false ∧ q = 0 ∧ ((k : Int) == 0) = false ∧ R = false) ∨ (r1 = true ∧ (p == 6) = false ∧ q = 0 ∧ k = 0 ∧ r4 = false ∧ R = false)
    ∨ (r1 = true ∧ (p == 6) = false ∧ q = 0 ∧ k = 0 ∧ r4 = true ∧ ((no : Int) == 0) = R) := by
    rw [HR]
    clear HR U1 U2 U3 U4 HC c0 c1 c2 c3 c4 c5 c6 c7 c8 c9
    have n4 : ((no : Int) % 4 == 0) = (no % 4 == 0) := by
      rw [Bool.eq_iff_iff]; simp; omega
    have n0 : ((no : Int) == 0) = (no == 0) := by rw [Bool.eq_iff_iff]; simp
    have nq : ((q : Int) == 0) = (q == 0) := by rw [Bool.eq_iff_iff]; simp
    have nk : ((k : Int) == 0) = (k == 0) := by rw [Bool.eq_iff_iff]; simp
    rw [n4, n0, nq, nk]
    by_cases h6 : p = 6
    · subst h6
      by_cases h40 : no ≤ 40 <;> by_cases hm : no % 4 = 0 <;> cases r1 <;> cases r2 <;> cases r3 <;> cases ns <;> simp [h40, hm] <;> omega
    · by_cases hq0 : q = 0 <;> by_cases hk0 : k = 0 <;> by_cases hn0 : no = 0 <;> cases r1 <;> cases r4 <;> simp [h6, hq0, hk0, hn0]
  clear HR
  rcases key with ⟨rfl, rfl⟩ | ⟨rfl, rfl, rfl, rfl⟩ | ⟨rfl, rfl, rfl, rfl, rfl⟩ | ⟨rfl, rfl, rfl, rfl, q1, rfl⟩ | ⟨rfl, rfl, rfl, rfl, q1, q2, rfl⟩ | ⟨rfl, rfl, rfl, rfl, q1, q2, rfl⟩ | ⟨rfl, q0, q1, rfl⟩ | ⟨rfl, q0, rfl, q1, rfl⟩ | ⟨rfl, q0, rfl, rfl, rfl, rfl⟩ | ⟨rfl, q0, rfl, rfl, rfl, q1⟩
  all_goals (
    go_enter Try.func28, Try.ntmps28
    go_wp2_with (first
      | (go_at_call 50; (with_reducible refine U1.out.mono ?_); rintro e w1 ⟨rfl, b1⟩; have BB : Hid (Below W.heap.size W w1) := hide b1; obtain ⟨d0, d1, d2, d3, d4, d5, d6, d7, d8, d9⟩ := HC.out w1 BB.out; clear b1 c0 c1 c2 c3 c4 c5 c6 c7 c8 c9)
      | (go_at_call 50; (with_reducible refine (U2.out _).mono ?_); rintro e w2 ⟨rfl, b2⟩; have BB : Hid (Below W.heap.size W w2) := hide (BB.out.trans (b2.mono BB.out.size)); obtain ⟨e0, e1, e2, e3, e4, e5, e6, e7, e8, e9⟩ := HC.out w2 BB.out; clear b2 d0 d1 d2 d3 d4 d5 d6 d7 d8 d9)
      | (go_at_call 50; (with_reducible refine (U3.out _).mono ?_); rintro e w3 ⟨rfl, b3⟩; have BB : Hid (Below W.heap.size W w3) := hide (BB.out.trans (b3.mono BB.out.size)); obtain ⟨f0, f1, f2, f3, f4, f5, f6, f7, f8, f9⟩ := HC.out w3 BB.out; clear b3 e0 e1 e2 e3 e4 e5 e6 e7 e8 e9)
      | (go_at_call 50; (with_reducible refine (U4.out _).mono ?_); rintro e w2 ⟨rfl, b2⟩; have BB : Hid (Below W.heap.size W w2) := hide (BB.out.trans (b2.mono BB.out.size)); obtain ⟨e0, e1, e2, e3, e4, e5, e6, e7, e8, e9⟩ := HC.out w2 BB.out; clear b2 d0 d1 d2 d3 d4 d5 d6 d7 d8 d9)
      | fail)
    go_ret
    exact ⟨ret_b (by first | rfl | assumption | (simp [*]; done)), hB.out.trans (BB.out.mono (by have := hz.out; omega))⟩)
end Go.Proofs.Ytcagdcjikbkapaa
