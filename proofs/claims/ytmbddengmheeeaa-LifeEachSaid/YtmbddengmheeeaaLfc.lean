/-
  The walks of life's small functions: votes joined, held against one another, copied.
-/
import Derived.Test.YtmbddengmheeeaaLfb
import Derived.StillTailTactics
namespace Go.Proofs.Ytmbddengmheeeaa
open Go.RowKit
set_option maxRecDepth 100000
set_option linter.unusedVariables false
set_option linter.unusedSimpArgs false
attribute [local go_sem ↓] exec_span exec_put exec_build heap_alloc_new heap_old
attribute [local go_sem] spanQ_ptr spanC_some heap_of_drew heap_of_drewN rs_vote putAt_ptr putOk_ptr oldOk_some built_vote0

def vjoin (a b : Int × Bool) : Int × Bool := if vahead a b = true then b else a
theorem three_new (w : World) (X Y Z : Array Value) (t : TypeId) : ∃ W, ((w.alloc (.cells X t)).alloc (.cells Y t)).alloc (.cells Z t) = W ∧ W.heap[w.heap.size]? = some (.cells X t (0, 0)) ∧ W.heap[w.heap.size + 1]? = some (.cells Y t (0, 0)) ∧ W.heap[w.heap.size + 1 + 1]? = some (.cells Z t (0, 0)) ∧ W.heap.size = w.heap.size + 3 ∧ Below w.heap.size w W := by
  refine ⟨_, rfl, ?_, ?_, ?_, by simp, ((((Below.refl _ _).alloc (Nat.le_refl _) _).alloc (by simp) _).alloc (by simp; omega) _)⟩
  · rw [heap_alloc_old _ _ (by simp; omega), heap_alloc_old _ _ (by simp)]; exact heap_alloc_new _ _
  · rw [heap_alloc_old _ _ (by simp)]
    have := heap_alloc_new (w.alloc (.cells X t)) (.cells Y t)
    simpa using this
  · have := heap_alloc_new ((w.alloc (.cells X t)).alloc (.cells Y t)) (.cells Z t)
    simpa using this
set_option maxHeartbeats 2000000 in
theorem notAheadV_any (w : World) (a b : Int × Bool) : Calls Try.prog 79 #[voV a, voV b, .func (.func 80) #[voV a] #[]] w (ValP w (voV (vjoin a b))) := by
  have KA := hide (fun W => vahead_any W a b)
  have he : vjoin a b = if vahead a b = true then b else a := rfl
  generalize vahead a b = r at KA he
  generalize vjoin a b = j at he ⊢
  obtain ⟨s, o⟩ := a
  obtain ⟨s', o'⟩ := b
  unfold voV at KA ⊢
  obtain ⟨W, hW, r1, r2, r3, hz, hb⟩ := three_new w #[.int .i64 s, .bool o] #[.int .i64 s', .bool o'] #[.int .i64 0, .bool false] 46
  have HB := hide hb
  have hx1 : (#[Value.int IntKind.i64 s, Value.bool o] : Array Value).extract 0 2 = #[Value.int IntKind.i64 s, Value.bool o] := rfl
  have hx2 : (#[Value.int IntKind.i64 s', Value.bool o'] : Array Value).extract 0 2 = #[Value.int IntKind.i64 s', Value.bool o'] := rfl
  have ho1 : allOne #[Value.int IntKind.i64 s, Value.bool o] = true := by simp [allOne, Value.oneCell']
  have ho2 : allOne #[Value.int IntKind.i64 s', Value.bool o'] = true := by simp [allOne, Value.oneCell']
  have HK := hide (fun W1 (b : Below W.heap.size W W1) => And.intro ((b.block w.heap.size (by omega)).trans r1) (And.intro ((b.block (w.heap.size + 1) (by omega)).trans r2) ((b.block (w.heap.size + 1 + 1) (by omega)).trans r3)))
  have HZ := hide hz
  clear hb hz
  cases r
  · rw [if_neg (by simp)] at he
    subst he
    go_enter Try.func79, Try.ntmps79
    go_wp2_with fail
    refine (KA.out _).mono ?_
    rintro e w1 ⟨rfl, b1⟩
    have B1 : Hid (Below w.heap.size w w1) := hide (HB.out.trans (b1.mono (by have := HZ.out; omega)))
    obtain ⟨s1, s2, s3⟩ := HK.out w1 b1
    clear b1 r1 r2 r3
    go_wp2
    refine bodyPost_ret (results_cell_row (fn := Try.f79) Try.results79 _ _ (w.heap.size + 1 + 1) 46 #[.int .i64 s, .bool o] (0, 0) _ rfl (setRow_heap w1 _ _ _ _ _ s3) Try.underlying46 rfl (by exact info_vote2)) rfl ⟨rfl, below_setRow B1.out (by omega) _⟩
  · rw [if_pos rfl] at he
    subst he
    go_enter Try.func79, Try.ntmps79
    go_wp2_with fail
    refine (KA.out _).mono ?_
    rintro e w1 ⟨rfl, b1⟩
    have B1 : Hid (Below w.heap.size w w1) := hide (HB.out.trans (b1.mono (by have := HZ.out; omega)))
    obtain ⟨s1, s2, s3⟩ := HK.out w1 b1
    clear b1 r1 r2 r3
    go_wp2
    refine bodyPost_ret (results_cell_row (fn := Try.f79) Try.results79 _ _ (w.heap.size + 1 + 1) 46 #[.int .i64 s', .bool o'] (0, 0) _ rfl (setRow_heap w1 _ _ _ _ _ s3) Try.underlying46 rfl (by exact info_vote2)) rfl ⟨rfl, below_setRow B1.out (by omega) _⟩
set_option maxHeartbeats 2000000 in
theorem equalV_any (w : World) (B1 B2 : Nat) (A1 A2 : Option Addr) (c1 c2 : Nat) (l m : List (Int × Bool)) (hb1 : VoS w B1 A1 l) (hb2 : VoS w B2 A2 m) (hl : l.length ≤ 4611686018427387904) (hm : m.length ≤ 4611686018427387904) :
    Calls Try.prog 51 #[.slice A1 l.length c1, .slice A2 m.length c2] w (BoolP w (decide (l = m))) := by
  have hF : Hid (∀ w' r, Below w.heap.size w w' → r = decide (l = m) → BoolP w (decide (l = m)) (.returned (.bool r)) w') := hide fun w' r hb hr => ⟨by rw [hr], hb⟩
  have hd : Hid (l = m → decide (l = m) = true) := hide fun h => decide_eq_true h
  have hd2 : Hid (l ≠ m → decide (l = m) = false) := hide fun h => decide_eq_false h
  generalize decide (l = m) = R at hF hd hd2 ⊢
  obtain ⟨n, hn⟩ : ∃ n, n = l.length := ⟨_, rfl⟩
  obtain ⟨n2, hn2⟩ : ∃ n2, n2 = m.length := ⟨_, rfl⟩
  have HN := hide hn
  have HN2 := hide hn2
  have H1 := hide hb1
  have H2 := hide hb2
  rw [← hn] at hl ⊢
  rw [← hn2] at hm ⊢
  clear hn hn2 hb1 hb2
  by_cases heq : n = n2
  · subst heq
    go_enter Try.func51, Try.ntmps51
    go_wp2
    go_loopw [13] (fun v wr => ∃ k q : Nat, k ≤ n ∧ v = .int .i64 (k : Int) ∧ Hid (l.take k = m.take k) ∧ Hid (wr = w.drewN q)) (fun v _ => n - (intOf v).toNat)
    case atStart => exact ⟨0, 0, by omega, rfl, hide rfl, hide rfl⟩
    case round =>
      obtain ⟨k, q, hk, rfl, htk, hwr⟩ := hrel
      by_cases hlt : k < n
      · have hkl : k < l.length := by rw [← HN.out]; exact hlt
        have hkm : k < m.length := by rw [← HN2.out]; exact hlt
        obtain ⟨b1, o1, rfl, _, hc1⟩ := H1.out (by omega)
        obtain ⟨b2, o2, rfl, _, hc2⟩ := H2.out (by omega)
        have h1 : wr.cell? ⟨b1, o1 + k * 2, none⟩ = some (.int .i64 l[k].1) := by rw [hwr.out]; exact (hc1 k hkl).1
        have h2 : wr.cell? ⟨b1, o1 + k * 2 + 1, none⟩ = some (.bool l[k].2) := by rw [hwr.out]; exact (hc1 k hkl).2
        have h3 : wr.cell? ⟨b2, o2 + k * 2, none⟩ = some (.int .i64 m[k].1) := by rw [hwr.out]; exact (hc2 k hkm).1
        have h4 : wr.cell? ⟨b2, o2 + k * 2 + 1, none⟩ = some (.bool m[k].2) := by rw [hwr.out]; exact (hc2 k hkm).2
        have hs : l[k] = m[k] → l.take (k + 1) = m.take (k + 1) := fun e => by
          rw [List.take_succ_eq_append_getElem hkl, List.take_succ_eq_append_getElem hkm, htk.out, e]
        have hs2 : l[k] ≠ m[k] → l ≠ m := fun h e => h (by subst e; rfl)
        obtain ⟨x, hx⟩ : ∃ x, x = l[k] := ⟨_, rfl⟩
        obtain ⟨y, hy⟩ : ∃ y, y = m[k] := ⟨_, rfl⟩
        rw [← hx] at h1 h2 hs hs2
        rw [← hy] at h3 h4 hs hs2
        obtain ⟨xs, xo⟩ := x
        obtain ⟨ys, yo⟩ := y
        simp only at h1 h2 h3 h4
        have hji : (k : Int) < (n : Int) := by omega
        have HS := hide hs
        have HS2 := hide hs2
        clear hc1 hc2 hx hy hs hs2 hkl hkm htk
        by_cases e1 : xs = ys
        · by_cases e2 : xo = yo
          · have HT := hide (HS.out (by rw [e1, e2]))
            have e1b : (xs == ys) = true := by simpa using e1
            have e2b : (xo == yo) = true := by simpa using e2
            clear e1 e2 HS HS2
            go_wp2
            go_quiet (fail)
            go_wp2
            go_roundw
            case rel => exact ⟨k + 1, q + nq, by omega, by go_num, HT, hide (by rw [hwr.out, World.drewN_drewN])⟩
            case measure => simp [intOf]; omega
          · have HR := hide (hd2.out (HS2.out (fun e => e2 (by injection e))))
            have e1b : (xs == ys) = true := by simpa using e1
            have e2b : (xo == yo) = false := by simpa using e2
            clear e1 e2 HS HS2
            go_wp2
            go_quiet (fail)
            go_wp2
            go_ret
            exact hF.out _ _ (by rw [hwr.out]; exact below_drewN (below_drewN (Below.refl _ _) _) _) HR.out.symm
        · have HR := hide (hd2.out (HS2.out (fun e => e1 (by injection e))))
          have e1b : (xs == ys) = false := by simpa using e1
          clear e1 HS HS2
          go_wp2
          go_quiet (fail)
          go_wp2
          go_ret
          exact hF.out _ _ (by rw [hwr.out]; exact below_drewN (below_drewN (Below.refl _ _) _) _) HR.out.symm
      · obtain rfl : k = n := by omega
        have HR := hide (hd.out (by
          have := htk.out
          rwa [List.take_of_length_le (by rw [HN.out]; exact Nat.le_refl _), List.take_of_length_le (by rw [HN2.out]; exact Nat.le_refl _)] at this))
        clear hlt
        go_wp2
        go_ret
        exact hF.out _ _ (by rw [hwr.out]; exact below_drewN (Below.refl _ _) _) HR.out.symm
  · have hne : ((n : Int) != (n2 : Int)) = true := by simp; omega
    have HR := hide (hd2.out (fun e => heq (by rw [HN.out, HN2.out, e])))
    clear heq
    go_enter Try.func51, Try.ntmps51
    go_wp2
    go_ret
    exact hF.out _ _ (Below.refl _ _) HR.out.symm
end Go.Proofs.Ytmbddengmheeeaa
