/-
  Elements taken out of a row, as the library does it: in place, what is behind them moved down, zero values behind that.
-/
import Derived.Test.YtjdedlmphghpnaaWhc
namespace Go.Proofs.Ytjdedlmphghpnaa
open Go.RowKit
set_option maxRecDepth 100000
set_option linter.unusedVariables false
set_option linter.unusedSimpArgs false

set_option maxHeartbeats 4000000 in
theorem delI_none (w : World) (A : Option Addr) (i n c : Nat) (hi : i ≤ n) (hn : n ≤ c) (hc : c ≤ 9223372036854775807) :
    Calls Try.prog 60 #[.slice A n c, .int .i64 i, .int .i64 i] w fun e w' => e = .returned (.slice A n c) ∧ w' = w := by
  go_enter Try.func60, Try.ntmps60
  go_wp2
  all_goals (go_ret; exact ⟨rfl, rfl⟩)
set_option maxHeartbeats 8000000 in
theorem delI_some (w : World) (g i j n cap : Nat) (xs cur : List Value) (hg : w.heap[g]? = some (.cells cur.toArray 2 (0, 0))) (hcl : cur.length = cap * 1) (hxs : cur.take (n * 1) = xs) (h1 : ∀ u ∈ xs, u.oneCell' = true)
    (hij : i < j) (hj : j ≤ n) (hn : n ≤ cap) (hc : cap ≤ 9223372036854775807) :
    Calls Try.prog 60 #[.slice (some ⟨g, 0, none⟩) n cap, .int .i64 i, .int .i64 j] w fun e w' => ∃ Z : List Value, Z.length = (j - i) * 1 ∧ e = .returned (.slice (some ⟨g, 0, none⟩) (n - (j - i)) cap) ∧ w.grownBy w' (some g) ∧
      w'.heap[g]? = some (.cells (splK (splK cur (i * 1) (xs.drop (j * 1))) ((n - (j - i)) * 1) Z).toArray 2 (0, 0)) := by
  obtain ⟨i0, hi0, hz0, hz1, hz2⟩ := info_parts info_i8
  have hxsl : xs.length = n * 1 := by rw [← hxs, List.length_take]; omega
  have hget : ∀ t, t < n * 1 → cur[t]? = xs[t]? := fun t h => by rw [← hxs, List.getElem?_take, if_pos h]
  have hdl : (xs.drop (j * 1)).length = (n - j) * 1 := by rw [List.length_drop, hxsl]; omega
  obtain ⟨A, hA, hsrc⟩ : ∃ A : Addr, (if cap = j then some (⟨g, 0, none⟩ : Addr) else some ⟨g, j, none⟩) = some A ∧ ∀ t u, (xs.drop (j * 1))[t]? = some u → w.drew.cell? (A.add t) = some u := by
    by_cases h : cap = j
    · refine ⟨⟨g, 0, none⟩, by rw [if_pos h], fun t u hu => ?_⟩
      have h0 : (xs.drop (j * 1)).length = 0 := by rw [hdl]; omega
      rw [List.length_eq_zero_iff.1 h0] at hu
      simp at hu
    · refine ⟨⟨g, j * 1, none⟩, by rw [if_neg h]; simp, fun t u hu => ?_⟩
      have ht : j * 1 + t < n * 1 := by have := (List.getElem?_eq_some_iff.1 hu).1; rw [hdl] at this; omega
      rw [List.getElem?_drop, ← hget _ ht] at hu
      rw [add_none, cell_of_row w.drew g _ _ _ (0, 0) hg]; simpa using hu
  obtain ⟨c1, hc1⟩ : ∃ c1, c1 = splK cur (i * 1) (xs.drop (j * 1)) := ⟨_, rfl⟩
  have hl1 : c1.length = cur.length := by rw [hc1]; exact splK_len (by omega)
  obtain ⟨W1, hW1⟩ : ∃ W1, W1 = w.drew.setRow g c1.toArray := ⟨_, rfl⟩
  have hap : ∀ ty, (Builtin.append_ #[53, 53] ty #[.slice (some ⟨g, 0, none⟩) i cap, .slice (some A) (n - j) (cap - j)]).run Try.prog w.drew = .ok (.slice (some ⟨g, 0, none⟩) (i + (n - j)) cap) W1 := fun ty => by
    have := run_append_room (P := Try.prog) w.drew 53 ty 2 i0 Try.underlying53 hi0 g i cap cur.toArray hg A (n - j) (cap - j) (xs.drop (j * 1)) (by rw [hz1]; exact hdl) hsrc (fun u hu => h1 u (List.mem_of_mem_drop hu)) (by omega) (by rw [hz1, hdl]; simp; omega)
    rw [hz1] at this
    rw [hW1, hc1]
    exact this
  have hg1 : W1.heap[g]? = some (.cells c1.toArray 2 (0, 0)) := by rw [hW1]; exact setRow_heap w.drew g _ _ _ _ hg
  obtain ⟨Z, hZ⟩ : ∃ Z, Z = (Builtin.zeroCells (Value.int .i64 0).cells (n - (i + (n - j)))).toList := ⟨_, rfl⟩
  have hZl : Z.length = (j - i) * 1 := by rw [hZ]; simp [Builtin.zeroCells, Value.cells]; omega
  obtain ⟨c2, hc2⟩ : ∃ c2, c2 = splK c1 ((n - (j - i)) * 1) Z := ⟨_, rfl⟩
  have hcr : ∀ (W : World), (∀ k, W.heap[k]? = W1.heap[k]?) → ∀ ty, (Builtin.clear_ #[53] ty #[.slice (some ⟨g, i + (n - j), none⟩) (n - (i + (n - j))) (cap - (i + (n - j)))]).run Try.prog W = .ok (.tuple #[]) (W.setRow g c2.toArray) := fun W hW ty => by
    have := run_clear_rowk W 53 2 ty (Value.int .i64 0) Try.underlying53 (by rw [Try.zeroValue2]) (by intro v hv; simp [Value.cells] at hv; subst hv; rfl) g ((i + (n - j)) * 1) (n - (i + (n - j))) (cap - (i + (n - j))) c1 _ ((hW g).trans hg1) (by omega) (by rw [hl1]; simp [Value.cells]; omega)
    rw [← hZ, show (i + (n - j)) * 1 = (n - (j - i)) * 1 by omega, ← hc2] at this
    rw [← this, Nat.mul_one, show (n - (j - i)) = (i + (n - j)) by omega]
  have HF : Hid (∀ W : World, (∀ k, W.heap[k]? = W1.heap[k]?) → W.os = w.os → W.tape = w.tape → W.output = w.output → W.heap.size = w.heap.size → w.grownBy (W.setRow g c2.toArray) (some g) ∧ (W.setRow g c2.toArray).heap[g]? = some (.cells c2.toArray 2 (0, 0))) := hide fun W hW h1 h2 h3 h4 => by
    refine ⟨⟨h1, h2, h3, by simp [h4], fun k hk hne => ?_⟩, setRow_heap W g _ _ _ _ ((hW g).trans hg1)⟩
    have : k ≠ g := fun e => hne (by rw [e])
    rw [setRow_other W g k _ this, hW, hW1, setRow_other w.drew g k _ this]; rfl
  have HW : Hid (W1.os = w.os ∧ W1.tape = w.tape ∧ W1.output = w.output ∧ W1.heap.size = w.heap.size) := hide (by rw [hW1]; exact ⟨rfl, rfl, rfl, by simp⟩)
  have HZ := hide hZl
  rw [show n - (j - i) = i + (n - j) by omega]
  rw [show n - (j - i) = i + (n - j) by omega] at hc2
  rw [← hc1]
  have HC := hide hc2
  have hic : i ≤ cap := by omega
  have hjc : j ≤ cap := by omega
  have hz2' : ¬ ((i : Int) = (j : Int)) := by omega
  have hci : ¬ (cap = i + (n - j)) := by omega
  clear hW1 hc1 hc2 hZ hZl hl1 hget hdl hxs hxsl hcl hsrc hg1 hg h1 hi0 hz0 hz1 hz2
  go_enter Try.func60, Try.ntmps60
  go_wp2_with fail
  go_region_law (refine step_append_eq rfl _ _ 53 53 rfl _ _ (by simp [Act.eval, Act.put]) (by simp [Act.eval, Act.put]) (hap _) ?_)
  go_wp2_with (first | (at_builtin; refine wpList_clear_eq rfl _ 53 rfl _ rfl (hcr _ (fun _ => rfl) _) ?_) | fail)
  all_goals go_ret
  all_goals
    have := HF.out _ (fun _ => rfl) HW.out.1 HW.out.2.1 HW.out.2.2.1 HW.out.2.2.2
    exact ⟨Z, HZ.out, rfl, by rw [← HC.out]; exact this⟩

theorem delI_any (w : World) (base i j n : Nat) (v : Value) (xs : List Value) (h : w.ownsRow base 2 1 v n xs) (h1 : ∀ u ∈ xs, u.oneCell' = true) (hij : i ≤ j) (hj : j ≤ n) :
    Calls Try.prog 60 #[v, .int .i64 i, .int .i64 j] w fun e w' => ∃ v', e = .returned v' ∧ w'.ownsRow base 2 1 v' (n - (j - i)) (xs.take (i * 1) ++ xs.drop (j * 1)) ∧ w.grownBy w' v.ownBlock ∧ v'.ownBlock = v.ownBlock := by
  by_cases e : i = j
  · subst e
    have hv : ∃ A c, v = .slice A n c ∧ n ≤ c ∧ c ≤ 9223372036854775807 := by
      rcases h.2 with ⟨rfl, rfl⟩ | ⟨g, cap, cur, rfl, _, _, hn, hm, _⟩
      · exact ⟨none, 0, rfl, by omega, by omega⟩
      · exact ⟨_, _, rfl, hn, by unfold maxLen at hm; omega⟩
    obtain ⟨A, c, rfl, hc1, hc2⟩ := hv
    refine (delI_none w A i n c hj hc1 hc2).mono ?_
    rintro e w' ⟨rfl, rfl⟩
    rw [Nat.sub_self, Nat.sub_zero, List.take_append_drop]
    exact ⟨_, rfl, h, World.grownBy.refl _ _, rfl⟩
  · have hlen : (xs.take (i * 1) ++ xs.drop (j * 1)).length = (n - (j - i)) * 1 := by
      have := h.1
      simp only [List.length_append, List.length_take, List.length_drop]; omega
    rcases h.2 with ⟨rfl, rfl⟩ | ⟨g, cap, cur, rfl, hb, hg, hnc, hm, hsz, ht⟩
    · omega
    · have hg' : w.heap[g]? = some (.cells cur.toList.toArray 2 (0, 0)) := by simpa using hg
      have hcl : cur.toList.length = cap * 1 := by simpa using hsz
      refine (delI_some w g i j n cap xs cur.toList hg' hcl ht h1 (by omega) hj hnc (by unfold maxLen at hm; omega)).mono ?_
      rintro e w' ⟨Z, hZ, rfl, hg1, hh⟩
      have e1 : (splK cur.toList (i * 1) (xs.drop (j * 1))).length = cur.toList.length := splK_len (by rw [List.length_drop, h.1, hcl]; omega)
      refine ⟨_, rfl, ⟨hlen, .inr ⟨g, cap, _, rfl, hb, hh, by omega, hm, ?_, ?_⟩⟩, hg1, rfl⟩
      · rw [List.size_toArray, splK_len (by rw [e1, hcl, hZ]; omega), e1, hcl]
      · simp only [List.toList_toArray]
        exact del_row Z h.1 hij hj ht (by rw [hcl]; omega) hZ

set_option maxHeartbeats 4000000 in
theorem delD_none (w : World) (A : Option Addr) (i n c : Nat) (hi : i ≤ n) (hn : n ≤ c) (hc : c ≤ 9223372036854775807) :
    Calls Try.prog 34 #[.slice A n c, .int .i64 i, .int .i64 i] w fun e w' => e = .returned (.slice A n c) ∧ w' = w := by
  go_enter Try.func34, Try.ntmps34
  go_wp2
  all_goals (go_ret; exact ⟨rfl, rfl⟩)
set_option maxHeartbeats 8000000 in
theorem delD_some (w : World) (g i j n cap : Nat) (xs cur : List Value) (hg : w.heap[g]? = some (.cells cur.toArray 43 (0, 0))) (hcl : cur.length = cap * 2) (hxs : cur.take (n * 2) = xs) (h1 : ∀ u ∈ xs, u.oneCell' = true)
    (hij : i < j) (hj : j ≤ n) (hn : n ≤ cap) (hc : cap ≤ 9223372036854775807) :
    Calls Try.prog 34 #[.slice (some ⟨g, 0, none⟩) n cap, .int .i64 i, .int .i64 j] w fun e w' => ∃ Z : List Value, Z.length = (j - i) * 2 ∧ e = .returned (.slice (some ⟨g, 0, none⟩) (n - (j - i)) cap) ∧ w.grownBy w' (some g) ∧
      w'.heap[g]? = some (.cells (splK (splK cur (i * 2) (xs.drop (j * 2))) ((n - (j - i)) * 2) Z).toArray 43 (0, 0)) := by
  obtain ⟨i0, hi0, hz0, hz1, hz2⟩ := info_parts info_due
  have hxsl : xs.length = n * 2 := by rw [← hxs, List.length_take]; omega
  have hget : ∀ t, t < n * 2 → cur[t]? = xs[t]? := fun t h => by rw [← hxs, List.getElem?_take, if_pos h]
  have hdl : (xs.drop (j * 2)).length = (n - j) * 2 := by rw [List.length_drop, hxsl]; omega
  obtain ⟨A, hA, hsrc⟩ : ∃ A : Addr, (if cap = j then some (⟨g, 0, none⟩ : Addr) else some ⟨g, j * 2, none⟩) = some A ∧ ∀ t u, (xs.drop (j * 2))[t]? = some u → w.drew.cell? (A.add t) = some u := by
    by_cases h : cap = j
    · refine ⟨⟨g, 0, none⟩, by rw [if_pos h], fun t u hu => ?_⟩
      have h0 : (xs.drop (j * 2)).length = 0 := by rw [hdl]; omega
      rw [List.length_eq_zero_iff.1 h0] at hu
      simp at hu
    · refine ⟨⟨g, j * 2, none⟩, by rw [if_neg h], fun t u hu => ?_⟩
      have ht : j * 2 + t < n * 2 := by have := (List.getElem?_eq_some_iff.1 hu).1; rw [hdl] at this; omega
      rw [List.getElem?_drop, ← hget _ ht] at hu
      rw [add_none, cell_of_row w.drew g _ _ _ (0, 0) hg]; simpa using hu
  obtain ⟨c1, hc1⟩ : ∃ c1, c1 = splK cur (i * 2) (xs.drop (j * 2)) := ⟨_, rfl⟩
  have hl1 : c1.length = cur.length := by rw [hc1]; exact splK_len (by omega)
  obtain ⟨W1, hW1⟩ : ∃ W1, W1 = w.drew.setRow g c1.toArray := ⟨_, rfl⟩
  have hap : ∀ ty, (Builtin.append_ #[63, 63] ty #[.slice (some ⟨g, 0, none⟩) i cap, .slice (some A) (n - j) (cap - j)]).run Try.prog w.drew = .ok (.slice (some ⟨g, 0, none⟩) (i + (n - j)) cap) W1 := fun ty => by
    have := run_append_room (P := Try.prog) w.drew 63 ty 43 i0 Try.underlying63 hi0 g i cap cur.toArray hg A (n - j) (cap - j) (xs.drop (j * 2)) (by rw [hz1]; exact hdl) hsrc (fun u hu => h1 u (List.mem_of_mem_drop hu)) (by omega) (by rw [hz1, hdl]; simp; omega)
    rw [hz1] at this
    rw [hW1, hc1]
    exact this
  have hg1 : W1.heap[g]? = some (.cells c1.toArray 43 (0, 0)) := by rw [hW1]; exact setRow_heap w.drew g _ _ _ _ hg
  obtain ⟨Z, hZ⟩ : ∃ Z, Z = (Builtin.zeroCells (Value.agg #[.int .i64 0, .int .i64 0]).cells (n - (i + (n - j)))).toList := ⟨_, rfl⟩
  have hZl : Z.length = (j - i) * 2 := by rw [hZ]; simp [Builtin.zeroCells, Value.cells]; omega
  obtain ⟨c2, hc2⟩ : ∃ c2, c2 = splK c1 ((n - (j - i)) * 2) Z := ⟨_, rfl⟩
  have hcr : ∀ (W : World), (∀ k, W.heap[k]? = W1.heap[k]?) → ∀ ty, (Builtin.clear_ #[63] ty #[.slice (some ⟨g, (i + (n - j)) * 2, none⟩) (n - (i + (n - j))) (cap - (i + (n - j)))]).run Try.prog W = .ok (.tuple #[]) (W.setRow g c2.toArray) := fun W hW ty => by
    have := run_clear_rowk W 63 43 ty (Value.agg #[.int .i64 0, .int .i64 0]) Try.underlying63 (by rw [Try.zeroValue43]) (by intro v hv; simp [Value.cells] at hv; subst hv; rfl) g ((i + (n - j)) * 2) (n - (i + (n - j))) (cap - (i + (n - j))) c1 _ ((hW g).trans hg1) (by omega) (by rw [hl1]; simp [Value.cells]; omega)
    rw [← hZ, show (i + (n - j)) * 2 = (n - (j - i)) * 2 by omega, ← hc2] at this
    rw [← this, show (n - (j - i)) = (i + (n - j)) by omega]
  have HF : Hid (∀ W : World, (∀ k, W.heap[k]? = W1.heap[k]?) → W.os = w.os → W.tape = w.tape → W.output = w.output → W.heap.size = w.heap.size → w.grownBy (W.setRow g c2.toArray) (some g) ∧ (W.setRow g c2.toArray).heap[g]? = some (.cells c2.toArray 43 (0, 0))) := hide fun W hW h1 h2 h3 h4 => by
    refine ⟨⟨h1, h2, h3, by simp [h4], fun k hk hne => ?_⟩, setRow_heap W g _ _ _ _ ((hW g).trans hg1)⟩
    have : k ≠ g := fun e => hne (by rw [e])
    rw [setRow_other W g k _ this, hW, hW1, setRow_other w.drew g k _ this]; rfl
  have HW : Hid (W1.os = w.os ∧ W1.tape = w.tape ∧ W1.output = w.output ∧ W1.heap.size = w.heap.size) := hide (by rw [hW1]; exact ⟨rfl, rfl, rfl, by simp⟩)
  have HZ := hide hZl
  rw [show n - (j - i) = i + (n - j) by omega]
  rw [show n - (j - i) = i + (n - j) by omega] at hc2
  rw [← hc1]
  have HC := hide hc2
  have hic : i ≤ cap := by omega
  have hjc : j ≤ cap := by omega
  have hz2' : ¬ ((i : Int) = (j : Int)) := by omega
  have hci : ¬ (cap = i + (n - j)) := by omega
  clear hW1 hc1 hc2 hZ hZl hl1 hget hdl hxs hxsl hcl hsrc hg1 hg h1 hi0 hz0 hz1 hz2
  go_enter Try.func34, Try.ntmps34
  go_wp2_with fail
  go_region_law (refine step_append_eq rfl _ _ 63 63 rfl _ _ (by simp [Act.eval, Act.put]) (by simp [Act.eval, Act.put]) (hap _) ?_)
  go_wp2_with (first | (at_builtin; refine wpList_clear_eq rfl _ 63 rfl _ rfl (hcr _ (fun _ => rfl) _) ?_) | fail)
  all_goals go_ret
  all_goals
    have := HF.out _ (fun _ => rfl) HW.out.1 HW.out.2.1 HW.out.2.2.1 HW.out.2.2.2
    exact ⟨Z, HZ.out, rfl, by rw [← HC.out]; exact this⟩

theorem delD_any (w : World) (base i j n : Nat) (v : Value) (xs : List Value) (h : w.ownsRow base 43 2 v n xs) (h1 : ∀ u ∈ xs, u.oneCell' = true) (hij : i ≤ j) (hj : j ≤ n) :
    Calls Try.prog 34 #[v, .int .i64 i, .int .i64 j] w fun e w' => ∃ v', e = .returned v' ∧ w'.ownsRow base 43 2 v' (n - (j - i)) (xs.take (i * 2) ++ xs.drop (j * 2)) ∧ w.grownBy w' v.ownBlock ∧ v'.ownBlock = v.ownBlock := by
  by_cases e : i = j
  · subst e
    have hv : ∃ A c, v = .slice A n c ∧ n ≤ c ∧ c ≤ 9223372036854775807 := by
      rcases h.2 with ⟨rfl, rfl⟩ | ⟨g, cap, cur, rfl, _, _, hn, hm, _⟩
      · exact ⟨none, 0, rfl, by omega, by omega⟩
      · exact ⟨_, _, rfl, hn, by unfold maxLen at hm; omega⟩
    obtain ⟨A, c, rfl, hc1, hc2⟩ := hv
    refine (delD_none w A i n c hj hc1 hc2).mono ?_
    rintro e w' ⟨rfl, rfl⟩
    rw [Nat.sub_self, Nat.sub_zero, List.take_append_drop]
    exact ⟨_, rfl, h, World.grownBy.refl _ _, rfl⟩
  · have hlen : (xs.take (i * 2) ++ xs.drop (j * 2)).length = (n - (j - i)) * 2 := by
      have := h.1
      simp only [List.length_append, List.length_take, List.length_drop]; omega
    rcases h.2 with ⟨rfl, rfl⟩ | ⟨g, cap, cur, rfl, hb, hg, hnc, hm, hsz, ht⟩
    · omega
    · have hg' : w.heap[g]? = some (.cells cur.toList.toArray 43 (0, 0)) := by simpa using hg
      have hcl : cur.toList.length = cap * 2 := by simpa using hsz
      refine (delD_some w g i j n cap xs cur.toList hg' hcl ht h1 (by omega) hj hnc (by unfold maxLen at hm; omega)).mono ?_
      rintro e w' ⟨Z, hZ, rfl, hg1, hh⟩
      have e1 : (splK cur.toList (i * 2) (xs.drop (j * 2))).length = cur.toList.length := splK_len (by rw [List.length_drop, h.1, hcl]; omega)
      refine ⟨_, rfl, ⟨hlen, .inr ⟨g, cap, _, rfl, hb, hh, by omega, hm, ?_, ?_⟩⟩, hg1, rfl⟩
      · rw [List.size_toArray, splK_len (by rw [e1, hcl, hZ]; omega), e1, hcl]
      · simp only [List.toList_toArray]
        exact del_row Z h.1 hij hj ht (by rw [hcl]; omega) hZ
end Go.Proofs.Ytjdedlmphghpnaa
