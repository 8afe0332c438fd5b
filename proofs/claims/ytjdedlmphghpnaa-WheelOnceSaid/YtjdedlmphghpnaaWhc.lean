/-
  One element put into the middle of a row, as the library does it: in place where there is room, else in a new row.
-/
import Derived.Test.YtjdedlmphghpnaaWhb
import Derived.Laws.Externs
namespace Go.Proofs.Ytjdedlmphghpnaa
open Go.RowKit
set_option maxRecDepth 100000
set_option linter.unusedVariables false
set_option linter.unusedSimpArgs false

set_option maxHeartbeats 8000000 in
theorem insI_grow (w : World) (vb g i n : Nat) (xs x cur : List Value) (hg : w.heap[g]? = some (.cells cur.toArray 2 (0, 0))) (hcl : cur.length = n * 1) (hxs : cur.take (n * 1) = xs) (hx : w.heap[vb]? = some (.cells x.toArray 2 (0, 0))) (hxl : x.length = 1) (h1x : ∀ u ∈ x, u.oneCell' = true) (h1 : ∀ u ∈ xs, u.oneCell' = true)
    (hi : i < n) (hn : n ≤ 1000000) :
    Calls Try.prog 36 #[.slice (some ⟨g, 0, none⟩) n n, .int .i64 i, .slice (some ⟨vb, 0, none⟩) 1 1] w fun e w' => ∃ G row, e = .returned (.slice (some ⟨w.heap.size, 0, none⟩) (n + 1) G) ∧ w.grownBy w' none ∧
      n + 1 ≤ G ∧ G ≤ maxLen ∧ row.length = G * 1 ∧ w'.heap[w.heap.size]? = some (.cells (List.toArray row) 2 (0, 0)) ∧ row.take ((n + 1) * 1) = xs.take (i * 1) ++ (x ++ xs.drop (i * 1)) := by
  have hs : (Try.prog.info? 2).map (·.size) = some 1 := by kernel_rfl
  obtain ⟨i0, hi0, hz0, hz1, hz2⟩ := info_parts info_i8
  have hxsl : xs.length = n * 1 := by rw [← hxs, List.length_take]; omega
  have hcx : cur = xs := by rw [← hxs, ← hcl, List.take_length]
  subst hcx
  have hgl : g < w.heap.size := (Array.getElem?_eq_some_iff.1 hg).1
  have hvl : vb < w.heap.size := (Array.getElem?_eq_some_iff.1 hx).1
  have hold : (Builtin.firstCells i0.size i (.slice (some ⟨g, 0, none⟩) i n)).run Try.prog w.drew = .ok (cur.take (i * 1)).toArray w.drew := by
    rw [hz1]
    exact run_firstCells_some w.drew 1 i ⟨g, 0, none⟩ i n (cur.take (i * 1)) (by rw [List.length_take]; omega) (fun j v hj => by
      rw [add_none, cell_of_row w.drew g _ _ _ (0, 0) hg]
      rw [List.getElem?_take] at hj
      split at hj
      · simpa using hj
      · cases hj)
  obtain ⟨G, hG⟩ : ∃ G, G = grownCap w (n + 1) n 2 := ⟨_, rfl⟩
  obtain ⟨R, hR⟩ : ∃ R : List Value, R = cur.take (i * 1) ++ (Builtin.zeroCells (Value.int .i64 0).cells (n + 1 - i)).toList ++ (Builtin.zeroCells (Value.int .i64 0).cells (G - (n + 1))).toList := ⟨_, rfl⟩
  have hGn : n + 1 ≤ G := by rw [hG]; exact grownCap_ge w _ _ _
  have hGm : G ≤ maxLen := by rw [hG]; exact grownCap_le' w _ _ _ (by omega)
  have hRl : R.length = G * 1 := by rw [hR]; simp [Builtin.zeroCells, Value.cells, hxsl]; omega
  have hRt : R.take (i * 1) = cur.take (i * 1) := by
    rw [hR, List.append_assoc, List.take_append_of_le_length (by rw [List.length_take]; omega), List.take_of_length_le (by rw [List.length_take]; omega)]
  have hrz : ∀ ty, (Builtin.append_ #[53, 3] ty #[.slice (some ⟨g, 0, none⟩) i n, .int .i64 ((n : Int) + 1 - (i : Int))]).run Try.prog w =
      .ok (.slice (some ⟨w.heap.size, 0, none⟩) (n + 1) G) (w.drew.alloc (.cells R.toArray 2)) := fun ty => by
    have h := Lib.run_append_grow_zeros w 53 3 ty 2 i0 _ .i64 .i64 Try.underlying53 Try.underlying3 hi0 hz0 (some ⟨g, 0, none⟩) i n (cur.take (i * 1)) hold (n + 1 - i) (by omega) (by omega) (by omega) (by omega) (by rw [hz2]; omega) (by rw [hz2, show i + (n + 1 - i) = n + 1 by omega]; exact growslice_fits (by omega) (by omega))
    rw [show i + (n + 1 - i) = n + 1 by omega, show ((n + 1 - i : Nat) : Int) = (n : Int) + 1 - (i : Int) by omega, ← hG] at h
    have hRa : (cur.take (i * 1)).toArray ++ Builtin.zeroCells (Value.int .i64 0).cells (n + 1 - i) ++ Builtin.zeroCells (Value.int .i64 0).cells (G - (n + 1)) = R.toArray := Array.toList_inj.1 (by rw [hR]; simp)
    rw [h, hRa]
  obtain ⟨c1, hc1⟩ : ∃ c1, c1 = splK R (i * 1) x := ⟨_, rfl⟩
  obtain ⟨c2, hc2⟩ : ∃ c2, c2 = splK c1 ((i + 1) * 1) (cur.drop (i * 1)) := ⟨_, rfl⟩
  have hl1 : c1.length = R.length := by rw [hc1]; exact splK_len (by omega)
  have hl2 : c2.length = R.length := by rw [hc2, splK_len (by rw [List.length_drop]; omega), hl1]
  have htk : c2.take ((n + 1) * 1) = cur.take (i * 1) ++ (x ++ cur.drop (i * 1)) := by
    rw [hc2, hc1]; exact ins_new hxsl hxl (by omega) hRt (by omega)
  obtain ⟨W1, hW1⟩ : ∃ W1, W1 = w.drew.alloc (.cells R.toArray 2) := ⟨_, rfl⟩
  have hN1 : W1.heap[w.heap.size]? = some (.cells R.toArray 2 (0, 0)) := by rw [hW1]; exact heap_alloc_new w.drew _
  have hO1 : ∀ k, k < w.heap.size → W1.heap[k]? = w.heap[k]? := fun k hk => by rw [hW1]; exact heap_alloc_old w.drew _ hk
  obtain ⟨W2, hW2⟩ : ∃ W2, W2 = W1.setRow w.heap.size c1.toArray := ⟨_, rfl⟩
  have hcpA : ∀ ty, (Builtin.copy_ #[53, 53] ty #[.slice (some ⟨w.heap.size, i, none⟩) (n + 1 - i) (G - i), .slice (some ⟨vb, 0, none⟩) 1 1]).run Try.prog W1 = .ok (goInt (Nat.min 1 (n + 1 - i))) W2 := fun ty => by
    have := run_copy_rowk W1 _ 53 ty 2 1 w.heap.size (i * 1) (n + 1 - i) (G - i) ⟨vb, 0, none⟩ 1 1 R _ x Try.underlying53 hs hN1 (by rw [hxl, show Nat.min 1 (n + 1 - i) = 1 by simp only [Nat.min_def]; split <;> omega]) (fun j v hj => by
      rw [add_none, cell_of_row W1 vb _ _ _ (0, 0) ((hO1 vb hvl).trans hx)]; simpa using hj) (by omega) h1x
    rw [← hc1, ← hW2] at this
    simp only [Nat.mul_one] at this
    exact this
  have hN2 : W2.heap[w.heap.size]? = some (.cells c1.toArray 2 (0, 0)) := by rw [hW2]; exact setRow_heap W1 _ _ _ _ _ hN1
  have hO2 : ∀ k, k < w.heap.size → W2.heap[k]? = w.heap[k]? := fun k hk => by rw [hW2, setRow_other W1 _ k _ (by omega)]; exact hO1 k hk
  obtain ⟨W3, hW3⟩ : ∃ W3, W3 = W2.drew.setRow w.heap.size c2.toArray := ⟨_, rfl⟩
  have hcpB : ∀ ty, (Builtin.copy_ #[53, 53] ty #[.slice (some ⟨w.heap.size, i + 1, none⟩) (n - i) (G - (i + 1)), .slice (some ⟨g, i, none⟩) (n - i) (n - i)]).run Try.prog W2.drew = .ok (goInt ((n - i : Nat) : Int)) W3 := fun ty => by
    have := run_copy_rowk W2.drew _ 53 ty 2 1 w.heap.size ((i + 1) * 1) (n - i) (G - (i + 1)) ⟨g, i * 1, none⟩ (n - i) (n - i) c1 _ (cur.drop (i * 1)) Try.underlying53 hs hN2 (by rw [List.length_drop, show Nat.min (n - i) (n - i) = n - i by simp only [Nat.min_def]; split <;> omega]; omega) (fun j v hj => by
      rw [List.getElem?_drop] at hj
      rw [add_none, cell_of_row W2.drew g _ _ _ (0, 0) ((hO2 g hgl).trans hg)]; simpa using hj) (by rw [List.length_drop, hl1]; omega) (fun u hu => h1 u (List.mem_of_mem_drop hu))
    rw [← hc2, ← hW3, show Nat.min (n - i) (n - i) = n - i by simp only [Nat.min_def]; split <;> omega] at this
    simp only [Nat.mul_one] at this
    exact this
  have HF : Hid (w.grownBy W3 none ∧ W3.heap[w.heap.size]? = some (.cells c2.toArray 2 (0, 0))) := hide ⟨by
    rw [hW3]
    refine ⟨by rw [hW2, hW1]; rfl, by rw [hW2, hW1]; rfl, by rw [hW2, hW1]; rfl, by rw [hW2, hW1]; simp, fun k hk _ => ?_⟩
    rw [setRow_other W2.drew _ k _ (by omega)]; exact hO2 k hk, by rw [hW3]; exact setRow_heap W2.drew _ _ _ _ _ hN2⟩
  have HH := hide (show n + 1 ≤ G ∧ G ≤ maxLen ∧ c2.length = G * 1 from ⟨hGn, hGm, hl2.trans hRl⟩)
  have HT := hide htk
  have hG63 : G ≤ 9223372036854775807 := by unfold maxLen at hGm; omega
  have hGi : ¬ (G = i) := by omega
  have hGim : ¬ (G = i + 1) := by omega
  have hci : ¬ (n = i) := by omega
  have hz2' : ¬ ((i : Int) = (n : Int)) := by omega
  have hb1 : (0 : Int) ≤ (i : Int) + 1 := by omega
  have hin : i ≤ n := by omega
  have hb3 : (i : Int) ≤ (n : Int) + 1 := by omega
  have hw1 : IntKind.i64.wrap ((i : Int) + 1) = (i : Int) + 1 := by rw [IntKind.wrap_i64]; omega
  have hw2 : IntKind.i64.wrap ((n : Int) + 1) = (n : Int) + 1 := by rw [IntKind.wrap_i64]; omega
  have hw3 : IntKind.i64.wrap ((n : Int) + 1 - (i : Int)) = (n : Int) + 1 - (i : Int) := by rw [IntKind.wrap_i64]; omega
  have htn : ((i : Int) + 1).toNat = i + 1 := by omega
  have HI := hide (show i < n ∧ n ≤ 1000000 from ⟨hi, hn⟩)
  rw [← hW1] at hrz
  clear hW1 hW2 hW3 hc1 hc2 hG hR hRl hRt hl1 hl2 htk hN1 hO1 hN2 hO2 hold hxsl hcl hxs hs hz0 hz1 hz2 hi0 h1 h1x hxl hg hx hgl hvl hGm
  go_enter Try.func36, Try.ntmps36
  go_wp2_with (first
    | (at_builtin; refine wpList_append_eq rfl _ _ 53 3 rfl _ _ rfl rfl (hrz _) ?_)
    | (at_builtin; refine wpList_copy_eq rfl _ _ 53 53 rfl _ _ rfl rfl (hcpA _) ?_) | fail)
  go_region_law (refine step_copy_eq rfl _ _ 53 53 rfl _ _ (by simp [Act.eval, Act.put]) (by simp [Act.eval, Act.put]) (hcpB _) ?_)
  go_wp2
  all_goals go_ret
  all_goals exact ⟨_, _, rfl, HF.out.1, HH.out.1, HH.out.2.1, HH.out.2.2, HF.out.2, HT.out⟩

/-- what it comes to, whichever way. -/
theorem insI_any (w : World) (base vb i n : Nat) (v : Value) (xs x : List Value) (h : w.ownsRow base 2 1 v n xs) (hx : w.heap[vb]? = some (.cells x.toArray 2 (0, 0))) (hxl : x.length = 1) (h1x : ∀ u ∈ x, u.oneCell' = true) (h1 : ∀ u ∈ xs, u.oneCell' = true)
    (hne : v.ownBlock ≠ some vb) (hi : i ≤ n) (hn : n ≤ 1000000) (hbase : base ≤ w.heap.size) :
    Calls Try.prog 36 #[v, .int .i64 i, .slice (some ⟨vb, 0, none⟩) 1 1] w fun e w' => ∃ v', e = .returned v' ∧ w'.ownsRow base 2 1 v' (n + 1) (xs.take (i * 1) ++ (x ++ xs.drop (i * 1))) ∧ w.grownBy w' v.ownBlock ∧ (v'.ownBlock = v.ownBlock ∨ v'.ownBlock = some w.heap.size) := by
  by_cases e : i = n
  · subst e
    have e1 : xs.take (i * 1) = xs := by rw [← h.1, List.take_length]
    have e2 : xs.drop (i * 1) = [] := by rw [← h.1, List.drop_length]
    rw [e1, e2, List.append_nil]
    exact insI_end w base vb i v xs x h hx hxl h1x hn hbase
  · have hlen : (xs.take (i * 1) ++ (x ++ xs.drop (i * 1))).length = (n + 1) * 1 := by
      have := h.1
      simp only [List.length_append, List.length_take, List.length_drop]; omega
    rcases h.2 with ⟨rfl, rfl⟩ | ⟨g, cap, cur, rfl, hb, hg, hnc, hm, hsz, ht⟩
    · omega
    · have hg' : w.heap[g]? = some (.cells cur.toList.toArray 2 (0, 0)) := by simpa using hg
      by_cases hr : n + 1 ≤ cap
      · refine (insI_shift w base vb g i n cap xs x cur.toList hg' (by simpa using hsz) ht hx hxl h1x h1 (fun e => hne (by rw [e]; rfl)) (by omega) hr (by unfold maxLen at hm; omega)).mono ?_
        rintro e w' ⟨rfl, hg1, hh⟩
        refine ⟨_, rfl, ⟨hlen, .inr ⟨g, cap, _, rfl, hb, hh, hr, hm, ?_, ?_⟩⟩, hg1, .inl rfl⟩
        · have hc : cur.toList.length = cap * 1 := by simpa using hsz
          have e1 : (splK cur.toList ((i + 1) * 1) (xs.drop (i * 1))).length = cur.toList.length := splK_len (by rw [List.length_drop, h.1]; omega)
          rw [List.size_toArray, splK_len (by omega), e1, hc]
        · simp only [List.toList_toArray]
          exact ins_shift h.1 hxl (by omega) ht (by simp; omega)
      · obtain rfl : cap = n := by omega
        refine (insI_grow w vb g i cap xs x cur.toList hg' (by simpa using hsz) ht hx hxl h1x h1 (by omega) hn).mono ?_
        rintro e w' ⟨G, row, rfl, hg1, h2, h3, h4, h5, h6⟩
        exact ⟨_, rfl, ⟨hlen, .inr ⟨w.heap.size, G, _, rfl, hbase, h5, h2, h3, by simpa using h4, by simpa using h6⟩⟩, ⟨hg1.os, hg1.tape, hg1.output, hg1.size, fun k hk _ => hg1.block k hk (by simp)⟩, .inr rfl⟩

set_option maxHeartbeats 8000000 in
theorem insD_grow (w : World) (vb g i n : Nat) (xs x cur : List Value) (hg : w.heap[g]? = some (.cells cur.toArray 43 (0, 0))) (hcl : cur.length = n * 2) (hxs : cur.take (n * 2) = xs) (hx : w.heap[vb]? = some (.cells x.toArray 43 (0, 0))) (hxl : x.length = 2) (h1x : ∀ u ∈ x, u.oneCell' = true) (h1 : ∀ u ∈ xs, u.oneCell' = true)
    (hi : i < n) (hn : n ≤ 1000000) :
    Calls Try.prog 65 #[.slice (some ⟨g, 0, none⟩) n n, .int .i64 i, .slice (some ⟨vb, 0, none⟩) 1 1] w fun e w' => ∃ G row, e = .returned (.slice (some ⟨w.heap.size, 0, none⟩) (n + 1) G) ∧ w.grownBy w' none ∧
      n + 1 ≤ G ∧ G ≤ maxLen ∧ row.length = G * 2 ∧ w'.heap[w.heap.size]? = some (.cells (List.toArray row) 43 (0, 0)) ∧ row.take ((n + 1) * 2) = xs.take (i * 2) ++ (x ++ xs.drop (i * 2)) := by
  have hs : (Try.prog.info? 43).map (·.size) = some 2 := by kernel_rfl
  obtain ⟨i0, hi0, hz0, hz1, hz2⟩ := info_parts info_due
  have hxsl : xs.length = n * 2 := by rw [← hxs, List.length_take]; omega
  have hcx : cur = xs := by rw [← hxs, ← hcl, List.take_length]
  subst hcx
  have hgl : g < w.heap.size := (Array.getElem?_eq_some_iff.1 hg).1
  have hvl : vb < w.heap.size := (Array.getElem?_eq_some_iff.1 hx).1
  have hold : (Builtin.firstCells i0.size i (.slice (some ⟨g, 0, none⟩) i n)).run Try.prog w.drew = .ok (cur.take (i * 2)).toArray w.drew := by
    rw [hz1]
    exact run_firstCells_some w.drew 2 i ⟨g, 0, none⟩ i n (cur.take (i * 2)) (by rw [List.length_take]; omega) (fun j v hj => by
      rw [add_none, cell_of_row w.drew g _ _ _ (0, 0) hg]
      rw [List.getElem?_take] at hj
      split at hj
      · simpa using hj
      · cases hj)
  obtain ⟨G, hG⟩ : ∃ G, G = grownCap w (n + 1) n 43 := ⟨_, rfl⟩
  obtain ⟨R, hR⟩ : ∃ R : List Value, R = cur.take (i * 2) ++ (Builtin.zeroCells (Value.agg #[.int .i64 0, .int .i64 0]).cells (n + 1 - i)).toList ++ (Builtin.zeroCells (Value.agg #[.int .i64 0, .int .i64 0]).cells (G - (n + 1))).toList := ⟨_, rfl⟩
  have hGn : n + 1 ≤ G := by rw [hG]; exact grownCap_ge w _ _ _
  have hGm : G ≤ maxLen := by rw [hG]; exact grownCap_le' w _ _ _ (by omega)
  have hRl : R.length = G * 2 := by rw [hR]; simp [Builtin.zeroCells, Value.cells, hxsl]; omega
  have hRt : R.take (i * 2) = cur.take (i * 2) := by
    rw [hR, List.append_assoc, List.take_append_of_le_length (by rw [List.length_take]; omega), List.take_of_length_le (by rw [List.length_take]; omega)]
  have hrz : ∀ ty, (Builtin.append_ #[63, 3] ty #[.slice (some ⟨g, 0, none⟩) i n, .int .i64 ((n : Int) + 1 - (i : Int))]).run Try.prog w =
      .ok (.slice (some ⟨w.heap.size, 0, none⟩) (n + 1) G) (w.drew.alloc (.cells R.toArray 43)) := fun ty => by
    have h := Lib.run_append_grow_zeros w 63 3 ty 43 i0 _ .i64 .i64 Try.underlying63 Try.underlying3 hi0 hz0 (some ⟨g, 0, none⟩) i n (cur.take (i * 2)) hold (n + 1 - i) (by omega) (by omega) (by omega) (by omega) (by rw [hz2]; omega) (by rw [hz2, show i + (n + 1 - i) = n + 1 by omega]; exact growslice_fits (by omega) (by omega))
    rw [show i + (n + 1 - i) = n + 1 by omega, show ((n + 1 - i : Nat) : Int) = (n : Int) + 1 - (i : Int) by omega, ← hG] at h
    have hRa : (cur.take (i * 2)).toArray ++ Builtin.zeroCells (Value.agg #[.int .i64 0, .int .i64 0]).cells (n + 1 - i) ++ Builtin.zeroCells (Value.agg #[.int .i64 0, .int .i64 0]).cells (G - (n + 1)) = R.toArray := Array.toList_inj.1 (by rw [hR]; simp)
    rw [h, hRa]
  obtain ⟨c1, hc1⟩ : ∃ c1, c1 = splK R (i * 2) x := ⟨_, rfl⟩
  obtain ⟨c2, hc2⟩ : ∃ c2, c2 = splK c1 ((i + 1) * 2) (cur.drop (i * 2)) := ⟨_, rfl⟩
  have hl1 : c1.length = R.length := by rw [hc1]; exact splK_len (by omega)
  have hl2 : c2.length = R.length := by rw [hc2, splK_len (by rw [List.length_drop]; omega), hl1]
  have htk : c2.take ((n + 1) * 2) = cur.take (i * 2) ++ (x ++ cur.drop (i * 2)) := by
    rw [hc2, hc1]; exact ins_new hxsl hxl (by omega) hRt (by omega)
  obtain ⟨W1, hW1⟩ : ∃ W1, W1 = w.drew.alloc (.cells R.toArray 43) := ⟨_, rfl⟩
  have hN1 : W1.heap[w.heap.size]? = some (.cells R.toArray 43 (0, 0)) := by rw [hW1]; exact heap_alloc_new w.drew _
  have hO1 : ∀ k, k < w.heap.size → W1.heap[k]? = w.heap[k]? := fun k hk => by rw [hW1]; exact heap_alloc_old w.drew _ hk
  obtain ⟨W2, hW2⟩ : ∃ W2, W2 = W1.setRow w.heap.size c1.toArray := ⟨_, rfl⟩
  have hcpA : ∀ ty, (Builtin.copy_ #[63, 34] ty #[.slice (some ⟨w.heap.size, i * 2, none⟩) (n + 1 - i) (G - i), .slice (some ⟨vb, 0, none⟩) 1 1]).run Try.prog W1 = .ok (goInt (Nat.min 1 (n + 1 - i))) W2 := fun ty => by
    have := run_copy_rowk W1 _ 34 ty 43 2 w.heap.size (i * 2) (n + 1 - i) (G - i) ⟨vb, 0, none⟩ 1 1 R _ x Try.underlying63 hs hN1 (by rw [hxl, show Nat.min 1 (n + 1 - i) = 1 by simp only [Nat.min_def]; split <;> omega]) (fun j v hj => by
      rw [add_none, cell_of_row W1 vb _ _ _ (0, 0) ((hO1 vb hvl).trans hx)]; simpa using hj) (by omega) h1x
    rw [← hc1, ← hW2] at this
    skip
    exact this
  have hN2 : W2.heap[w.heap.size]? = some (.cells c1.toArray 43 (0, 0)) := by rw [hW2]; exact setRow_heap W1 _ _ _ _ _ hN1
  have hO2 : ∀ k, k < w.heap.size → W2.heap[k]? = w.heap[k]? := fun k hk => by rw [hW2, setRow_other W1 _ k _ (by omega)]; exact hO1 k hk
  obtain ⟨W3, hW3⟩ : ∃ W3, W3 = W2.drew.setRow w.heap.size c2.toArray := ⟨_, rfl⟩
  have hcpB : ∀ ty, (Builtin.copy_ #[63, 63] ty #[.slice (some ⟨w.heap.size, (i + 1) * 2, none⟩) (n - i) (G - (i + 1)), .slice (some ⟨g, i * 2, none⟩) (n - i) (n - i)]).run Try.prog W2.drew = .ok (goInt ((n - i : Nat) : Int)) W3 := fun ty => by
    have := run_copy_rowk W2.drew _ 63 ty 43 2 w.heap.size ((i + 1) * 2) (n - i) (G - (i + 1)) ⟨g, i * 2, none⟩ (n - i) (n - i) c1 _ (cur.drop (i * 2)) Try.underlying63 hs hN2 (by rw [List.length_drop, show Nat.min (n - i) (n - i) = n - i by simp only [Nat.min_def]; split <;> omega]; omega) (fun j v hj => by
      rw [List.getElem?_drop] at hj
      rw [add_none, cell_of_row W2.drew g _ _ _ (0, 0) ((hO2 g hgl).trans hg)]; simpa using hj) (by rw [List.length_drop, hl1]; omega) (fun u hu => h1 u (List.mem_of_mem_drop hu))
    rw [← hc2, ← hW3, show Nat.min (n - i) (n - i) = n - i by simp only [Nat.min_def]; split <;> omega] at this
    skip
    exact this
  have HF : Hid (w.grownBy W3 none ∧ W3.heap[w.heap.size]? = some (.cells c2.toArray 43 (0, 0))) := hide ⟨by
    rw [hW3]
    refine ⟨by rw [hW2, hW1]; rfl, by rw [hW2, hW1]; rfl, by rw [hW2, hW1]; rfl, by rw [hW2, hW1]; simp, fun k hk _ => ?_⟩
    rw [setRow_other W2.drew _ k _ (by omega)]; exact hO2 k hk, by rw [hW3]; exact setRow_heap W2.drew _ _ _ _ _ hN2⟩
  have HH := hide (show n + 1 ≤ G ∧ G ≤ maxLen ∧ c2.length = G * 2 from ⟨hGn, hGm, hl2.trans hRl⟩)
  have HT := hide htk
  have hG63 : G ≤ 9223372036854775807 := by unfold maxLen at hGm; omega
  have hGi : ¬ (G = i) := by omega
  have hGim : ¬ (G = i + 1) := by omega
  have hci : ¬ (n = i) := by omega
  have hz2' : ¬ ((i : Int) = (n : Int)) := by omega
  have hb1 : (0 : Int) ≤ (i : Int) + 1 := by omega
  have hin : i ≤ n := by omega
  have hb3 : (i : Int) ≤ (n : Int) + 1 := by omega
  have hw1 : IntKind.i64.wrap ((i : Int) + 1) = (i : Int) + 1 := by rw [IntKind.wrap_i64]; omega
  have hw2 : IntKind.i64.wrap ((n : Int) + 1) = (n : Int) + 1 := by rw [IntKind.wrap_i64]; omega
  have hw3 : IntKind.i64.wrap ((n : Int) + 1 - (i : Int)) = (n : Int) + 1 - (i : Int) := by rw [IntKind.wrap_i64]; omega
  have htn : ((i : Int) + 1).toNat = i + 1 := by omega
  have HI := hide (show i < n ∧ n ≤ 1000000 from ⟨hi, hn⟩)
  rw [← hW1] at hrz
  clear hW1 hW2 hW3 hc1 hc2 hG hR hRl hRt hl1 hl2 htk hN1 hO1 hN2 hO2 hold hxsl hcl hxs hs hz0 hz1 hz2 hi0 h1 h1x hxl hg hx hgl hvl hGm
  go_enter Try.func65, Try.ntmps65
  go_wp2_with (first
    | (at_builtin; refine wpList_append_eq rfl _ _ 63 3 rfl _ _ rfl rfl (hrz _) ?_)
    | (at_builtin; refine wpList_copy_eq rfl _ _ 63 34 rfl _ _ rfl rfl (hcpA _) ?_) | fail)
  go_region_law (refine step_copy_eq rfl _ _ 63 63 rfl _ _ (by simp [Act.eval, Act.put]) (by simp [Act.eval, Act.put]) (hcpB _) ?_)
  go_wp2
  all_goals go_ret
  all_goals exact ⟨_, _, rfl, HF.out.1, HH.out.1, HH.out.2.1, HH.out.2.2, HF.out.2, HT.out⟩

/-- what it comes to, whichever way. -/
theorem insD_any (w : World) (base vb i n : Nat) (v : Value) (xs x : List Value) (h : w.ownsRow base 43 2 v n xs) (hx : w.heap[vb]? = some (.cells x.toArray 43 (0, 0))) (hxl : x.length = 2) (h1x : ∀ u ∈ x, u.oneCell' = true) (h1 : ∀ u ∈ xs, u.oneCell' = true)
    (hne : v.ownBlock ≠ some vb) (hi : i ≤ n) (hn : n ≤ 1000000) (hbase : base ≤ w.heap.size) :
    Calls Try.prog 65 #[v, .int .i64 i, .slice (some ⟨vb, 0, none⟩) 1 1] w fun e w' => ∃ v', e = .returned v' ∧ w'.ownsRow base 43 2 v' (n + 1) (xs.take (i * 2) ++ (x ++ xs.drop (i * 2))) ∧ w.grownBy w' v.ownBlock ∧ (v'.ownBlock = v.ownBlock ∨ v'.ownBlock = some w.heap.size) := by
  by_cases e : i = n
  · subst e
    have e1 : xs.take (i * 2) = xs := by rw [← h.1, List.take_length]
    have e2 : xs.drop (i * 2) = [] := by rw [← h.1, List.drop_length]
    rw [e1, e2, List.append_nil]
    exact insD_end w base vb i v xs x h hx hxl h1x hn hbase
  · have hlen : (xs.take (i * 2) ++ (x ++ xs.drop (i * 2))).length = (n + 1) * 2 := by
      have := h.1
      simp only [List.length_append, List.length_take, List.length_drop]; omega
    rcases h.2 with ⟨rfl, rfl⟩ | ⟨g, cap, cur, rfl, hb, hg, hnc, hm, hsz, ht⟩
    · omega
    · have hg' : w.heap[g]? = some (.cells cur.toList.toArray 43 (0, 0)) := by simpa using hg
      by_cases hr : n + 1 ≤ cap
      · refine (insD_shift w base vb g i n cap xs x cur.toList hg' (by simpa using hsz) ht hx hxl h1x h1 (fun e => hne (by rw [e]; rfl)) (by omega) hr (by unfold maxLen at hm; omega)).mono ?_
        rintro e w' ⟨rfl, hg1, hh⟩
        refine ⟨_, rfl, ⟨hlen, .inr ⟨g, cap, _, rfl, hb, hh, hr, hm, ?_, ?_⟩⟩, hg1, .inl rfl⟩
        · have hc : cur.toList.length = cap * 2 := by simpa using hsz
          have e1 : (splK cur.toList ((i + 1) * 2) (xs.drop (i * 2))).length = cur.toList.length := splK_len (by rw [List.length_drop, h.1]; omega)
          rw [List.size_toArray, splK_len (by omega), e1, hc]
        · simp only [List.toList_toArray]
          exact ins_shift h.1 hxl (by omega) ht (by simp; omega)
      · obtain rfl : cap = n := by omega
        refine (insD_grow w vb g i cap xs x cur.toList hg' (by simpa using hsz) ht hx hxl h1x h1 (by omega) hn).mono ?_
        rintro e w' ⟨G, row, rfl, hg1, h2, h3, h4, h5, h6⟩
        exact ⟨_, rfl, ⟨hlen, .inr ⟨w.heap.size, G, _, rfl, hbase, h5, h2, h3, by simpa using h4, by simpa using h6⟩⟩, ⟨hg1.os, hg1.tape, hg1.output, hg1.size, fun k hk _ => hg1.block k hk (by simp)⟩, .inr rfl⟩
end Go.Proofs.Ytjdedlmphghpnaa
