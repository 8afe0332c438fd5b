/-
  One element put into the middle of a row, as the library does it: in place where there is room, else in a new row.
-/
import Derived.Test.YtjdedlmphghpnaaWha
import Derived.Laws.Externs
namespace Go.Proofs.Ytjdedlmphghpnaa
open Go.RowKit
set_option maxRecDepth 100000
set_option linter.unusedVariables false
set_option linter.unusedSimpArgs false
theorem append_tt {P : Program} (t t' ty e e' : TypeId) (i : TypeInfo) (hi : P.info? e = some i) (ht : P.underlying t = some (.slice e)) (ht' : P.underlying t' = some (.slice e')) (A : Option Addr) (n c : Nat) (u : Value) (w : World) :
    (Builtin.append_ #[t, t'] ty #[.slice A n c, u]).run P w = (Builtin.append_ #[t, t] ty #[.slice A n c, u]).run P w := by
  simp [Builtin.append_, Sem.run_bind, run_underlying ht, run_underlying ht', sizeOf, typeInfo, hi]
theorem info_i8 : (Try.prog.info? 2).map (fun i => (i.zero, i.size, i.bytes)) = some (some (.int .i64 0), 1, 8) := by kernel_rfl
theorem info_due : (Try.prog.info? 43).map (fun i => (i.zero, i.size, i.bytes)) = some (some (.agg #[.int .i64 0, .int .i64 0]), 2, 16) := by kernel_rfl
theorem grownCap_le' (w : World) (n c : Nat) (t : TypeId) (h : n ≤ 1000001) : grownCap w n c t ≤ maxLen := grownCap_le_maxLen w n c t (by unfold maxLen; omega)

set_option maxHeartbeats 4000000 in
theorem insI_end (w : World) (base vb n : Nat) (v : Value) (xs x : List Value) (h : w.ownsRow base 2 1 v n xs) (hx : w.heap[vb]? = some (.cells x.toArray 2 (0, 0))) (hxl : x.length = 1) (h1x : ∀ u ∈ x, u.oneCell' = true)
    (hn : n ≤ 1000000) (hbase : base ≤ w.heap.size) :
    Calls Try.prog 36 #[v, .int .i64 n, .slice (some ⟨vb, 0, none⟩) 1 1] w fun e w' => ∃ v', e = .returned v' ∧ w'.ownsRow base 2 1 v' (n + 1) (xs ++ x) ∧ w.grownBy w' v.ownBlock ∧ (v'.ownBlock = v.ownBlock ∨ v'.ownBlock = some w.heap.size) := by
  obtain ⟨i0, hi, hz0, hz1, hz2⟩ := info_parts info_i8
  have hnews : ∀ j u, x[j]? = some u → w.cell? ((⟨vb, 0, none⟩ : Addr).add j) = some u := fun j u hj => by
    rw [add_none, cell_of_row w vb (0 + j) _ _ (0, 0) hx]; simpa using hj
  obtain ⟨v', w', hr, h2, h3, -, h5⟩ := run_append_own_at (P := Try.prog) w base 53 53 2 i0 _ 1 8 Try.underlying53 hi hz0 hz1 hz2 rfl (by omega) v n xs h ⟨vb, 0, none⟩ 1 1 x (by rw [hxl]) hnews h1x (by unfold maxLen; omega) (by omega) hbase
  have hv : ∃ A c, v = .slice A n c ∧ n ≤ c ∧ c ≤ 9223372036854775807 := by
    rcases h.2 with ⟨rfl, rfl⟩ | ⟨g, cap, cur, rfl, _, _, hn, hm, _⟩
    · exact ⟨none, 0, rfl, by omega, by omega⟩
    · exact ⟨_, _, rfl, hn, by unfold maxLen at hm; omega⟩
  obtain ⟨A, c, rfl, hc1, hc2⟩ := hv
  rw [← append_tt (P := Try.prog) 53 53 53 2 2 i0 hi Try.underlying53 Try.underlying53] at hr
  have HR := hide h2
  have hob : ∀ n' c', (Value.slice A n' c').ownBlock = (Value.slice A n c).ownBlock := fun n' c' => by cases A <;> rfl
  have HG : Hid (∀ n' c', w.grownBy w' (Value.slice A n' c').ownBlock) := hide fun n' c' => by rw [hob]; exact h3
  have HO : Hid (∀ n' c', v'.ownBlock = (Value.slice A n' c').ownBlock ∨ v'.ownBlock = some w.heap.size) := hide fun n' c' => by rw [hob]; exact h5
  clear hob h h2 h3 h5 hx hnews hz0 hz1 hz2 hi hxl h1x hbase
  go_enter Try.func36, Try.ntmps36
  go_wp2_with (first | (at_builtin; refine wpList_append_eq rfl _ _ 53 53 rfl _ _ rfl rfl (hr) ?_) | fail)
  all_goals (go_ret; exact ⟨_, rfl, HR.out, HG.out _ _, HO.out _ _⟩)
set_option maxHeartbeats 8000000 in
theorem insI_shift (w : World) (base vb g i n cap : Nat) (xs x cur : List Value) (hg : w.heap[g]? = some (.cells cur.toArray 2 (0, 0))) (hcl : cur.length = cap * 1) (hxs : cur.take (n * 1) = xs) (hx : w.heap[vb]? = some (.cells x.toArray 2 (0, 0))) (hxl : x.length = 1) (h1x : ∀ u ∈ x, u.oneCell' = true) (h1 : ∀ u ∈ xs, u.oneCell' = true)
    (hne : g ≠ vb) (hi : i < n) (hn : n + 1 ≤ cap) (hc : cap ≤ 9223372036854775807) :
    Calls Try.prog 36 #[.slice (some ⟨g, 0, none⟩) n cap, .int .i64 i, .slice (some ⟨vb, 0, none⟩) 1 1] w fun e w' => e = .returned (.slice (some ⟨g, 0, none⟩) (n + 1) cap) ∧ w.grownBy w' (some g) ∧
      w'.heap[g]? = some (.cells (splK (splK cur ((i + 1) * 1) (xs.drop (i * 1))) (i * 1) x).toArray 2 (0, 0)) := by
  have hs : (Try.prog.info? 2).map (·.size) = some 1 := by kernel_rfl
  have hxsl : xs.length = n * 1 := by rw [← hxs, List.length_take]; omega
  have hget : ∀ t, t < n * 1 → cur[t]? = xs[t]? := fun t h => by rw [← hxs, List.getElem?_take, if_pos h]
  have hdl : (xs.drop (i * 1)).length = Nat.min (n + 1 - i) (n + 1 - (i + 1)) * 1 := by
    rw [List.length_drop, hxsl, show Nat.min (n + 1 - i) (n + 1 - (i + 1)) = n - i by simp only [Nat.min_def]; split <;> omega]; omega
  have hl1 : (splK cur ((i + 1) * 1) (xs.drop (i * 1))).length = cur.length := splK_len (by rw [List.length_drop]; omega)
  obtain ⟨c1, hc1⟩ : ∃ c1, c1 = splK cur ((i + 1) * 1) (xs.drop (i * 1)) := ⟨_, rfl⟩
  obtain ⟨c2, hc2⟩ : ∃ c2, c2 = splK c1 (i * 1) x := ⟨_, rfl⟩
  have hcp1 : ∀ ty dc sc, (Builtin.copy_ #[53, 53] ty #[.slice (some ⟨g, (i + 1) * 1, none⟩) (n + 1 - (i + 1)) dc, .slice (some ⟨g, i * 1, none⟩) (n + 1 - i) sc]).run Try.prog w.drew = .ok (goInt (Nat.min (n + 1 - i) (n + 1 - (i + 1)))) (w.drew.setRow g c1.toArray) := fun ty dc sc => by
    rw [hc1]
    exact run_copy_rowk w.drew _ _ ty 2 1 g ((i + 1) * 1) _ dc ⟨g, i * 1, none⟩ _ sc cur _ _ Try.underlying53 hs hg hdl (fun j v hj => by
      rw [add_none]
      have hlt : i * 1 + j < n * 1 := by have := (List.getElem?_eq_some_iff.1 hj).1; rw [List.length_drop] at this; omega
      rw [List.getElem?_drop, ← hget _ hlt] at hj
      rw [cell_of_row w.drew g _ _ _ (0, 0) hg]; simpa using hj) (by rw [List.length_drop]; omega) (fun u hu => h1 u (List.mem_of_mem_drop hu))
  obtain ⟨W1, hW1⟩ : ∃ W1, W1 = w.drew.setRow g c1.toArray := ⟨_, rfl⟩
  have hg1 : W1.heap[g]? = some (.cells c1.toArray 2 (0, 0)) := by rw [hW1]; exact setRow_heap w.drew g _ _ _ _ hg
  have hx1 : W1.heap[vb]? = some (.cells x.toArray 2 (0, 0)) := by rw [hW1, setRow_other w.drew g vb _ (by omega)]; exact hx
  have hcp2 : ∀ (W : World), (∀ k, W.heap[k]? = W1.heap[k]?) → ∀ ty dc, (Builtin.copy_ #[53, 53] ty #[.slice (some ⟨g, i * 1, none⟩) (n + 1 - i) dc, .slice (some ⟨vb, 0, none⟩) 1 1]).run Try.prog W = .ok (goInt (Nat.min 1 (n + 1 - i))) (W.setRow g c2.toArray) := fun W hW ty dc => by
    rw [hc2]
    exact run_copy_rowk W _ _ ty 2 1 g (i * 1) _ dc ⟨vb, 0, none⟩ _ 1 c1 _ x Try.underlying53 hs ((hW g).trans hg1) (by rw [hxl, show Nat.min 1 (n + 1 - i) = 1 by simp only [Nat.min_def]; split <;> omega]) (fun j v hj => by
      rw [add_none, cell_of_row W vb _ _ _ (0, 0) ((hW vb).trans hx1)]; simpa using hj) (by rw [hc1, hl1, hxl]; omega) h1x
  have hov : ∀ lb cb, (callFunc 39 #[.slice (some ⟨vb, 0, none⟩) 1 1, .slice (some ⟨g, (i + 1) * 1, none⟩) lb cb]).run Try.prog w = .ok (.value (.bool false)) w := fun lb cb => by
    rw [run_callFunc_extern Try.func39 (by kernel_rfl) (by kernel_rfl) (by kernel_rfl) (e := Extern.SlicesOverlaps.overlaps #[53, 53] #[4]) (by kernel_rfl),
      Lib.run_overlaps_apart w 53 4 2 Try.underlying53 1 Try.sizeOf2 ⟨vb, 0, none⟩ ⟨g, (i + 1) * 1, none⟩ 1 1 lb cb (by simpa using hne.symm) 2 2 x.length cur.length (by simp [World.shape?, hx]) (by simp [World.shape?, hg]) (by omega) (by simp [World.frozen?, hx]) (by simp [World.frozen?, hx])]
    rfl
  have HF : Hid (∀ W : World, (∀ k, W.heap[k]? = W1.heap[k]?) → W.os = w.os → W.tape = w.tape → W.output = w.output → W.heap.size = w.heap.size → w.grownBy (W.setRow g c2.toArray) (some g) ∧ (W.setRow g c2.toArray).heap[g]? = some (.cells c2.toArray 2 (0, 0))) := hide fun W hW h1 h2 h3 h4 => by
    refine ⟨⟨h1, h2, h3, by simp [h4], fun k hk hne => ?_⟩, setRow_heap W g _ _ _ _ ((hW g).trans hg1)⟩
    have : k ≠ g := fun e => hne (by rw [e])
    rw [setRow_other W g k _ this, hW, hW1, setRow_other w.drew g k _ this]; rfl
  have hb2 : ¬ (cap = i + 1) := by omega
  have hb4 : ¬ (cap = i) := by omega
  have hz2 : ¬ ((i : Int) = (n : Int)) := by omega
  have hb1 : (0 : Int) ≤ (i : Int) + 1 := by omega
  have hin : i ≤ n := by omega
  have hb3 : (i : Int) ≤ (n : Int) + 1 := by omega
  have hw1 : IntKind.i64.wrap ((i : Int) + 1) = (i : Int) + 1 := by rw [IntKind.wrap_i64]; omega
  have hw2 : IntKind.i64.wrap ((n : Int) + 1) = (n : Int) + 1 := by rw [IntKind.wrap_i64]; omega
  have htn : ((i : Int) + 1).toNat = i + 1 := by omega
  have htm : ((n : Int) + 1).toNat = n + 1 := by omega
  have hm1 : i * 1 + 1 = (i + 1) * 1 := by omega
  rw [← hc1, ← hc2]
  have HI := hide (show i < n ∧ n + 1 ≤ cap ∧ cap ≤ 9223372036854775807 from ⟨hi, hn, hc⟩)
  rw [← hW1] at hcp1
  have hcp1' : ∀ ty, (Builtin.copy_ #[53, 53] ty #[.slice (some ⟨g, i + 1, none⟩) (n - i) (cap - (i + 1)), .slice (some ⟨g, i, none⟩) (n + 1 - i) (cap - i)]).run Try.prog w.drew = .ok (goInt ((n - i : Nat) : Int)) W1 := fun ty => by
    have := hcp1 ty (cap - (i + 1)) (cap - i)
    rw [show n + 1 - (i + 1) = n - i by omega, show Nat.min (n + 1 - i) (n - i) = n - i by simp only [Nat.min_def]; split <;> omega] at this
    simp only [Nat.mul_one] at this
    exact this
  have hcp2' : ∀ (W : World), (∀ k, W.heap[k]? = W1.heap[k]?) → ∀ ty, (Builtin.copy_ #[53, 53] ty #[.slice (some ⟨g, i, none⟩) (n + 1 - i) (cap - i), .slice (some ⟨vb, 0, none⟩) 1 1]).run Try.prog W = .ok (goInt (Nat.min 1 (n + 1 - i))) (W.setRow g c2.toArray) := fun W hW ty => by
    have := hcp2 W hW ty (cap - i)
    simp only [Nat.mul_one] at this
    exact this
  have hov' : (callFunc 39 #[.slice (some ⟨vb, 0, none⟩) 1 1, .slice (some ⟨g, i + 1, none⟩) (n - i) (cap - (i + 1))]).run Try.prog w = .ok (.value (.bool false)) w := by
    have := hov (n - i) (cap - (i + 1))
    simp only [Nat.mul_one] at this
    exact this
  have HW : Hid (W1.os = w.os ∧ W1.tape = w.tape ∧ W1.output = w.output ∧ W1.heap.size = w.heap.size) := hide (by rw [hW1]; exact ⟨rfl, rfl, rfl, by simp⟩)
  clear hcp1 hcp2 hov
  have hg' := hide hg
  have hx' := hide hx
  clear hW1 hc1 hc2 hdl hl1 hget hxs hcl hxsl hs h1 h1x hxl hg1 hx1 hg hx
  go_enter Try.func36, Try.ntmps36
  go_wp2_with (first | (simp only [hov']) | fail)
  go_region_law (refine step_copy_eq rfl _ _ 53 53 rfl _ _ (by simp [Act.eval, Act.put]) (by simp [Act.eval, Act.put]) (hcp1' _) ?_)
  go_wp2_with (first | (at_builtin; refine wpList_copy_eq rfl _ _ 53 53 rfl _ _ rfl rfl (hcp2' _ (fun _ => rfl) _) ?_) | fail)
  all_goals go_ret
  all_goals exact ⟨rfl, HF.out _ (fun _ => rfl) HW.out.1 HW.out.2.1 HW.out.2.2.1 HW.out.2.2.2⟩

set_option maxHeartbeats 4000000 in
theorem insD_end (w : World) (base vb n : Nat) (v : Value) (xs x : List Value) (h : w.ownsRow base 43 2 v n xs) (hx : w.heap[vb]? = some (.cells x.toArray 43 (0, 0))) (hxl : x.length = 2) (h1x : ∀ u ∈ x, u.oneCell' = true)
    (hn : n ≤ 1000000) (hbase : base ≤ w.heap.size) :
    Calls Try.prog 65 #[v, .int .i64 n, .slice (some ⟨vb, 0, none⟩) 1 1] w fun e w' => ∃ v', e = .returned v' ∧ w'.ownsRow base 43 2 v' (n + 1) (xs ++ x) ∧ w.grownBy w' v.ownBlock ∧ (v'.ownBlock = v.ownBlock ∨ v'.ownBlock = some w.heap.size) := by
  obtain ⟨i0, hi, hz0, hz1, hz2⟩ := info_parts info_due
  have hnews : ∀ j u, x[j]? = some u → w.cell? ((⟨vb, 0, none⟩ : Addr).add j) = some u := fun j u hj => by
    rw [add_none, cell_of_row w vb (0 + j) _ _ (0, 0) hx]; simpa using hj
  obtain ⟨v', w', hr, h2, h3, -, h5⟩ := run_append_own_at (P := Try.prog) w base 63 63 43 i0 _ 2 16 Try.underlying63 hi hz0 hz1 hz2 rfl (by omega) v n xs h ⟨vb, 0, none⟩ 1 1 x (by rw [hxl]) hnews h1x (by unfold maxLen; omega) (by omega) hbase
  have hv : ∃ A c, v = .slice A n c ∧ n ≤ c ∧ c ≤ 9223372036854775807 := by
    rcases h.2 with ⟨rfl, rfl⟩ | ⟨g, cap, cur, rfl, _, _, hn, hm, _⟩
    · exact ⟨none, 0, rfl, by omega, by omega⟩
    · exact ⟨_, _, rfl, hn, by unfold maxLen at hm; omega⟩
  obtain ⟨A, c, rfl, hc1, hc2⟩ := hv
  rw [← append_tt (P := Try.prog) 63 34 63 43 43 i0 hi Try.underlying63 Try.underlying34] at hr
  have HR := hide h2
  have hob : ∀ n' c', (Value.slice A n' c').ownBlock = (Value.slice A n c).ownBlock := fun n' c' => by cases A <;> rfl
  have HG : Hid (∀ n' c', w.grownBy w' (Value.slice A n' c').ownBlock) := hide fun n' c' => by rw [hob]; exact h3
  have HO : Hid (∀ n' c', v'.ownBlock = (Value.slice A n' c').ownBlock ∨ v'.ownBlock = some w.heap.size) := hide fun n' c' => by rw [hob]; exact h5
  clear hob h h2 h3 h5 hx hnews hz0 hz1 hz2 hi hxl h1x hbase
  go_enter Try.func65, Try.ntmps65
  go_wp2_with (first | (at_builtin; refine wpList_append_eq rfl _ _ 63 34 rfl _ _ rfl rfl (hr) ?_) | fail)
  all_goals (go_ret; exact ⟨_, rfl, HR.out, HG.out _ _, HO.out _ _⟩)
set_option maxHeartbeats 8000000 in
theorem insD_shift (w : World) (base vb g i n cap : Nat) (xs x cur : List Value) (hg : w.heap[g]? = some (.cells cur.toArray 43 (0, 0))) (hcl : cur.length = cap * 2) (hxs : cur.take (n * 2) = xs) (hx : w.heap[vb]? = some (.cells x.toArray 43 (0, 0))) (hxl : x.length = 2) (h1x : ∀ u ∈ x, u.oneCell' = true) (h1 : ∀ u ∈ xs, u.oneCell' = true)
    (hne : g ≠ vb) (hi : i < n) (hn : n + 1 ≤ cap) (hc : cap ≤ 9223372036854775807) :
    Calls Try.prog 65 #[.slice (some ⟨g, 0, none⟩) n cap, .int .i64 i, .slice (some ⟨vb, 0, none⟩) 1 1] w fun e w' => e = .returned (.slice (some ⟨g, 0, none⟩) (n + 1) cap) ∧ w.grownBy w' (some g) ∧
      w'.heap[g]? = some (.cells (splK (splK cur ((i + 1) * 2) (xs.drop (i * 2))) (i * 2) x).toArray 43 (0, 0)) := by
  have hs : (Try.prog.info? 43).map (·.size) = some 2 := by kernel_rfl
  have hxsl : xs.length = n * 2 := by rw [← hxs, List.length_take]; omega
  have hget : ∀ t, t < n * 2 → cur[t]? = xs[t]? := fun t h => by rw [← hxs, List.getElem?_take, if_pos h]
  have hdl : (xs.drop (i * 2)).length = Nat.min (n + 1 - i) (n + 1 - (i + 1)) * 2 := by
    rw [List.length_drop, hxsl, show Nat.min (n + 1 - i) (n + 1 - (i + 1)) = n - i by simp only [Nat.min_def]; split <;> omega]; omega
  have hl1 : (splK cur ((i + 1) * 2) (xs.drop (i * 2))).length = cur.length := splK_len (by rw [List.length_drop]; omega)
  obtain ⟨c1, hc1⟩ : ∃ c1, c1 = splK cur ((i + 1) * 2) (xs.drop (i * 2)) := ⟨_, rfl⟩
  obtain ⟨c2, hc2⟩ : ∃ c2, c2 = splK c1 (i * 2) x := ⟨_, rfl⟩
  have hcp1 : ∀ ty dc sc, (Builtin.copy_ #[63, 63] ty #[.slice (some ⟨g, (i + 1) * 2, none⟩) (n + 1 - (i + 1)) dc, .slice (some ⟨g, i * 2, none⟩) (n + 1 - i) sc]).run Try.prog w.drew = .ok (goInt (Nat.min (n + 1 - i) (n + 1 - (i + 1)))) (w.drew.setRow g c1.toArray) := fun ty dc sc => by
    rw [hc1]
    exact run_copy_rowk w.drew _ _ ty 43 2 g ((i + 1) * 2) _ dc ⟨g, i * 2, none⟩ _ sc cur _ _ Try.underlying63 hs hg hdl (fun j v hj => by
      rw [add_none]
      have hlt : i * 2 + j < n * 2 := by have := (List.getElem?_eq_some_iff.1 hj).1; rw [List.length_drop] at this; omega
      rw [List.getElem?_drop, ← hget _ hlt] at hj
      rw [cell_of_row w.drew g _ _ _ (0, 0) hg]; simpa using hj) (by rw [List.length_drop]; omega) (fun u hu => h1 u (List.mem_of_mem_drop hu))
  obtain ⟨W1, hW1⟩ : ∃ W1, W1 = w.drew.setRow g c1.toArray := ⟨_, rfl⟩
  have hg1 : W1.heap[g]? = some (.cells c1.toArray 43 (0, 0)) := by rw [hW1]; exact setRow_heap w.drew g _ _ _ _ hg
  have hx1 : W1.heap[vb]? = some (.cells x.toArray 43 (0, 0)) := by rw [hW1, setRow_other w.drew g vb _ (by omega)]; exact hx
  have hcp2 : ∀ (W : World), (∀ k, W.heap[k]? = W1.heap[k]?) → ∀ ty dc, (Builtin.copy_ #[63, 34] ty #[.slice (some ⟨g, i * 2, none⟩) (n + 1 - i) dc, .slice (some ⟨vb, 0, none⟩) 1 1]).run Try.prog W = .ok (goInt (Nat.min 1 (n + 1 - i))) (W.setRow g c2.toArray) := fun W hW ty dc => by
    rw [hc2]
    exact run_copy_rowk W _ _ ty 43 2 g (i * 2) _ dc ⟨vb, 0, none⟩ _ 1 c1 _ x Try.underlying63 hs ((hW g).trans hg1) (by rw [hxl, show Nat.min 1 (n + 1 - i) = 1 by simp only [Nat.min_def]; split <;> omega]) (fun j v hj => by
      rw [add_none, cell_of_row W vb _ _ _ (0, 0) ((hW vb).trans hx1)]; simpa using hj) (by rw [hc1, hl1, hxl]; omega) h1x
  have hov : ∀ lb cb, (callFunc 68 #[.slice (some ⟨vb, 0, none⟩) 1 1, .slice (some ⟨g, (i + 1) * 2, none⟩) lb cb]).run Try.prog w = .ok (.value (.bool false)) w := fun lb cb => by
    rw [run_callFunc_extern Try.func68 (by kernel_rfl) (by kernel_rfl) (by kernel_rfl) (e := Extern.SlicesOverlaps.overlaps #[34, 34] #[4]) (by kernel_rfl),
      Lib.run_overlaps_apart w 34 4 43 Try.underlying34 2 Try.sizeOf43 ⟨vb, 0, none⟩ ⟨g, (i + 1) * 2, none⟩ 1 1 lb cb (by simpa using hne.symm) 43 43 x.length cur.length (by simp [World.shape?, hx]) (by simp [World.shape?, hg]) (by omega) (by simp [World.frozen?, hx]) (by simp [World.frozen?, hx])]
    rfl
  have HF : Hid (∀ W : World, (∀ k, W.heap[k]? = W1.heap[k]?) → W.os = w.os → W.tape = w.tape → W.output = w.output → W.heap.size = w.heap.size → w.grownBy (W.setRow g c2.toArray) (some g) ∧ (W.setRow g c2.toArray).heap[g]? = some (.cells c2.toArray 43 (0, 0))) := hide fun W hW h1 h2 h3 h4 => by
    refine ⟨⟨h1, h2, h3, by simp [h4], fun k hk hne => ?_⟩, setRow_heap W g _ _ _ _ ((hW g).trans hg1)⟩
    have : k ≠ g := fun e => hne (by rw [e])
    rw [setRow_other W g k _ this, hW, hW1, setRow_other w.drew g k _ this]; rfl
  have hb2 : ¬ (cap = i + 1) := by omega
  have hb4 : ¬ (cap = i) := by omega
  have hz2 : ¬ ((i : Int) = (n : Int)) := by omega
  have hb1 : (0 : Int) ≤ (i : Int) + 1 := by omega
  have hin : i ≤ n := by omega
  have hb3 : (i : Int) ≤ (n : Int) + 1 := by omega
  have hw1 : IntKind.i64.wrap ((i : Int) + 1) = (i : Int) + 1 := by rw [IntKind.wrap_i64]; omega
  have hw2 : IntKind.i64.wrap ((n : Int) + 1) = (n : Int) + 1 := by rw [IntKind.wrap_i64]; omega
  have htn : ((i : Int) + 1).toNat = i + 1 := by omega
  have htm : ((n : Int) + 1).toNat = n + 1 := by omega
  have hm1 : i * 2 + 2 = (i + 1) * 2 := by omega
  rw [← hc1, ← hc2]
  have HI := hide (show i < n ∧ n + 1 ≤ cap ∧ cap ≤ 9223372036854775807 from ⟨hi, hn, hc⟩)
  rw [← hW1] at hcp1
  have hcp1' : ∀ ty, (Builtin.copy_ #[63, 63] ty #[.slice (some ⟨g, (i + 1) * 2, none⟩) (n - i) (cap - (i + 1)), .slice (some ⟨g, i * 2, none⟩) (n + 1 - i) (cap - i)]).run Try.prog w.drew = .ok (goInt ((n - i : Nat) : Int)) W1 := fun ty => by
    have := hcp1 ty (cap - (i + 1)) (cap - i)
    rw [show n + 1 - (i + 1) = n - i by omega, show Nat.min (n + 1 - i) (n - i) = n - i by simp only [Nat.min_def]; split <;> omega] at this
    skip
    exact this
  have hcp2' : ∀ (W : World), (∀ k, W.heap[k]? = W1.heap[k]?) → ∀ ty, (Builtin.copy_ #[63, 34] ty #[.slice (some ⟨g, i * 2, none⟩) (n + 1 - i) (cap - i), .slice (some ⟨vb, 0, none⟩) 1 1]).run Try.prog W = .ok (goInt (Nat.min 1 (n + 1 - i))) (W.setRow g c2.toArray) := fun W hW ty => by
    have := hcp2 W hW ty (cap - i)
    skip
    exact this
  have hov' : (callFunc 68 #[.slice (some ⟨vb, 0, none⟩) 1 1, .slice (some ⟨g, (i + 1) * 2, none⟩) (n - i) (cap - (i + 1))]).run Try.prog w = .ok (.value (.bool false)) w := by
    have := hov (n - i) (cap - (i + 1))
    skip
    exact this
  have HW : Hid (W1.os = w.os ∧ W1.tape = w.tape ∧ W1.output = w.output ∧ W1.heap.size = w.heap.size) := hide (by rw [hW1]; exact ⟨rfl, rfl, rfl, by simp⟩)
  clear hcp1 hcp2 hov
  have hg' := hide hg
  have hx' := hide hx
  clear hW1 hc1 hc2 hdl hl1 hget hxs hcl hxsl hs h1 h1x hxl hg1 hx1 hg hx
  go_enter Try.func65, Try.ntmps65
  go_wp2_with (first | (simp only [hov']) | fail)
  go_region_law (refine step_copy_eq rfl _ _ 63 63 rfl _ _ (by simp [Act.eval, Act.put]) (by simp [Act.eval, Act.put]) (hcp1' _) ?_)
  go_wp2_with (first | (at_builtin; refine wpList_copy_eq rfl _ _ 63 34 rfl _ _ rfl rfl (hcp2' _ (fun _ => rfl) _) ?_) | fail)
  all_goals go_ret
  all_goals exact ⟨rfl, HF.out _ (fun _ => rfl) HW.out.1 HW.out.2.1 HW.out.2.2.1 HW.out.2.2.2⟩
end Go.Proofs.Ytjdedlmphghpnaa
