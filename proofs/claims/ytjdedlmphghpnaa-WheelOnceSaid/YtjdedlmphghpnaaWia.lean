/-
  What is due as the document has it: taken, Same.
-/
import Derived.Test.YtjdedlmphghpnaaWhz
import Derived.Laws.StructEq
namespace Go.Proofs.Ytjdedlmphghpnaa
open Go.RowKit
set_option maxRecDepth 100000
set_option linter.unusedVariables false
set_option linter.unusedSimpArgs false
attribute [local go_sem ↓] exec_span exec_put exec_build heap_alloc_new heap_old
attribute [local go_sem] spanQ_ptr spanC_some heap_of_drew heap_of_drewN putAt_ptr putOk_ptr oldOk_some World.setRow_alloc_new rs_Due built_due built_due0

theorem RowD.cells {w : World} {A : Option Addr} {l : List (Int × Int)} (h : RowD w A l) {j : Nat} {q : Int × Int} (hq : l[j]? = some q) : ∃ b, A = some ⟨b, 0, none⟩ ∧ b < w.heap.size ∧ w.cell? ⟨b, j * 2, none⟩ = some (.int .i64 q.1) ∧ w.cell? ⟨b, j * 2 + 1, none⟩ = some (.int .i64 q.2) := by
  obtain ⟨b, X, t, e, hb, hX, h1, h2⟩ := h j q hq
  have g0 : (X.extract (j * 2) (j * 2 + 2))[0]? = some (.int .i64 q.1) := by rw [h2]; rfl
  have g1 : (X.extract (j * 2) (j * 2 + 2))[1]? = some (.int .i64 q.2) := by rw [h2]; rfl
  rw [Array.getElem?_extract, if_pos (by omega), Nat.add_zero] at g0
  rw [Array.getElem?_extract, if_pos (by omega)] at g1
  exact ⟨b, e, hb, (cell_of_row w b _ X t (0, 0) hX).trans g0, (cell_of_row w b _ X t (0, 0) hX).trans g1⟩
theorem RowD.of_ref {w : World} {base n : Nat} {v : Value} {l : List (Int × Int)} {e : TypeId} (h : w.ownsRow base e 2 v n (rowD l)) : ∃ A c, v = .slice A n c ∧ n ≤ c ∧ c ≤ 9223372036854775807 ∧ l.length = n ∧ RowD w A l := by
  have hl : l.length = n := by have := h.1; rw [rowD_len] at this; omega
  rcases h.2 with ⟨rfl, rfl⟩ | ⟨g, cap, cur, rfl, hb, hg, hnc, hm, hsz, ht⟩
  · exact ⟨none, 0, rfl, by omega, by omega, hl, fun j p hj => by
      have := (List.getElem?_eq_some_iff.1 hj).1; omega⟩
  · refine ⟨_, cap, rfl, hnc, by unfold maxLen at hm; omega, hl, fun j p hj => ?_⟩
    obtain ⟨h1, h2⟩ := rowD_span ht hj
    exact ⟨g, cur, _, rfl, (Array.getElem?_eq_some_iff.1 hg).1, hg, h1, h2⟩
theorem rs_rDue : rowSize Try.prog 46 = some 2 := by kernel_rfl
theorem info_rdue : (Try.prog.info? 46).map (fun i => (i.zero, i.size, i.bytes)) = some (some (.agg #[.int .i64 0, .int .i64 0]), 2, 16) := by kernel_rfl
theorem built_rdue (a b : Int) : Try.prog.built 46 [(0, .int .i64 a), (1, .int .i64 b)] = some #[.int .i64 a, .int .i64 b] := by kernel_rfl
attribute [local go_sem] rs_rDue built_rdue
theorem rd_fields : (Try.prog.fieldsOf 46).toList.map (fun f => (f.type, f.offset, f.name)) = [(2, 0, "Id"), (2, 1, "At")] := by kernel_rfl
theorem rd_under : Try.prog.underlying 46 = some (.struct (Try.prog.fieldsOf 46)) := by kernel_rfl
theorem rd_held : Try.prog.stoodInHeld 46 = false := by kernel_rfl
theorem list_twoW {α β : Type} {g : α → β} {a b : β} : ∀ {L : List α}, L.map g = [a, b] → ∃ x y, L = [x, y] ∧ g x = a ∧ g y = b
  | [x, y], h => by simp at h; exact ⟨x, y, rfl, h⟩
  | [], h => by simp at h
  | [_], h => by simp at h
  | _ :: _ :: _ :: _, h => by simp at h
theorem pt_intW (t : TypeId) (q : IntKind) (ht : Try.prog.underlying t = some (.int q)) (X : Array Value) (o : Nat) (n : Int) (h0 : X[o]? = some (.int .i64 n)) (w : World) : (part t X o).run Try.prog w = .ok (.int .i64 n) w := by
  simp [part, isAgg, run_underlying ht, h0]
theorem equalIn_rdue (d : Nat) (w : World) (s i t j : Int) : (Op.equalIn (d + 5) 46 (.agg #[.int .i64 s, .int .i64 i]) (.agg #[.int .i64 t, .int .i64 j])).run Try.prog w = .ok (s == t && i == j) w := by
  rw [run_equalIn_struct w (d + 4) 46 _ _ rd_under rd_held]
  obtain ⟨f0, f1, hfs, e0, e1⟩ := list_twoW rd_fields
  rw [hfs]
  simp only [Prod.mk.injEq] at e0 e1
  obtain ⟨t0, o0, n0⟩ := e0
  obtain ⟨t1, o1, n1⟩ := e1
  simp only [Op.eqFields, t0, o0, n0, t1, o1, n1]
  rw [if_pos (by decide), if_pos (by decide)]
  have E0 := run_equalIn_int (P := Try.prog) w (d + 3) 2 .i64 .i64 s t Try.underlying2
  have E1 := run_equalIn_int (P := Try.prog) w (d + 3) 2 .i64 .i64 i j Try.underlying2
  have a0 := pt_intW 2 .i64 Try.underlying2 #[.int .i64 s, .int .i64 i] 0 s rfl w
  have b0 := pt_intW 2 .i64 Try.underlying2 #[.int .i64 t, .int .i64 j] 0 t rfl w
  have a1 := pt_intW 2 .i64 Try.underlying2 #[.int .i64 s, .int .i64 i] 1 i rfl w
  have b1 := pt_intW 2 .i64 Try.underlying2 #[.int .i64 t, .int .i64 j] 1 j rfl w
  simp only [Sem.run_bind, a0, b0, Result.andThen_ok, E0]
  cases (s == t)
  · simp
  · simp only [Bool.not_true, Bool.false_eq_true, if_false, Bool.true_and, Sem.run_bind, a1, b1, Result.andThen_ok, E1]
    cases (i == j) <;> simp
/-- whether two are not the same. -/
theorem neq_rdue (w : World) (s i t j : Int) : (binOp .neq 46 (.agg #[.int .i64 s, .int .i64 i]) (.agg #[.int .i64 t, .int .i64 j])).run Try.prog w = .ok (.bool (!(s == t && i == j))) w := by
  rw [run_neq_struct, equalIn_rdue 9995 w s i t j]
  rfl
set_option maxHeartbeats 4000000 in
theorem taken18_any (w : World) (A : Option Addr) (n c : Nat) (l : List (Int × Int)) (hn : l.length = n) (hrd : RowD w A l) (hb : n ≤ 100000) :
    Calls Try.prog 19 #[.slice A n c] w fun e w' => ∃ v, e = .returned v ∧ w'.ownsRow w.heap.size 46 2 v n (rowD l) ∧ Below w.heap.size w w' := by
  obtain ⟨i0, hi0, hz0, hz1, hz2⟩ := info_parts info_rdue
  have HN := hide hn
  have HRD := hide hrd
  clear hn hrd
  go_enter Try.func19, Try.ntmps19
  go_wp2
  go_loopw [3, 4] (fun sv sj wr => ∃ j : Nat, j ≤ n ∧ sj = .int .i64 (j : Int) ∧ Hid (wr.ownsRow w.heap.size 46 2 sv j (rowD (l.take j))) ∧ Hid (Below w.heap.size w wr)) (fun _ sj _ => n - (Go.RowKit.intOf sj).toNat)
  case atStart => exact ⟨0, Nat.zero_le _, rfl, hide (World.ownsRow_nil _ _ _ _), hide (Below.refl _ _)⟩
  case round =>
    obtain ⟨j, hj, rfl, HR, HB⟩ := hrel
    by_cases hlt : j < n
    · obtain ⟨q, hq⟩ : ∃ q, l[j]? = some q := ⟨_, List.getElem?_eq_getElem (by have := HN.out; omega)⟩
      obtain ⟨b, rfl, hbl, k0, k1⟩ := (HRD.out.below HB.out).cells hq
      obtain ⟨W2, hw2, r2, z2, b2⟩ := alloc_nm wr.drew (.cells #[.int .i64 q.1, .int .i64 q.2] 46)
      have r2' : W2.heap[wr.heap.size]? = some (.cells #[.int .i64 q.1, .int .i64 q.2] 46 (0, 0)) := r2
      have d0 : wr.drew.cell? ⟨b, j * 2, none⟩ = some (.int .i64 q.1) := k0
      have d1 : wr.drew.cell? ⟨b, j * 2 + 1, none⟩ = some (.int .i64 q.2) := k1
      have hown2 : W2.ownsRow w.heap.size 46 2 _ j (rowD (l.take j)) := row_bel (w := wr.drew) HR.out b2
      obtain ⟨v', w4, hap, h2, h3, h4⟩ := run_app_two W2 w.heap.size 37 46 37 i0 _ 16 Try.underlying37 hi0 hz0 hz1 hz2 rfl _ _ _ hown2 (some ⟨wr.heap.size, 0, none⟩) 1 1 [.int .i64 q.1, .int .i64 q.2] rfl
        (fun _ => ⟨wr.heap.size, 0, rfl, fun n u hu => by rw [cell_of_row W2 _ (0 + n) _ _ (0, 0) r2', Nat.zero_add]; simpa using hu⟩) (fun e => by cases e) (fun u hu => by simp at hu; rcases hu with rfl | rfl <;> rfl) (by unfold maxLen; omega) (by omega) (by have := b2.size; have := HB.out.size; have : wr.drew.heap.size = wr.heap.size := rfl; omega)
      have HR4 : Hid (w4.ownsRow w.heap.size 46 2 v' (j + 1) (rowD (l.take (j + 1)))) := hide (by
        rw [List.take_add_one, hq, Option.toList_some, rowD_app]
        exact h2)
      have HB4 : Hid (Below w.heap.size w w4) := hide ((HB.out.trans (Below.mono (show Below wr.heap.size wr W2 from ⟨b2.os, b2.tape, b2.output, b2.size, b2.block⟩) HB.out.size)).grown h3 (by have := b2.size; have := HB.out.size; have : wr.drew.heap.size = wr.heap.size := rfl; omega) (fun k hk => (hown2.lt k hk).1))
      obtain ⟨q1, q2⟩ := q
      dsimp only at *
      clear hq r2 r2' z2 b2 hown2 h2 h3 h4 hbl HR HB k0 k1
      go_wp2
      go_region_law (first | (refine step_append_eq rfl _ _ 37 37 rfl _ _ (by simp [Act.eval, Act.put]) (by simp [Act.eval, Act.put]) hap ?_) | fail)
      all_goals
        go_wp2_with fail
        exact ⟨⟨j + 1, by omega, by go_num, HR4, HB4⟩, by simp [Go.RowKit.intOf]; omega⟩
    · obtain rfl : n = j := by omega
      have HF : Hid (wr.ownsRow w.heap.size 46 2 _ n (rowD l)) := hide (by
        have := HR.out
        rwa [List.take_of_length_le (by have := HN.out; omega)] at this)
      go_wp2
      go_ret
      exact ⟨_, rfl, HF.out, HB.out⟩
set_option maxHeartbeats 4000000 in
theorem same18_any (w : World) (A B : Option Addr) (n c m d : Nat) (l k : List (Int × Int)) (hn : l.length = n) (hm : k.length = m) (hl : RowD w A l) (hk : RowD w B k) (hb : n ≤ 1000000) :
    Calls Try.prog 18 #[.slice A n c, .slice B m d] w fun e w' => e = .returned (.bool (decide (l = k))) ∧ Below w.heap.size w w' := by
  by_cases hnm : n = m
  · subst hnm
    have HN := hide hn
    have HM := hide hm
    have HL := hide hl
    have HK := hide hk
    have hneq := fun w s i t j => neq_rdue w s i t j
    clear hn hm hl hk
    go_enter Try.func18, Try.ntmps18
    go_wp2
    go_loopw [5] (fun sj wr => ∃ j : Nat, j ≤ n ∧ sj = .int .i64 (j : Int) ∧ Hid (l.take j = k.take j) ∧ Hid (Below w.heap.size w wr)) (fun sj _ => n - (Go.RowKit.intOf sj).toNat)
    case atStart => exact ⟨0, Nat.zero_le _, rfl, hide rfl, hide (Below.refl _ _)⟩
    case round =>
      obtain ⟨j, hj, rfl, HE, HB⟩ := hrel
      by_cases hlt : j < n
      · obtain ⟨q, hq⟩ : ∃ q, l[j]? = some q := ⟨_, List.getElem?_eq_getElem (by have := HN.out; omega)⟩
        obtain ⟨r, hr⟩ : ∃ r, k[j]? = some r := ⟨_, List.getElem?_eq_getElem (by have := HM.out; omega)⟩
        obtain ⟨b, X, t, rfl, hbl, hX, hX1, hX2⟩ := (HL.out.below HB.out) j q hq
        obtain ⟨b2, X2, t2, rfl, hbl2, hY, hY1, hY2⟩ := (HK.out.below HB.out) j r hr
        have HQ := hide hq
        have HR := hide hr
        have HB5 : Hid (∀ x : BW wr, Below w.heap.size w x.w) := hide fun x => HB.out.trans (x.below.mono HB.out.size)
        have i1 := fun x : BW wr => x.block hX
        have i2 := fun x : BW wr => x.block hY
        obtain ⟨q1, q2⟩ := q
        obtain ⟨r1, r2⟩ := r
        dsimp only at hX2 hY2 i1 i2 hX1 hY1
        obtain ⟨z, hz⟩ : ∃ z, z = !(q1 == r1 && q2 == r2) := ⟨_, rfl⟩
        have hne : ∀ w, (binOp .neq 46 (.agg #[.int .i64 q1, .int .i64 q2]) (.agg #[.int .i64 r1, .int .i64 r2])).run Try.prog w = .ok (.bool z) w := fun w => by rw [hz]; exact hneq w q1 q2 r1 r2
        have HZ := hide hz
        clear hq hr hbl hbl2 hX hY hneq hz
        go_upto_region 6 with (fail)
        refine wp_region_below wr (Below.refl _ _) (by kernel_rfl) (by kernel_rfl) ?_
        repeat
          first
          | (go_big_quiet_step (fail))
          | (go_big_quiet_want; apply quiet_span; (intro x; go_simp; rfl); (try simp only [Act.put, List.setIfInBounds_toArray, List.set_cons_zero, List.set_cons_succ]); go_big_quiet_on)
        refine wpQuiet_nil ?_
        intro _ hw'
        obtain ⟨x, hw2'⟩ := hw'
        subst hw2'
        have HB6 := hide (HB5.out x)
        clear i1 i2 hX1 hX2 hY1 hY2 HB5
        cases z
        · have HE2 : Hid (l.take (j + 1) = k.take (j + 1)) := hide (by
            have h := HZ.out
            simp only [Bool.false_eq, Bool.not_eq_false', Bool.and_eq_true, beq_iff_eq] at h
            rw [List.take_add_one, List.take_add_one, HE.out, HQ.out, HR.out, h.1, h.2])
          go_wp2_with fail
          go_roundw
          case rel => exact ⟨j + 1, by omega, by go_num, HE2, HB6⟩
          case measure => simp [Go.RowKit.intOf]; omega
        · have HF : Hid (decide (l = k) = false) := hide (decide_eq_false fun e => by
            have h := HZ.out
            have h1 := HQ.out
            rw [e, HR.out] at h1
            injection h1 with h1
            injection h1 with h1 h2
            subst h1 h2
            simp at h)
          go_wp2
          go_ret
          exact ⟨by rw [HF.out]; rfl, HB6.out⟩
      · obtain rfl : n = j := by omega
        have HF : Hid (decide (l = k) = true) := hide (decide_eq_true (by
          have := HE.out
          rwa [List.take_of_length_le (by have := HN.out; omega), List.take_of_length_le (by have := HM.out; omega)] at this))
        go_wp2
        go_ret
        exact ⟨by rw [HF.out]; rfl, HB.out⟩
  · have HF : Hid (decide (l = k) = false) := hide (decide_eq_false fun e => hnm (by rw [← hn, ← hm, e]))
    have hnm' : ¬ ((n : Int) = (m : Int)) := by omega
    clear hn hm hl hk hnm
    go_enter Try.func18, Try.ntmps18
    go_wp2
    go_ret
    exact ⟨by rw [HF.out]; rfl, Below.refl _ _⟩
end Go.Proofs.Ytjdedlmphghpnaa
