/-
  Whether two maps are alike: maps.Equal, Same.
-/
import Derived.Test.YtpbgbfmpjgkllaaMd
import Derived.Test.YtpbgbfmpjgkllaaMu
namespace Go.Proofs.Ytpbgbfmpjgkllaa
open Go.RowKit
set_option maxRecDepth 100000
set_option linter.unusedVariables false
set_option linter.unusedSimpArgs false
attribute [local go_sem ↓] exec_span exec_put exec_build heap_alloc_new heap_old
attribute [local go_sem] spanQ_ptr spanC_some heap_of_drew heap_of_drewN putAt_ptr putOk_ptr oldOk_some World.setRow_alloc_new rs_inf rs_view

theorem mi_fields : (Try.prog.fieldsOf 24).toList.map (fun f => (f.type, f.offset, f.name)) = [(3, 0, "State"), (2, 1, "Inc")] := by kernel_rfl
theorem mi_under : Try.prog.underlying 24 = some (.struct (Try.prog.fieldsOf 24)) := by kernel_rfl
theorem mi_held : Try.prog.stoodInHeld 24 = false := by kernel_rfl
theorem equalIn_inf (d : Nat) (w : World) (s i t j : Int) : (Op.equalIn (d + 5) 24 (.agg #[.int .i64 s, .int .i64 i]) (.agg #[.int .i64 t, .int .i64 j])).run Try.prog w = .ok (s == t && i == j) w := by
  rw [run_equalIn_struct w (d + 4) 24 _ _ mi_under mi_held]
  obtain ⟨f0, f1, hfs, e0, e1⟩ := list_two2 mi_fields
  rw [hfs]
  simp only [Prod.mk.injEq] at e0 e1
  obtain ⟨t0, o0, n0⟩ := e0
  obtain ⟨t1, o1, n1⟩ := e1
  simp only [Op.eqFields, t0, o0, n0, t1, o1, n1]
  rw [if_pos (by decide), if_pos (by decide)]
  have E0 := run_equalIn_int (P := Try.prog) w (d + 3) 3 .i64 .i64 s t Try.underlying3
  have E1 := run_equalIn_int (P := Try.prog) w (d + 3) 2 .i64 .i64 i j Try.underlying2
  have a0 := pt_int 3 .i64 Try.underlying3 #[.int .i64 s, .int .i64 i] 0 s rfl w
  have b0 := pt_int 3 .i64 Try.underlying3 #[.int .i64 t, .int .i64 j] 0 t rfl w
  have a1 := pt_int 2 .i64 Try.underlying2 #[.int .i64 s, .int .i64 i] 1 i rfl w
  have b1 := pt_int 2 .i64 Try.underlying2 #[.int .i64 t, .int .i64 j] 1 j rfl w
  simp only [Sem.run_bind, a0, b0, Result.andThen_ok, E0]
  cases (s == t)
  · simp
  · simp only [Bool.not_true, Bool.false_eq_true, if_false, Bool.true_and, Sem.run_bind, a1, b1, Result.andThen_ok, E1]
    cases (i == j) <;> simp
theorem neq_inf (w : World) (s i t j : Int) : (binOp .neq 24 (.agg #[.int .i64 s, .int .i64 i]) (.agg #[.int .i64 t, .int .i64 j])).run Try.prog w = .ok (.bool (!(s == t && i == j))) w := by
  rw [run_neq_struct, equalIn_inf 9995 w s i t j]
  rfl
theorem mem_seqM {l : List (Int × Int)} {k : Int} {v : Value} : ∀ {i : Nat}, (k, v) ∈ seqL infV i l → ∃ j, ∃ h : j < l.length, k = ((i + j : Nat) : Int) ∧ v = infV l[j] := by
  induction l with
  | nil => intro i h; simp [seqL] at h
  | cons a t ih =>
    intro i h
    unfold seqL at h
    rcases List.mem_cons.1 h with h | h
    · simp only [Prod.mk.injEq] at h
      exact ⟨0, by simp, by simpa using h.1, by simpa using h.2⟩
    · obtain ⟨j, hj, e1, e2⟩ := ih h
      exact ⟨j + 1, by simpa using hj, by rw [e1]; omega, by simpa using e2⟩
theorem mem_seqM2 {l : List (Int × Int)} : ∀ {i j : Nat} (h : j < l.length), (((i + j : Nat) : Int), infV l[j]) ∈ seqL infV i l := by
  induction l with
  | nil => intro i j h; simp at h
  | cons a t ih =>
    intro i j h
    unfold seqL
    cases j with
    | zero => exact List.mem_cons.2 (.inl (by simp))
    | succ j =>
      refine List.mem_cons.2 (.inr ?_)
      have := ih (i := i + 1) (j := j) (by simpa using h)
      rw [show i + (j + 1) = i + 1 + j by omega]
      simpa using this
theorem infV_inj {a b : Int × Int} (h : infV a = infV b) : a = b := by
  unfold infV infA at h
  simp at h
  exact Prod.ext h.1 h.2
/-- so is an entry of one in the other one. -/
def InM (l : List (Int × Int)) (k : Int) (v : Value) : Prop := hasV l k = true ∧ v = infV (getV l k)
theorem getV_at {l : List (Int × Int)} {j : Nat} (h : j < l.length) : getV l (j : Int) = l[j] ∧ hasV l (j : Int) = true := by
  unfold getV hasV
  rw [if_pos (by omega)]
  exact ⟨by simp [List.getD_eq_getElem?_getD, h], decide_eq_true ⟨by omega, by omega⟩⟩
theorem all_inM {l l' : List (Int × Int)} (hl : l.length = l'.length) (h : ∀ p ∈ seenL l, InM l' p.1 p.2) : l = l' := by
  refine List.ext_getElem hl fun j h1 h2 => ?_
  have := h _ (mem_seqM2 (i := 0) h1)
  rw [Nat.zero_add] at this
  have := infV_inj this.2
  rw [this, (getV_at h2).1]
theorem not_inM {l l' : List (Int × Int)} {k : Int} {v : Value} (h : (k, v) ∈ seenL l) (hn : ¬ InM l' k v) : l ≠ l' := fun e => by
  subst e
  obtain ⟨j, hj, e1, e2⟩ := mem_seqM h
  rw [Nat.zero_add] at e1
  subst e1
  exact hn ⟨(getV_at hj).2, by rw [(getV_at hj).1, e2]⟩
theorem lookM {w : World} {b : Nat} {l : List (Int × Int)} (h : MapS w b (seenL l)) (k : Int) : (Instr.lookup 73 (.map (some b)) (.int .i64 k) true).run Try.prog w = .ok (.tuple #[infV (getV l k), .bool (hasV l k)]) w := by
  have := h.look (P := Try.prog) Try.underlying73 Try.underlying3 (zero_inf w) k true
  rw [this, look_get, look_has]; rfl
theorem lenM {w : World} {b : Nat} {l : List (Int × Int)} (h : MapS w b (seenL l)) (ty : TypeId) : (Builtin.len_ #[73] ty #[.map (some b)]).run Try.prog w = .ok (.int .i64 (l.length : Int)) w := by
  obtain ⟨es, c, hb, hr, -⟩ := h
  have := run_lenM (P := Try.prog) Try.underlying73 hb hr ty
  rw [this, seenL, seq_len]
set_option maxHeartbeats 8000000 in
theorem mapsEqual_any (w : World) (b1 b2 : Nat) (l1 l2 : List (Int × Int)) (h1 : MapS w b1 (seenL l1)) (h2 : MapS w b2 (seenL l2)) :
    Calls Try.prog 45 #[.map (some b1), .map (some b2)] w (RetV w (.bool (decide (l1 = l2)))) := by
  have H1 := hide h1
  have H2 := hide h2
  have hl1 := lenM h1
  have hl2 := lenM h2
  have HF : Hid (l1 ≠ l2 → decide (l1 = l2) = false) := hide fun h => decide_eq_false h
  have HT : Hid (l1 = l2 → decide (l1 = l2) = true) := hide fun h => decide_eq_true h
  generalize decide (l1 = l2) = D at HF HT ⊢
  clear h1 h2
  go_enter Try.func45, Try.ntmps45
  by_cases hn : l1.length = l2.length
  · have HN := hide hn
    go_wp2_with (at_range; refine wpList_rangeS _ rfl _ 73 3 24 rfl Try.underlying73 b1 _ (InM l2) rfl H1.out ?_; intro w1 hI0 hb0 hs0)
    have HB0 := hide hb0
    have HI0 := hide hI0
    have HS0 := hide hs0
    obtain ⟨r, hr⟩ : ∃ r, r = w.heap.size := ⟨_, rfl⟩
    rw [← hr] at HI0 ⊢
    have HR := hide hr
    clear hb0 hI0 hs0 hr hl1 hl2 hn
    go_frame
    go_loopw [5] (fun _ wr => ∃ n, Hid (IterS wr b1 r (seenL l1) (InM l2) n) ∧ Hid (Below w.heap.size w wr)) (fun _ wr => wr.rangeLeft b1 r)
    case atStart => exact ⟨_, HI0, HB0⟩
    case round =>
      obtain ⟨n, hI, hbel⟩ := hrel
      have hleft := hI.out.left
      have HLF := hide hleft
      clear hleft
      go_wp2_with (at_next; refine wpList_nextS _ rfl _ rfl b1 r _ _ n rfl hI.out ?_ ?_)
      · intro hn0 hall
        have HA := hide (all_inM HN.out (fun p hp => hall p.1 p.2 hp))
        clear hn0 hall
        go_wp2
        go_ret
        rw [HT.out HA.out]
        exact ⟨rfl, hbel.out⟩
      · intro k v w2 n' hkv hI2 hlt hg2 hs2 hen
        obtain ⟨j0, hj0, -, hv⟩ := mem_seqM hkv
        obtain ⟨⟨s, i⟩, hsi⟩ : ∃ p, p = l1[j0] := ⟨_, rfl⟩
        rw [← hsi] at hv
        subst hv
        have HKV := hide hkv
        have HI2 := hide hI2
        have HB2 := hide (below_turn hbel.out hg2 (by rw [HR.out]; exact Nat.le_refl _))
        have HLT := hide hlt
        unfold infV infA at hen ⊢
        dsimp only at hen ⊢
        clear hkv hI2 hlt hg2 hs2 hj0 hsi hI hbel
        have hax : allOne #[Value.int .i64 s, Value.int .i64 i] = true := by simp [allOne, Value.oneCell']
        go_upto_region 6 with (fail)
        obtain ⟨w3, hw3, r_x, z3, b3⟩ := alloc_nam w2 (.cells #[.int .i64 s, .int .i64 i] 24)
        rw [hw3]
        have HB3 := hide (HB2.out.trans (b3.mono HB2.out.size))
        have HI3 := hide (HI2.out.of_heap (fun i hi => b3.block i hi))
        have LX := hide (show w2.heap.size < w3.heap.size by omega)
        obtain ⟨gx, hgx⟩ : ∃ g, g = w2.heap.size := ⟨_, rfl⟩
        rw [← hgx] at r_x LX ⊢
        have hlk := lookM (H2.out.of_heap (HB3.out.block b2 H2.out.lt)) k
        clear hw3 z3 b3 hgx hen HB2 HI2
        have HIN : Hid (hasV l2 k = true → infV (s, i) = infV (getV l2 k) → InM l2 k (infV (s, i))) := hide fun h h' => ⟨h, h'⟩
        have HNI : Hid (hasV l2 k = false ∨ infV (s, i) ≠ infV (getV l2 k) → ¬ InM l2 k (infV (s, i))) := hide fun h hc => h.elim (fun e => by rw [hc.1] at e; cases e) (fun e => e hc.2)
        obtain ⟨⟨t, j⟩, hy⟩ : ∃ p, p = getV l2 k := ⟨_, rfl⟩
        obtain ⟨q, hq⟩ : ∃ q, q = hasV l2 k := ⟨_, rfl⟩
        rw [← hy, ← hq] at hlk HIN HNI
        clear hy hq
        unfold infV infA at hlk
        dsimp only at hlk
        have hay : allOne #[Value.int .i64 t, Value.int .i64 j] = true := by simp [allOne, Value.oneCell']
        go_upto_region 7 with (fail)
        obtain ⟨w4, hw4, r_y, z4, b4⟩ := alloc_nam w3 (.cells #[.int .i64 t, .int .i64 j] 24)
        rw [hw4]
        have HB4 := hide (HB3.out.trans (b4.mono HB3.out.size))
        have HI4 := hide (HI3.out.of_heap (fun i hi => b4.block i hi))
        replace r_x := (b4.block gx LX.out).trans r_x
        obtain ⟨gy, hgy⟩ : ∃ g, g = w3.heap.size := ⟨_, rfl⟩
        rw [← hgy] at r_y ⊢
        have hlf4 := hide HI4.out.left
        have hneq := fun W => neq_inf W s i t j
        obtain ⟨u, hu⟩ : ∃ u, u = (s == t && i == j) := ⟨_, rfl⟩
        have HU1 : Hid (u = true → infV (s, i) = infV (t, j)) := hide fun e => by
          rw [e] at hu
          have := hu.symm
          simp at this
          rw [this.1, this.2]
        have HU0 : Hid (u = false → infV (s, i) ≠ infV (t, j)) := hide fun e h => by
          have := infV_inj h
          simp only [Prod.mk.injEq] at this
          rw [e, this.1, this.2] at hu
          simp at hu
        rw [← hu] at hneq
        clear hw4 z4 b4 hgy hlk HB3 HI3 hu
        cases q
        · have HD := hide (HF.out (not_inM HKV.out (HNI.out (.inl (by first | rfl | trivial)))))
          go_wp2
          go_ret
          rw [HD.out]
          exact ⟨rfl, HB4.out⟩
        · cases u
          · have HD := hide (HF.out (not_inM HKV.out (HNI.out (.inr (HU0.out (by first | rfl | trivial))))))
            go_wp2
            go_ret
            rw [HD.out]
            exact ⟨rfl, HB4.out⟩
          · have HG := hide (HIN.out (by first | rfl | trivial) (HU1.out (by first | rfl | trivial)))
            go_wp2
            go_roundw
            case rel => exact ⟨_, hide (HI4.out.mono (fun k' v' h => h.elim (fun e => by rw [e.1, e.2]; exact HG.out) id)), HB4⟩
            case measure => rw [hlf4.out, HLF.out]; exact HLT.out
  · have hne : l1 ≠ l2 := fun e => hn (by rw [e])
    have hni : ((l1.length : Int) == (l2.length : Int)) = false := by simp; omega
    have hni' : ((l1.length : Int) != (l2.length : Int)) = true := by simp; omega
    go_wp2
    go_ret
    rw [HF.out hne]
    exact ⟨rfl, Below.refl _ _⟩
set_option maxHeartbeats 4000000 in
theorem sameM_any (w : World) (g1 b1 g2 b2 : Nat) (m1 m2 : Int) (l1 l2 : List (Int × Int)) (h1 : ViewS w g1 b1 m1 l1) (h2 : ViewS w g2 b2 m2 l2) :
    Calls Try.prog 26 #[.pointer (some ⟨g1, 0, none⟩), .pointer (some ⟨g2, 0, none⟩)] w (RetV w (.bool (decide (l1 = l2)))) := by
  have KE := hide (fun p : BW w => mapsEqual_any p.w b1 b2 l1 l2 (h1.bw p).map (h2.bw p).map)
  have c1 := fun p : BW w => (h1.bw p).cells.2
  have c2 := fun p : BW w => (h2.bw p).cells.2
  generalize decide (l1 = l2) = D at KE ⊢
  clear h1 h2
  go_enter Try.func26, Try.ntmps26
  go_upto_region 3 with (fail)
  first | refine wp_region_belowS w (Below.refl _ _) ?_ | refine wp_region_below w (Below.refl _ _) (by kernel_rfl) (by kernel_rfl) ?_
  repeat
    first
    | (go_big_quiet_step (first
    | ((go_at_call 45; with_reducible exact Calls.bel (KE.out _)))
    | fail))
    | (go_big_quiet_want; apply quiet_span; (intro p; go_simp; rfl); (try simp only [Act.put, List.setIfInBounds_toArray, List.set_cons_zero, List.set_cons_succ]); go_big_quiet_on)
  refine wpQuiet_nil ?_
  intro _ hw'
  obtain ⟨pq, hw''⟩ := hw'
  subst hw''
  have B := hide pq.below
  clear c1 c2
  go_wp2
  go_ret
  exact ⟨rfl, B.out⟩
end Go.Proofs.Ytpbgbfmpjgkllaa
