/-
  What is seen, as the document has it: whether two are alike; its tuple can be; the walk of TupleOf.
-/
import Derived.Test.YtcfckhdohcaffaaPof
import Derived.Test.YtcfckhdohcaffaaMtx
import Derived.Test.YtcfckhdohcaffaaTur
import Derived.Test.YtcfckhdohcaffaaNf
import Derived.Test.YtcfckhdohcaffaaLent
import Derived.Test.YtcfckhdohcaffaaQb
import Derived.Deep.RegionHeld3
namespace Go.Proofs.Ytcfckhdohcaffaa
open Go.RowKit
attribute [local go_sem ↓] exec_span exec_put exec_build heap_alloc_new heap_old heap_alloc_drew
attribute [local go_sem] spanQ_ptr spanC_some heap_of_drew heap_of_drewN rs_arr rs_ad rs_ip rs_rip rs_seg rs_rseg rs_tup rs_seen rs_rseen putAt_ptr putOk_ptr oldOk_some World.setRow_alloc_new setRow_drew
set_option maxRecDepth 100000
set_option linter.unusedVariables false
set_option linter.unusedSimpArgs false

theorem part_tup (X S : Array Value) (h1 : X.extract 0 37 = S) (w : World) : (part 52 X 0).run Try.prog w = .ok (.agg S) w := by
  have e1 : (isAgg 52).run Try.prog w = .ok true w := by kernel_rfl
  have e2 : rowSize Try.prog 52 = some 37 := rs_tup
  simp [part, e1, h1]
theorem fields_rse : (Try.prog.fieldsOf 57).toList.map (fun f => (f.type, f.offset, f.name)) = [(52, 0, "T"), (3, 37, "Flags"), (3, 38, "Size")] := by kernel_rfl
theorem under_rse : Try.prog.underlying 57 = some (.struct (Try.prog.fieldsOf 57)) := by kernel_rfl
theorem held_rse : Try.prog.stoodInHeld 57 = false := by kernel_rfl
theorem list_three {α β : Type} {g : α → β} {a b c : β} : ∀ {L : List α}, L.map g = [a, b, c] → ∃ x y z, L = [x, y, z] ∧ g x = a ∧ g y = b ∧ g z = c
  | [x, y, z], h => by simp at h; exact ⟨x, y, z, rfl, h⟩
  | [], h => by simp at h
  | [_], h => by simp at h
  | [_, _], h => by simp at h
  | _ :: _ :: _ :: _ :: _, h => by simp at h
theorem SeV.at {X : Array Value} {t : Tup} {f n : Int} (h : SeV X t f n) : X[37]? = some (.int .i64 f) ∧ X[38]? = some (.int .i64 n) := by
  rw [h.eq]
  simp only [List.getElem?_toArray, seL]
  rw [List.getElem?_append_right (by rw [len_tupL h.ls h.ld]; decide), List.getElem?_append_right (by rw [len_tupL h.ls h.ld]; decide), len_tupL h.ls h.ld]
  exact ⟨rfl, rfl⟩
set_option maxHeartbeats 1000000 in
theorem equalIn_rse (d : Nat) (w : World) (X Y : Array Value) (t : Tup) (f n : Int) (h : SeV X t f n) (h' : SeV Y t f n) : (Op.equalIn (d + 6) 57 (.agg X) (.agg Y)).run Try.prog w = .ok true w := by
  rw [run_equalIn_struct w (d + 5) 57 X Y under_rse held_rse]
  obtain ⟨f0, f1, f2, hfs, e0, e1, e2⟩ := list_three fields_rse
  rw [hfs]
  simp only [Prod.mk.injEq] at e0 e1 e2
  obtain ⟨t0, o0, n0⟩ := e0
  obtain ⟨t1, o1, n1⟩ := e1
  obtain ⟨t2, o2, n2⟩ := e2
  simp only [Op.eqFields, t0, o0, n0, t1, o1, n1, t2, o2, n2]
  rw [if_pos (by decide), if_pos (by decide), if_pos (by decide)]
  obtain ⟨a1, a2⟩ := h.at
  obtain ⟨b1, b2⟩ := h'.at
  have VT : TuV (tupL t).toArray t := ⟨rfl, h.ls, h.ld⟩
  have E1 := equalIn_tu d w _ _ t t VT VT
  rw [(sameT_iff t t).2 rfl] at E1
  have E2 := run_equalIn_int (P := Try.prog) w (d + 4) 3 .i64 .i64 f f Try.underlying3
  have E3 := run_equalIn_int (P := Try.prog) w (d + 4) 3 .i64 .i64 n n Try.underlying3
  have P1 := part_tup X _ h.tup w
  have Q1 := part_tup Y _ h'.tup w
  simp only [Sem.run_bind, P1, Q1, Result.andThen_ok, E1]
  simp only [Bool.not_true, Bool.false_eq_true, if_false, Sem.run_bind, part_int X _ _ a1, part_int Y _ _ b1, Result.andThen_ok, E2]
  simp only [beq_self_eq_true, Bool.not_true, Bool.false_eq_true, if_false, Sem.run_bind, part_int X _ _ a2, part_int Y _ _ b2, Result.andThen_ok, E3]
  simp
theorem eql_rse (w : World) (X Y : Array Value) (t : Tup) (f n : Int) (h : SeV X t f n) (h' : SeV Y t f n) : (binOp .eql 57 (.agg X) (.agg Y)).run Try.prog w = .ok (.bool true) w := by
  rw [run_eql_struct, equalIn_rse 9994 w X Y t f n h h']
  rfl

set_option maxHeartbeats 4000000 in
theorem taken6_any (w : World) (X : Array Value) (t : Tup) (f n : Int) (x : SeV X t f n) :
    Calls Try.prog 21 #[.agg X] w fun e w' => e = .returned (.agg X) ∧ Below w.heap.size w w' := by
  have hxs := x.size
  have hxo := x.one
  have hbl := built_rseT t f n x.ls x.ld
  rw [← x.eq] at hbl
  obtain ⟨XT, hXT⟩ : ∃ XT, XT = (tupL t).toArray := ⟨_, rfl⟩
  have x3 := x.tup
  rw [← hXT] at x3 hbl
  obtain ⟨W, hW⟩ : ∃ W, (w.alloc (.cells X 54)).alloc (.cells (seL tupZn 0 0).toArray 57) = W := ⟨_, rfl⟩
  obtain ⟨h1, h2, hz, hb⟩ := two_packs w X _ _ _ W hW
  obtain ⟨c37, c38⟩ := x.cells h1
  have HB := hide hb
  have HZ := hide hz
  have HW := hide hW
  have hZs : (seL tupZn 0 0).toArray.size = 39 := seZ_ok.size
  obtain ⟨Z, hZ⟩ : ∃ Z, Z = (seL tupZn 0 0).toArray := ⟨_, rfl⟩
  rw [← hZ] at h2 hZs
  clear hz hb hW hZ hXT
  go_enter Try.func21, Try.ntmps21
  go_upto_region 1 with (fail)
  change Code.wp _ _ _ _ ((w.alloc (.cells X 54)).alloc (.cells (seL tupZn 0 0).toArray 57))
  rw [HW.out]
  go_wp2
  have hrow := setRow_heap W (w.heap.size + 1) Z X _ _ h2
  refine bodyPost_ret (results_cell_row (fn := Try.f21) Try.results21 _ _ (w.heap.size + 1) 57 X (0, 0) _ rfl hrow Try.underlying57 rfl (by rw [hxs]; exact info_rseen)) rfl ?_
  exact ⟨rfl, below_setRow HB.out (by have := HZ.out; omega) _⟩

theorem right_pad {l : List UInt8} (h : l.length ≤ 4) : rightL false (pad16 l) = true := by
  have hl : (pad16 l).length = 16 := by unfold pad16; simp; omega
  have e := (right_four (pad16 l) hl).2 (fun j hj h4 => by
    simp only [pad16]
    rw [List.getElem_append_right (by omega)]
    simp)
  unfold rightL
  rw [e]; simp
/-- the tuple of what is seen can be. -/
theorem seen_right {l : List UInt8} (h : seenE l = 0) : rightT (seenT l) = true := by
  have h2 : segE (pkH l) (pkD l) = 0 := by
    unfold seenE at h
    split at h
    · next h1 => exact absurd h h1
    · exact h
  have hp : (pkH l).p = 6 ∨ (pkH l).p = 17 := by
    by_cases e6 : (pkH l).p = 6
    · exact .inl e6
    · by_cases e17 : (pkH l).p = 17
      · exact .inr e17
      · unfold segE at h2
        rw [if_neg e6, if_neg e17] at h2
        exact absurd h2 (by decide)
  have hs : rightL (pkH l).sv (pkH l).sb = true ∧ rightL (pkH l).dv (pkH l).db = true ∧ (pkH l).sv = (pkH l).dv := by
    unfold pkH
    split
    · exact ⟨right_pad (by rw [List.length_take]; omega), right_pad (by rw [List.length_take]; omega), rfl⟩
    · exact ⟨rfl, rfl, rfl⟩
  have ha : portOk (seenG l).a = true ∧ portOk (seenG l).b = true := by
    have n1 := nmB_two (pkD l) 0
    have n2 := nmB_two (pkD l) 2
    have e : (seenG l).a = (nmB (pkD l) 0 2 : Int) ∧ (seenG l).b = (nmB (pkD l) 2 2 : Int) := by
      unfold seenG gotS
      split <;> exact ⟨rfl, rfl⟩
    rw [e.1, e.2]
    unfold portOk
    constructor <;> (simp; omega)
  unfold rightT protoOk
  show (rightL (pkH l).sv (pkH l).sb && rightL (pkH l).dv (pkH l).db && (pkH l).sv == (pkH l).dv && ((pkH l).p == 6 || (pkH l).p == 17) && portOk (seenG l).a && portOk (seenG l).b) = true
  rw [hs.1, hs.2.1, hs.2.2, ha.1, ha.2]
  simpa using hp

set_option maxHeartbeats 8000000 in
theorem tupleOf_any (w : World) (A : Option Addr) (c : Nat) (l : List UInt8) (hb : Byt w w.heap.size A l) (hc : l.length ≤ c) (hn : l.length ≤ 140737488351232) :
    Calls Try.prog 5 #[.slice A l.length c] w fun e w' => e = .returned (.bool true) ∧ Below w.heap.size w w' := by
  have KL := hide (lent_any A c l w.heap.size w hc (by omega) hb (Nat.le_refl _))
  have HBY := hide hb
  have HC := hide hc
  have HN := hide hn
  obtain ⟨t, f, n, hS⟩ : ∃ (t : Tup) (f n : Int), ∀ (w1 w2 : World) (X : Array Value), (seenE l ≠ 0 → X = seZ) → (seenE l = 0 → SeV X (seenT l) (seenG l).f (l.length : Int)) → SeV X t f n ∧ (seenE l = 0 → rightT t = true) := by
    by_cases h0 : seenE l = 0
    · exact ⟨seenT l, (seenG l).f, (l.length : Int), fun _ _ X _ h => ⟨h h0, fun _ => seen_right h0⟩⟩
    · exact ⟨tupZn, 0, 0, fun _ _ X h _ => ⟨by rw [h h0]; exact seZ_ok, fun e => absurd e h0⟩⟩
  have HS := hide hS
  obtain ⟨E, hE⟩ : ∃ E, E = seenE l := ⟨_, rfl⟩
  have HE := hide hE
  clear hb hc hn hS hE
  go_enter Try.func5, Try.ntmps5
  go_wp2_with fail
  refine KL.out.mono ?_
  rintro e w1 ⟨rfl, L1, b1⟩
  have B1 : Hid (Below w.heap.size w w1) := hide b1
  have HL1 := hide L1
  have KT := tof_any w1 w1.heap.size (some ⟨w.heap.size, 0, none⟩) l (l.length + 8) (Nat.le_add_right _ _) (by have := HN.out; omega) (L1.byt L1.lt) (Nat.le_refl _)
  have HKT := hide KT
  clear KT L1 b1
  dsimp only
  go_wp2_with fail
  refine HKT.out.mono ?_
  rintro e w2 ⟨X2, rfl, b2, hz2, hv2⟩
  have V2 := (HS.out w1 w2 X2 hz2 hv2).1
  have hright := (HS.out w1 w2 X2 hz2 hv2).2
  rw [← HE.out] at hright ⊢
  have h2s := V2.size
  have h2o := V2.one
  have h20 := V2.x0
  obtain ⟨w3, hw3⟩ : ∃ w3, w2.alloc (.cells X2 54) = w3 := ⟨_, rfl⟩
  have b3 : Below w2.heap.size w2 w3 := by rw [← hw3]; exact (Below.refl _ _).alloc (Nat.le_refl _) _
  have r3 : w3.heap[w2.heap.size]? = some (.cells X2 54 (0, 0)) := by rw [← hw3]; exact heap_alloc_new w2 _
  have C3 : Hid (Below w1.heap.size w1 w3) := hide (b2.trans (b3.mono b2.size))
  have HB3 : Hid (Below w.heap.size w w3) := hide (B1.out.trans (C3.out.mono B1.out.size))
  have KR := reftof_any w3 w3.heap.size A l c HC.out HN.out ((HBY.out.below HB3.out).more HB3.out.size) (Nat.le_refl _)
  have HKR := hide KR
  have HR3 := hide r3
  have HV2 := hide V2
  have HRT := hide hright
  clear KR hz2 hv2 V2 hright b2 b3 r3 HKT
  dsimp only
  go_wp2_with fail
  refine HKR.out.mono ?_
  rintro e w4 ⟨X4, rfl, b4, hz4, hv4⟩
  have V4 := (HS.out w3 w4 X4 hz4 hv4).1
  rw [← HE.out]
  have h4s := V4.size
  have h4o := V4.one
  have h40 := V4.x0
  have heq : ∀ W', (binOp .eql 57 (.agg X2) (.agg X4)).run Try.prog W' = .ok (.bool true) W' := fun W' => eql_rse W' X2 X4 t f n HV2.out V4
  obtain ⟨w5, hw5⟩ : ∃ w5, w4.alloc (.cells X4 57) = w5 := ⟨_, rfl⟩
  have b5 : Below w4.heap.size w4 w5 := by rw [← hw5]; exact (Below.refl _ _).alloc (Nat.le_refl _) _
  have r5 : w5.heap[w4.heap.size]? = some (.cells X4 57 (0, 0)) := by rw [← hw5]; exact heap_alloc_new w4 _
  have C5 : Hid (Below w1.heap.size w1 w5) := hide (C3.out.trans ((b4.trans (b5.mono b4.size)).mono C3.out.size))
  have D5 : Below w3.heap.size w3 w5 := b4.trans (b5.mono b4.size)
  have r35 := (D5.block w2.heap.size (Array.getElem?_eq_some_iff.1 HR3.out).1).trans HR3.out
  have HKK := hide (fun (W1 : World) (b : Below w5.heap.size w5 W1) => (⟨(b.block w2.heap.size (Array.getElem?_eq_some_iff.1 r35).1).trans r35, (b.block w4.heap.size (Array.getElem?_eq_some_iff.1 r5).1).trans r5⟩ : W1.heap[w2.heap.size]? = some (.cells X2 54 (0, 0)) ∧ W1.heap[w4.heap.size]? = some (.cells X4 57 (0, 0))))
  have HBW := hide (fun (W1 : World) (b : Below w5.heap.size w5 W1) => (B1.out.trans ((C5.out.trans (b.mono C5.out.size)).mono B1.out.size) : Below w.heap.size w W1))
  have KK := hide (fun (W1 : World) (b : Below w5.heap.size w5 W1) => kept_any A c w.heap.size l w.heap.size W1 HC.out (by have := HN.out; omega) (HBY.out.below (HBW.out W1 b)) (HL1.out.below (C5.out.trans (b.mono C5.out.size)) HL1.out.lt))
  have KN := hide (fun (W1 : World) => taken6_any W1 X2 t f n HV2.out)
  obtain ⟨XT, hXT⟩ : ∃ XT, XT = (tupL t).toArray := ⟨_, rfl⟩
  have x3 := HV2.out.tup
  rw [← hXT] at x3
  have hVT : TuV XT t := ⟨hXT, HV2.out.ls, HV2.out.ld⟩
  have hts := hVT.size
  have KG := hide (fun (W1 : World) => refrighttuple_any W1 XT t hVT)
  have x5 := r35
  have y5 := r5
  have x5d : w5.drew.heap[w2.heap.size]? = some (.cells X2 54 (0, 0)) := r35
  have y5d : w5.drew.heap[w4.heap.size]? = some (.cells X4 57 (0, 0)) := r5
  clear hz4 hv4 V4 b4 b5 r5 D5 r35 HKR hXT hVT
  dsimp only
  go_upto_region 4 with (fail)
  clear hw3
  by_cases hE0 : E = 0
  · subst hE0
    have hrt := HRT.out rfl
    rw [hrt] at KG
    clear hrt
    go_region_held3 (fun w' => w'.heap[w2.heap.size]? = some (.cells X2 54 (0, 0)) ∧ w'.heap[w4.heap.size]? = some (.cells X4 57 (0, 0)))
      (first | exact ⟨x5, y5⟩ | exact ⟨x5d, y5d⟩ | exact ⟨x6, y6⟩ | exact ⟨x7, y7⟩ | exact ⟨x8, y8⟩ | fail)
      (first
        | (go_at_call 21; (with_reducible refine (KN.out w5.drew).mono ?_); rintro e w6 ⟨rfl, b6⟩; have D6 : Hid (Below w5.heap.size w5 w6) := hide (below_undrew' b6); obtain ⟨x6, y6⟩ := HKK.out w6 D6.out; clear b6)
        | (go_at_call 22; (with_reducible refine (KK.out w6 D6.out).mono ?_); rintro e w6' ⟨rfl, rfl⟩)
        | (go_at_call 23; (with_reducible refine (KG.out w6).mono ?_); rintro e w7 ⟨rfl, b7⟩; have D7 : Hid (Below w5.heap.size w5 w7) := hide (D6.out.trans (b7.mono D6.out.size)); obtain ⟨x7, y7⟩ := HKK.out w7 D7.out; clear b7)
        | (go_at_call 24; (with_reducible refine (known6_any w7).mono ?_); rintro e w8 ⟨rfl, b8⟩; have D8 : Hid (Below w5.heap.size w5 w8) := hide (D7.out.trans (b8.mono D7.out.size)); obtain ⟨x8, y8⟩ := HKK.out w8 D8.out; clear b8)
        | fail)
    all_goals (
      go_wp2
      go_ret
      exact ⟨rfl, HBW.out w8 D8.out⟩)
  · have hE1 : (E != 0) = true := by simpa using hE0
    have xp : ∀ p : BW w5, p.w.heap[w2.heap.size]? = some (.cells X2 54 (0, 0)) := fun p => p.block x5
    have yp : ∀ p : BW w5, p.w.heap[w4.heap.size]? = some (.cells X4 57 (0, 0)) := fun p => p.block y5
    clear hE0 x5 y5 x5d y5d
    first | refine wp_region_belowS w5 (Below.refl _ _) ?_ | refine wp_region_below w5 (Below.refl _ _) (by kernel_rfl) (by kernel_rfl) ?_
    (try simp only [List.append_eq, List.cons_append, List.nil_append])
    repeat
      first
      | (go_big_quiet_step (first
        | (go_at_call 21; with_reducible exact Calls.bel (KN.out _))
        | (go_at_call 22; with_reducible exact Calls.bel_same (KK.out _ (BW.below _)))
        | (go_at_call 24; with_reducible exact Calls.bel (known6_any _))
        | fail))
      | (go_big_quiet_want; apply quiet_span; (intro p; go_simp; rfl); (try simp only [Act.put, List.setIfInBounds_toArray, List.set_cons_zero, List.set_cons_succ]); go_big_quiet_on)
    refine wpQuiet_nil ?_
    intro _ hw'
    obtain ⟨pq, hw''⟩ := hw'
    subst hw''
    go_wp2
    go_ret
    exact ⟨rfl, HBW.out pq.w pq.below⟩
end Go.Proofs.Ytcfckhdohcaffaa
