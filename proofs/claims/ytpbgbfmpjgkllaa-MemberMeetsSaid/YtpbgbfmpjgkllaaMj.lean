/-
  The walk of the statement MemberMeets.
-/
import Derived.Test.YtpbgbfmpjgkllaaMf
import Derived.Test.YtpbgbfmpjgkllaaLent
import Derived.Test.YtpbgbfmpjgkllaaOr
namespace Go.Proofs.Ytpbgbfmpjgkllaa
open Go.RowKit
set_option maxRecDepth 100000
set_option linter.unusedVariables false
set_option linter.unusedSimpArgs false
attribute [local go_sem ↓] exec_span exec_put exec_build heap_alloc_new heap_old
attribute [local go_sem] spanQ_ptr spanC_some heap_of_drew heap_of_drewN putAt_ptr putOk_ptr oldOk_some World.setRow_alloc_new rs_inf rs_view rs_rinf

theorem m_new2 : newOk 0 2 = true := by decide
theorem built_rinfZ : Try.prog.built 23 [] = some #[.int .i64 0, .int .i64 0] := by kernel_rfl
theorem eql_rinf_self (w : World) (s i : Int) : (binOp .eql 23 (.agg #[.int .i64 s, .int .i64 i]) (.agg #[.int .i64 s, .int .i64 i])).run Try.prog w = .ok (.bool true) w := by
  rw [run_eql_struct, equalIn_rinf 9995 w s i s i]
  simp [Result.andThen]
theorem mem_take_succ {l : List (Int × Int)} {k : Nat} (h : k < l.length) : ∀ x ∈ l.take (k + 1), x ∈ l.take k ∨ x = l[k] := by
  intro x hx
  rw [List.take_succ_eq_append_getElem h, List.mem_append] at hx
  rcases hx with hx | hx
  · exact .inl hx
  · exact .inr (by simpa using hx)
theorem mem_drop_pred {l : List (Int × Int)} {k : Nat} (h : k < l.length) : ∀ x ∈ l.drop k, x ∈ l.drop (k + 1) ∨ x = l[k] := by
  intro x hx
  rw [List.drop_eq_getElem_cons h] at hx
  rcases List.mem_cons.1 hx with hx | hx
  · exact .inr hx
  · exact .inl hx
set_option maxHeartbeats 16000000 in
theorem memberMeets_any (w : World) (A : Option Addr) (c : Nat) (l : List (Int × Int)) (T : Option Addr) (ct : Nat) (ts : List Int) (hb : InfS w w.heap.size A l) (ht : IntS w w.heap.size T ts) (hl : l.length ≤ 4611686018427387904) (htl : ts.length ≤ 4611686018427387904) :
    Calls Try.prog 5 #[.slice A l.length c, .slice T ts.length ct] w (fun e w' => e = .returned (.bool true) ∧ Below w.heap.size w w') := by
  have HIN := hide hb
  have HTS := hide ht
  have KK := hide (fun W => knownM_any W)
  have hbz := built_rinfZ
  have haz : allOne #[Value.int .i64 0, Value.int .i64 0] = true := by simp [allOne, Value.oneCell']
  obtain ⟨N, hN⟩ : ∃ N, N = l.length := ⟨_, rfl⟩
  obtain ⟨nt, hnt⟩ : ∃ N, N = ts.length := ⟨_, rfl⟩
  rw [← hN] at hl ⊢
  rw [← hnt] at htl ⊢
  have HN := hide hN
  have HNT := hide hnt
  clear hb ht hN hnt
  go_enter Try.func5, Try.ntmps5
  go_wp2_with fail
  refine (newV_any w 0 2).mono ?_
  rintro e w1 ⟨hbel, ⟨hno, -⟩ | ⟨-, g1, b1, rfl, hg, hb, hv⟩⟩
  · rw [m_new2] at hno; cases hno
  have HB1 := hide hbel
  have HV := hide (show ViewS w1 g1 b1 0 [(0, 0), (0, 0)] from hv)
  have HG1 := hide (And.intro hg hb)
  clear hbel hv hg hb
  dsimp only
  go_wp2_with fail
  refine (newV_any w1 0 2).mono ?_
  rintro e w2 ⟨hbel, ⟨hno, -⟩ | ⟨-, g2, b2, rfl, hg, hb, hv⟩⟩
  · rw [m_new2] at hno; cases hno
  have HB2 := hide (HB1.out.trans (hbel.mono HB1.out.size))
  have HU := hide (show ViewS w2 g2 b2 0 [(0, 0), (0, 0)] from hv)
  have HV2 := hide (HV.out.below hbel (Nat.le_refl _))
  have HG2 := hide (And.intro hg hb)
  clear hbel hv hg hb
  dsimp only
  go_upto_region 6 with (fail)
  obtain ⟨w3, hw3, r_b, z3, b3⟩ := alloc_nam w2 (.cells #[.int .i64 0, .int .i64 0] 23)
  rw [hw3]
  have HM : Hid (MeetS w3 w.heap.size g1 b1 g2 b2 w2.heap.size (0, 0) (0, 0) (0, 0)) := hide ⟨HV2.out.below b3 (Nat.le_refl _), HU.out.below b3 (Nat.le_refl _), r_b, by
    have := HB1.out.size; have := HB2.out.size; have := HG1.out.2; have := HG2.out.2; omega, by
    have h1 := HV.out.lt; have h2 := HV.out.map.lt; have h3 := HU.out.lt; have h4 := HU.out.map.lt; have h5 := HV2.out.lt; have h6 := HV2.out.map.lt
    have := HG2.out.1; have := HG2.out.2
    omega⟩
  have HB3 := hide (HB2.out.trans (b3.mono HB2.out.size))
  obtain ⟨gb, hgb⟩ : ∃ g, g = w2.heap.size := ⟨_, rfl⟩
  rw [← hgb] at HM ⊢
  clear hw3 z3 b3 r_b hgb HV HU HV2 HG1 HG2 HB1 HB2
  go_wp2
  go_loopw [10] (fun v wr => ∃ (k : Nat) (x : Int × Int), k ≤ N ∧ v = .int .i64 (k : Int) ∧ Hid (MeetS wr w.heap.size g1 b1 g2 b2 gb x (0, 0) x) ∧ Hid (TopI (l.take k) (l.take k) x) ∧ Hid (Below w.heap.size w wr)) (fun v _ => N - (intOf v).toNat)
  case atStart => exact ⟨0, (0, 0), by omega, rfl, HM, hide (TopI.nil _), HB3⟩
  case round =>
    obtain ⟨k, x, hk, rfl, hM, hT, hbel⟩ := hrel
    by_cases hlt : k < N
    · have hji : (k : Int) < (N : Int) := by omega
      have hkl : k < l.length := by rw [← HN.out]; exact hlt
      obtain ⟨bl, off, rfl, hbl, hcl⟩ := HIN.out (by omega)
      obtain ⟨h1, h2⟩ := hcl k hkl
      have hmt := hide (mem_take_succ hkl)
      have hmi : Hid (l[k] ∈ l.take (k + 1)) := hide (by rw [List.take_succ_eq_append_getElem hkl]; exact List.mem_append.2 (.inr (List.mem_singleton.2 rfl)))
      obtain ⟨y, hy⟩ : ∃ y, y = l[k] := ⟨_, rfl⟩
      rw [← hy] at h1 h2 hmt hmi
      have HST := hide (hT.out.step (i := y) (fun z hz => List.mem_of_mem_take (i := k) (by rw [List.take_take]; rwa [Nat.min_eq_left (Nat.le_succ k)])) hmi.out hmt.out)
      have KG := hide (fun W => given14_any W y)
      have KR := hide (fun W => rightR_any W y)
      have KN := hide (fun W => newerR_any W y x)
      obtain ⟨r, hr⟩ : ∃ q, q = rightI y := ⟨_, rfl⟩
      obtain ⟨q, hq⟩ : ∃ q, q = newerI y x := ⟨_, rfl⟩
      have HBY : Hid (r = true → q = true → bestI x y = y) := hide fun e e' => by unfold bestI; rw [if_pos ⟨by rw [← hr]; exact e, by rw [← hq]; exact e'⟩]
      have HBN : Hid (r = false ∨ q = false → bestI x y = x) := hide fun h => by unfold bestI; rw [if_neg (fun h2 => by rw [← hr, ← hq] at h2; rcases h with h | h <;> rw [h] at h2 <;> simp at h2)]
      rw [← hr] at KR
      rw [← hq] at KN
      have i1 := (hbel.out.cell (show (⟨bl, off + k * 2, none⟩ : Addr).block < w.heap.size from hbl)).trans h1
      have i2 := (hbel.out.cell (show (⟨bl, off + k * 2 + 1, none⟩ : Addr).block < w.heap.size from hbl)).trans h2
      have HBL := hide hbl
      have HC1 := hide h1
      have HC2 := hide h2
      obtain ⟨s, i⟩ := y
      obtain ⟨sx, ix⟩ := x
      unfold infV infA at KG KR KN
      dsimp only at KG KR KN i1 i2
      clear h1 h2 hcl hbl hr hq hy hmt hmi
      go_wp2_with fail
      refine (KG.out _).mono ?_
      rintro e w4 ⟨rfl, b4⟩
      have HM4 := hide (hM.out.below b4)
      have HB4 := hide (hbel.out.trans (b4.mono hbel.out.size))
      clear b4 i1 i2 hM hbel
      dsimp only
      have KH := hearV_any w4 g1 b1 0 [(0, 0), (sx, ix)] 1 (s, i) HM4.out.v rfl
      rw [hear_two] at KH
      unfold infV infA at KH
      go_wp2_with fail
      refine KH.mono ?_
      rintro e w5 ⟨rfl, hv5, hg5⟩
      clear KH
      have HM5 := hide (HM4.out.hear1 hv5 hg5)
      have HB5 := hide (below_turn HB4.out hg5 HM4.out.far.1)
      clear hv5 hg5 HM4 HB4
      dsimp only
      have i1 := fun p : BW w5 => p.cell ((HB5.out.cell (show (⟨bl, off + k * 2, none⟩ : Addr).block < w.heap.size from HBL.out)).trans HC1.out)
      have i2 := fun p : BW w5 => p.cell ((HB5.out.cell (show (⟨bl, off + k * 2 + 1, none⟩ : Addr).block < w.heap.size from HBL.out)).trans HC2.out)
      have i3 := fun p : BW w5 => p.block HM5.out.box
      dsimp only at i1 i2 i3
      have hso : allOne #[Value.int .i64 s, Value.int .i64 i] = true := by simp [allOne, Value.oneCell']
      have hx1 : (#[Value.int IntKind.i64 s, Value.int .i64 i] : Array Value).extract 0 2 = #[Value.int IntKind.i64 s, Value.int .i64 i] := rfl
      cases r
      · go_upto_region 10 with (fail)
        first | refine wp_region_belowS w5 (Below.refl _ _) ?_ | refine wp_region_below w5 (Below.refl _ _) (by kernel_rfl) (by kernel_rfl) ?_
        repeat
          first
          | (go_big_quiet_step (first
          | ((go_at_call 13; with_reducible exact Calls.bel (KR.out _)))
          | ((go_at_call 11; with_reducible exact Calls.bel (KN.out _)))
          | fail))
          | (go_big_quiet_want; apply quiet_span; (intro p; go_simp; rfl); (try simp only [Act.put, List.setIfInBounds_toArray, List.set_cons_zero, List.set_cons_succ]); go_big_quiet_on)
        refine wpQuiet_nil ?_
        intro _ hw'
        obtain ⟨pq, hw2'⟩ := hw'
        subst hw2'
        have HM6 := hide (HM5.out.below pq.below)
        have B6 := hide (HB5.out.trans (pq.below.mono HB5.out.size))
        clear i1 i2 i3 HM5 HB5
        have HE := hide (HBN.out (.inl rfl))
        rw [HE.out] at HM6 HST
        go_wp2
        go_roundw
        case rel => exact ⟨k + 1, _, by omega, by go_num, HM6, HST, B6⟩
        case measure => simp [intOf]; omega
      · cases q
        · go_upto_region 10 with (fail)
          first | refine wp_region_belowS w5 (Below.refl _ _) ?_ | refine wp_region_below w5 (Below.refl _ _) (by kernel_rfl) (by kernel_rfl) ?_
          repeat
            first
            | (go_big_quiet_step (first
            | ((go_at_call 13; with_reducible exact Calls.bel (KR.out _)))
            | ((go_at_call 11; with_reducible exact Calls.bel (KN.out _)))
            | fail))
            | (go_big_quiet_want; apply quiet_span; (intro p; go_simp; rfl); (try simp only [Act.put, List.setIfInBounds_toArray, List.set_cons_zero, List.set_cons_succ]); go_big_quiet_on)
          refine wpQuiet_nil ?_
          intro _ hw'
          obtain ⟨pq, hw2'⟩ := hw'
          subst hw2'
          have HM6 := hide (HM5.out.below pq.below)
          have B6 := hide (HB5.out.trans (pq.below.mono HB5.out.size))
          clear i1 i2 i3 HM5 HB5
          have HE := hide (HBN.out (.inr rfl))
          rw [HE.out] at HM6 HST
          go_wp2
          go_roundw
          case rel => exact ⟨k + 1, _, by omega, by go_num, HM6, HST, B6⟩
          case measure => simp [intOf]; omega
        · go_upto_region 10 with (fail)
          first | refine wp_region_belowS w5 (Below.refl _ _) ?_ | refine wp_region_below w5 (Below.refl _ _) (by kernel_rfl) (by kernel_rfl) ?_
          repeat
            first
            | (go_big_quiet_step (first
            | ((go_at_call 13; with_reducible exact Calls.bel (KR.out _)))
            | ((go_at_call 11; with_reducible exact Calls.bel (KN.out _)))
            | fail))
            | (go_big_quiet_want; apply quiet_span; (intro p; go_simp; rfl); (try simp only [Act.put, List.setIfInBounds_toArray, List.set_cons_zero, List.set_cons_succ]); go_big_quiet_on)
          refine wpQuiet_nil ?_
          intro _ hw'
          obtain ⟨pq, hw2'⟩ := hw'
          subst hw2'
          have HM6 := hide (HM5.out.below pq.below)
          have B6 := hide (HB5.out.trans (pq.below.mono HB5.out.size))
          clear i1 i2 i3 HM5 HB5
          have HE := hide (HBY.out rfl rfl)
          rw [HE.out] at HM6 HST
          obtain ⟨w6, hw6⟩ : ∃ W, W = pq.w := ⟨_, rfl⟩
          rw [← hw6] at HM6 B6 ⊢
          have i1 := (B6.out.cell (show (⟨bl, off + k * 2, none⟩ : Addr).block < w.heap.size from HBL.out)).trans HC1.out
          have i2 := (B6.out.cell (show (⟨bl, off + k * 2 + 1, none⟩ : Addr).block < w.heap.size from HBL.out)).trans HC2.out
          have i3 := HM6.out.box
          dsimp only at i1 i2 i3
          have HM7 := hide (HM6.out.put (s, i))
          have B7 : Hid (Below w.heap.size w (w6.setRow gb #[.int .i64 s, .int .i64 i])) := hide (below_setRow B6.out HM6.out.far.2.2 _)
          clear hw6
          go_wp2
          go_roundw
          case rel => exact ⟨k + 1, _, by omega, by go_num, HM7, HST, B7⟩
          case measure => simp [intOf]; omega
    · obtain rfl : k = N := by omega
      have HX : Hid (TopI l l x) := hide (by have := hT.out; rwa [List.take_of_length_le (by rw [HN.out]; exact Nat.le_refl _)] at this)
      clear hT hlt hk HM HB3 hbz haz
      go_wp2
      go_loopw [11] (fun v wr => ∃ (t : Nat) (y : Int × Int), t ≤ nt ∧ v = .int .i64 (t : Int) ∧ Hid (MeetS wr w.heap.size g1 b1 g2 b2 gb x y x) ∧ Hid (TopI l [] y) ∧ Hid (Below w.heap.size w wr)) (fun v _ => nt - (intOf v).toNat)
      case atStart => exact ⟨0, (0, 0), by omega, rfl, hM, hide (TopI.nil _), hbel⟩
      case round =>
        clear hM hbel
        obtain ⟨t, y, ht, rfl, hM, hT, hbel⟩ := hrel
        by_cases hlt : t < nt
        · have hjt : (t : Int) < (nt : Int) := by omega
          by_cases hN0 : 0 < k
          · have hk0 : (k : Int) > 0 := by omega
            obtain ⟨bt, ot, rfl, hbt, hct⟩ := HTS.out (by rw [← HNT.out]; omega)
            have h0 := hct t (by rw [← HNT.out]; exact hlt)
            obtain ⟨tv, htv⟩ : ∃ q, q = ts[t]'(by rw [← HNT.out]; exact hlt) := ⟨_, rfl⟩
            rw [← htv] at h0
            have i0 := (hbel.out.cell (show (⟨bt, ot + t, none⟩ : Addr).block < w.heap.size from hbt)).trans h0
            have KC := hide (count_any tv k wr hN0 hl)
            have hcm := count_lt tv hN0
            obtain ⟨m, hm⟩ : ∃ m, m = countS tv k := ⟨_, rfl⟩
            rw [← hm] at KC hcm
            clear hct htv h0 hm
            go_wp2_with fail
            refine KC.out.mono ?_
            rintro e w4 ⟨rfl, rfl⟩
            dsimp only
            have hji : (m : Int) < (k : Int) := by omega
            have hkl : m < l.length := by rw [← HN.out]; exact hcm
            obtain ⟨bl, off, rfl, hbl, hcl⟩ := HIN.out (by omega)
            obtain ⟨h1, h2⟩ := hcl m hkl
            have hmi : Hid (l[m] ∈ l) := hide (List.getElem_mem hkl)
            obtain ⟨u, hu⟩ : ∃ y, y = l[m] := ⟨_, rfl⟩
            rw [← hu] at h1 h2 hmi
            have HST : Hid (TopI l [] (bestI y u)) := hide (hT.out.step (fun z hz => hz) hmi.out (by simp))
            have KG := hide (fun W => given14_any W u)
            have i1 := (hbel.out.cell (show (⟨bl, off + m * 2, none⟩ : Addr).block < w.heap.size from hbl)).trans h1
            have i2 := (hbel.out.cell (show (⟨bl, off + m * 2 + 1, none⟩ : Addr).block < w.heap.size from hbl)).trans h2
            obtain ⟨s, i⟩ := u
            unfold infV infA at KG
            dsimp only at KG i1 i2
            clear h1 h2 hcl hbl hu hmi i0 KC hkl
            go_wp2_with fail
            refine (KG.out _).mono ?_
            rintro e w5 ⟨rfl, b5⟩
            have HM5 := hide (hM.out.below b5)
            have HB5 := hide (hbel.out.trans (b5.mono hbel.out.size))
            clear b5 i1 i2 hM hbel
            dsimp only
            have KH := hearV_any w5 g2 b2 0 [(0, 0), y] 1 (s, i) HM5.out.u rfl
            rw [hear_two] at KH
            unfold infV infA at KH
            go_wp2_with fail
            refine KH.mono ?_
            rintro e w6 ⟨rfl, hv6, hg6⟩
            clear KH
            have HM6 := hide (HM5.out.hear2 hv6 hg6)
            have HB6 := hide (below_turn HB5.out hg6 HM5.out.far.2.1)
            clear hv6 hg6 HM5 HB5
            dsimp only
            go_wp2
            go_roundw
            case rel => exact ⟨t + 1, _, by omega, by go_num, HM6, HST, HB6⟩
            case measure => simp [intOf]; omega
          · have hk0 : ¬ (k : Int) > 0 := by omega
            clear hlt
            go_wp2
            go_loopw [12] (fun v wr => ∃ (d : Nat) (z : Int) (y : Int × Int), d ≤ k ∧ z = (d : Int) - 1 ∧ v = .int .i64 z ∧ Hid (MeetS wr w.heap.size g1 b1 g2 b2 gb x y x) ∧ Hid (TopI l (l.drop d) y) ∧ Hid (Below w.heap.size w wr)) (fun v _ => (intOf v + 1).toNat)
            case atStart => exact ⟨k, (k : Int) - 1, y, Nat.le_refl _, rfl, by go_num, hM, hide (by rw [show l.drop k = [] from List.drop_eq_nil_of_le (by rw [HN.out]; exact Nat.le_refl _)]; exact hT.out), hbel⟩
            case round =>
              clear hM hT hbel
              obtain ⟨d, z, y, hd, hz, rfl, hM, hT, hbel⟩ := hrel
              by_cases hd0 : 0 < d
              · obtain ⟨d', rfl⟩ : ∃ d', d = d' + 1 := ⟨d - 1, by omega⟩
                obtain rfl : z = (d' : Int) := by omega
                have hge : (d' : Int) ≥ 0 := by omega
                have hji : (d' : Int) < (k : Int) := by omega
                have hkl : d' < l.length := by rw [← HN.out]; omega
                obtain ⟨bl, off, rfl, hbl, hcl⟩ := HIN.out (by omega)
                obtain ⟨h1, h2⟩ := hcl d' hkl
                have hmt := hide (mem_drop_pred hkl)
                have hmi : Hid (l[d'] ∈ l) := hide (List.getElem_mem hkl)
                obtain ⟨u, hu⟩ : ∃ y, y = l[d'] := ⟨_, rfl⟩
                rw [← hu] at h1 h2 hmi hmt
                have HST : Hid (TopI l (l.drop d') (bestI y u)) := hide (hT.out.step (fun z hz => hz) hmi.out hmt.out)
                have KG := hide (fun W => given14_any W u)
                have i1 := (hbel.out.cell (show (⟨bl, off + d' * 2, none⟩ : Addr).block < w.heap.size from hbl)).trans h1
                have i2 := (hbel.out.cell (show (⟨bl, off + d' * 2 + 1, none⟩ : Addr).block < w.heap.size from hbl)).trans h2
                obtain ⟨s, i⟩ := u
                unfold infV infA at KG
                dsimp only at KG i1 i2
                clear h1 h2 hcl hbl hu hmi hmt hkl hz hd0
                go_wp2_with fail
                refine (KG.out _).mono ?_
                rintro e w5 ⟨rfl, b5⟩
                have HM5 := hide (hM.out.below b5)
                have HB5 := hide (hbel.out.trans (b5.mono hbel.out.size))
                clear b5 i1 i2 hM hbel
                dsimp only
                have KH := hearV_any w5 g2 b2 0 [(0, 0), y] 1 (s, i) HM5.out.u rfl
                rw [hear_two] at KH
                unfold infV infA at KH
                go_wp2_with fail
                refine KH.mono ?_
                rintro e w6 ⟨rfl, hv6, hg6⟩
                clear KH
                have HM6 := hide (HM5.out.hear2 hv6 hg6)
                have HB6 := hide (below_turn HB5.out hg6 HM5.out.far.2.1)
                clear hv6 hg6 HM5 HB5
                dsimp only
                go_wp2
                go_roundw
                case rel => exact ⟨d', (d' : Int) - 1, _, by omega, rfl, by go_num, HM6, HST, HB6⟩
                case measure => first | (simp [intOf]; done) | (simp [intOf]; omega)
              · obtain rfl : d = 0 := by omega
                obtain rfl : z = -1 := by omega
                obtain rfl : y = x := TopI.one hT.out HX.out
                have hng : ¬ ((-1 : Int) ≥ 0) := by omega
                have KG := hide (fun p : BW wr => (by
                  have := getV_any p.w g1 b1 0 _ 1 (hM.out.v.bw p)
                  exact this : Calls Try.prog 27 #[.pointer (some ⟨g1, 0, none⟩), .int .i64 1] p.w (RetV p.w (infV y))))
                have KT := hide (fun W => taken14_any W y)
                have S1 := hide (fun p : BW wr => (by
                  have := sameM_any p.w g1 b1 g2 b2 0 0 _ _ (hM.out.v.bw p) (hM.out.u.bw p)
                  rwa [decide_eq_true rfl] at this : Calls Try.prog 26 #[.pointer (some ⟨g1, 0, none⟩), .pointer (some ⟨g2, 0, none⟩)] p.w (RetV p.w (.bool true))))
                have S2 := hide (fun p : BW wr => (by
                  have := sameM_any p.w g2 b2 g1 b1 0 0 _ _ (hM.out.u.bw p) (hM.out.v.bw p)
                  rwa [decide_eq_true rfl] at this : Calls Try.prog 26 #[.pointer (some ⟨g2, 0, none⟩), .pointer (some ⟨g1, 0, none⟩)] p.w (RetV p.w (.bool true))))
                have i3 := fun p : BW wr => p.block hM.out.box
                obtain ⟨sy, iy⟩ := y
                have heq := fun W => eql_rinf_self W sy iy
                unfold infV infA at KG KT
                dsimp only at KG KT i3
                have hbs := hide hbel.out.size
                clear hT hM hz hd0
                go_upto_region 20 with (fail)
                first | refine wp_region_belowS wr (Below.refl _ _) ?_ | refine wp_region_below wr (Below.refl _ _) (by kernel_rfl) (by kernel_rfl) ?_
                repeat
                  first
                  | (go_big_quiet_step (first
                  | ((go_at_call 27; with_reducible exact Calls.bel (KG.out _)))
                  | ((go_at_call 22; with_reducible exact Calls.bel (KT.out _)))
                  | ((go_at_call 26; with_reducible exact Calls.bel (S1.out _)))
                  | ((go_at_call 26; with_reducible exact Calls.bel (S2.out _)))
                  | ((go_at_call 14; with_reducible exact Calls.bel (KK.out _)))
                  | fail))
                  | (go_big_quiet_want; apply quiet_span; (intro p; go_simp; rfl); (try simp only [Act.put, List.setIfInBounds_toArray, List.set_cons_zero, List.set_cons_succ]); go_big_quiet_on)
                refine wpQuiet_nil ?_
                intro _ hw'
                obtain ⟨pq, hw2'⟩ := hw'
                subst hw2'
                have B9 := hide (hbel.out.trans (pq.below.mono hbs.out))
                clear i3
                go_wp2
                go_ret
                exact ⟨rfl, B9.out⟩
        · obtain rfl : t = nt := by omega
          clear hlt
          go_wp2
          go_loopw [12] (fun v wr => ∃ (d : Nat) (z : Int) (y : Int × Int), d ≤ k ∧ z = (d : Int) - 1 ∧ v = .int .i64 z ∧ Hid (MeetS wr w.heap.size g1 b1 g2 b2 gb x y x) ∧ Hid (TopI l (l.drop d) y) ∧ Hid (Below w.heap.size w wr)) (fun v _ => (intOf v + 1).toNat)
          case atStart => exact ⟨k, (k : Int) - 1, y, Nat.le_refl _, rfl, by go_num, hM, hide (by rw [show l.drop k = [] from List.drop_eq_nil_of_le (by rw [HN.out]; exact Nat.le_refl _)]; exact hT.out), hbel⟩
          case round =>
            clear hM hT hbel
            obtain ⟨d, z, y, hd, hz, rfl, hM, hT, hbel⟩ := hrel
            by_cases hd0 : 0 < d
            · obtain ⟨d', rfl⟩ : ∃ d', d = d' + 1 := ⟨d - 1, by omega⟩
              obtain rfl : z = (d' : Int) := by omega
              have hge : (d' : Int) ≥ 0 := by omega
              have hji : (d' : Int) < (k : Int) := by omega
              have hkl : d' < l.length := by rw [← HN.out]; omega
              obtain ⟨bl, off, rfl, hbl, hcl⟩ := HIN.out (by omega)
              obtain ⟨h1, h2⟩ := hcl d' hkl
              have hmt := hide (mem_drop_pred hkl)
              have hmi : Hid (l[d'] ∈ l) := hide (List.getElem_mem hkl)
              obtain ⟨u, hu⟩ : ∃ y, y = l[d'] := ⟨_, rfl⟩
              rw [← hu] at h1 h2 hmi hmt
              have HST : Hid (TopI l (l.drop d') (bestI y u)) := hide (hT.out.step (fun z hz => hz) hmi.out hmt.out)
              have KG := hide (fun W => given14_any W u)
              have i1 := (hbel.out.cell (show (⟨bl, off + d' * 2, none⟩ : Addr).block < w.heap.size from hbl)).trans h1
              have i2 := (hbel.out.cell (show (⟨bl, off + d' * 2 + 1, none⟩ : Addr).block < w.heap.size from hbl)).trans h2
              obtain ⟨s, i⟩ := u
              unfold infV infA at KG
              dsimp only at KG i1 i2
              clear h1 h2 hcl hbl hu hmi hmt hkl hz hd0
              go_wp2_with fail
              refine (KG.out _).mono ?_
              rintro e w5 ⟨rfl, b5⟩
              have HM5 := hide (hM.out.below b5)
              have HB5 := hide (hbel.out.trans (b5.mono hbel.out.size))
              clear b5 i1 i2 hM hbel
              dsimp only
              have KH := hearV_any w5 g2 b2 0 [(0, 0), y] 1 (s, i) HM5.out.u rfl
              rw [hear_two] at KH
              unfold infV infA at KH
              go_wp2_with fail
              refine KH.mono ?_
              rintro e w6 ⟨rfl, hv6, hg6⟩
              clear KH
              have HM6 := hide (HM5.out.hear2 hv6 hg6)
              have HB6 := hide (below_turn HB5.out hg6 HM5.out.far.2.1)
              clear hv6 hg6 HM5 HB5
              dsimp only
              go_wp2
              go_roundw
              case rel => exact ⟨d', (d' : Int) - 1, _, by omega, rfl, by go_num, HM6, HST, HB6⟩
              case measure => first | (simp [intOf]; done) | (simp [intOf]; omega)
            · obtain rfl : d = 0 := by omega
              obtain rfl : z = -1 := by omega
              obtain rfl : y = x := TopI.one hT.out HX.out
              have hng : ¬ ((-1 : Int) ≥ 0) := by omega
              have KG := hide (fun p : BW wr => (by
                have := getV_any p.w g1 b1 0 _ 1 (hM.out.v.bw p)
                exact this : Calls Try.prog 27 #[.pointer (some ⟨g1, 0, none⟩), .int .i64 1] p.w (RetV p.w (infV y))))
              have KT := hide (fun W => taken14_any W y)
              have S1 := hide (fun p : BW wr => (by
                have := sameM_any p.w g1 b1 g2 b2 0 0 _ _ (hM.out.v.bw p) (hM.out.u.bw p)
                rwa [decide_eq_true rfl] at this : Calls Try.prog 26 #[.pointer (some ⟨g1, 0, none⟩), .pointer (some ⟨g2, 0, none⟩)] p.w (RetV p.w (.bool true))))
              have S2 := hide (fun p : BW wr => (by
                have := sameM_any p.w g2 b2 g1 b1 0 0 _ _ (hM.out.u.bw p) (hM.out.v.bw p)
                rwa [decide_eq_true rfl] at this : Calls Try.prog 26 #[.pointer (some ⟨g2, 0, none⟩), .pointer (some ⟨g1, 0, none⟩)] p.w (RetV p.w (.bool true))))
              have i3 := fun p : BW wr => p.block hM.out.box
              obtain ⟨sy, iy⟩ := y
              have heq := fun W => eql_rinf_self W sy iy
              unfold infV infA at KG KT
              dsimp only at KG KT i3
              have hbs := hide hbel.out.size
              clear hT hM hz hd0
              go_upto_region 20 with (fail)
              first | refine wp_region_belowS wr (Below.refl _ _) ?_ | refine wp_region_below wr (Below.refl _ _) (by kernel_rfl) (by kernel_rfl) ?_
              repeat
                first
                | (go_big_quiet_step (first
                | ((go_at_call 27; with_reducible exact Calls.bel (KG.out _)))
                | ((go_at_call 22; with_reducible exact Calls.bel (KT.out _)))
                | ((go_at_call 26; with_reducible exact Calls.bel (S1.out _)))
                | ((go_at_call 26; with_reducible exact Calls.bel (S2.out _)))
                | ((go_at_call 14; with_reducible exact Calls.bel (KK.out _)))
                | fail))
                | (go_big_quiet_want; apply quiet_span; (intro p; go_simp; rfl); (try simp only [Act.put, List.setIfInBounds_toArray, List.set_cons_zero, List.set_cons_succ]); go_big_quiet_on)
              refine wpQuiet_nil ?_
              intro _ hw'
              obtain ⟨pq, hw2'⟩ := hw'
              subst hw2'
              have B9 := hide (hbel.out.trans (pq.below.mono hbs.out))
              clear i3
              go_wp2
              go_ret
              exact ⟨rfl, B9.out⟩
end Go.Proofs.Ytpbgbfmpjgkllaa
