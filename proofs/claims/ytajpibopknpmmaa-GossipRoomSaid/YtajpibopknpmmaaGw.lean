/-
  The walk of GossipRoom.
-/
import Derived.Test.YtajpibopknpmmaaGu
import Derived.Test.YtajpibopknpmmaaGq
import Derived.Test.YtajpibopknpmmaaRowG
namespace Go.Proofs.Ytajpibopknpmmaa
open Go.RowKit
set_option maxRecDepth 100000
set_option linter.unusedVariables false
set_option linter.unusedSimpArgs false

/-- what is told goes into the room. -/
def FitsQ : Int → List (Int × List UInt8) → Prop
  | _, [] => True
  | room, p :: t => (p.2.length : Int) ≤ room ∧ FitsQ (room - (p.2.length : Int)) t
theorem fits_pick : ∀ (ks : List Int) (room : Int) (L : List (Int × Nw)), FitsQ room (pickQ ks room L).1
  | [], room, L => trivial
  | k :: t, room, L => by
    by_cases h : room < ((dataQ L k).length : Int)
    · rw [pickQ_skip h]; exact fits_pick t room L
    · rw [pickQ_take h]
      exact ⟨by dsimp only; omega, fits_pick t _ _⟩
theorem sub_pick : ∀ (ks : List Int) (room : Int) (L : List (Int × Nw)), ((pickQ ks room L).1.map (·.1)).Sublist ks
  | [], room, L => List.Sublist.refl _
  | k :: t, room, L => by
    by_cases h : room < ((dataQ L k).length : Int)
    · rw [pickQ_skip h]; exact (sub_pick t room L).cons _
    · rw [pickQ_take h, List.map_cons]
      exact (sub_pick t _ _).cons_cons _
theorem fits_neg {room : Int} {l : List (Int × List UInt8)} (h : FitsQ room l) (hr : room < 0) : l = [] := by
  cases l with
  | nil => rfl
  | cons p t => exact absurd h.1 (by omega)
theorem told_nodup {L : List (Int × Nw)} (h : OkQ L) (room : Int) : ((tellQ L room).1.map (·.1)).Nodup :=
  ((ordQ_perm L (L.map (·.1))).nodup_iff.2 h.nodup).sublist (sub_pick _ _ _)
theorem told_few (L : List (Int × Nw)) (room : Int) : (tellQ L room).1.length ≤ L.length := by
  have h1 := (len_pickQ (ordQ L (L.map (·.1))) room L).2
  have h2 := (ordQ_perm L (L.map (·.1))).length_eq
  rw [List.length_map] at h2
  exact h2 ▸ h1
theorem nodup_ne {l : List (Int × List UInt8)} (h : (l.map (·.1)).Nodup) {i k : Nat} (hi : i < l.length) (hk : k < i) : (l[i].1 == (l[k]'(by omega)).1) = false := by
  rw [beq_eq_false_iff_ne]
  intro e
  unfold List.Nodup at h
  rw [List.pairwise_iff_getElem] at h
  have := h k i (by rw [List.length_map]; omega) (by rw [List.length_map]; exact hi) hk
  rw [List.getElem_map, List.getElem_map] at this
  exact this e.symm
set_option maxHeartbeats 8000000 in
theorem gossipRoom_any (w : World) (A1 : Option Addr) (c1 : Nat) (l1 : List Act15) (room : Int) (h1 : Acts15 w w.heap.size A1 l1) (hok : ∀ a ∈ l1, OkAct a) (hl1 : l1.length ≤ 4611686018427387904) (hroom : -9223372036854775808 ≤ room ∧ room ≤ 9223372036854775807) :
    Calls Try.prog 6 #[.slice A1 l1.length c1, .int .i64 room] w (RetV w (.bool true)) := by
  have HI1 := hide h1
  have HOK := hide hok
  have HROOM := hide hroom
  obtain ⟨n1, hn1⟩ : ∃ n, n = l1.length := ⟨_, rfl⟩
  rw [← hn1] at hl1
  rw [← hn1]
  have HN1 := hide hn1
  clear h1 hn1 hok hroom
  go_enter Try.func6, Try.ntmps6
  go_wp2_with fail
  refine (newQ_any w 100).mono ?_
  rintro e w1 ⟨hbel, ⟨-, q, mb, rfl, hq, hb, hv⟩ | ⟨hno, -⟩⟩
  rotate_left
  · exact absurd ⟨by decide, by decide⟩ hno
  have HM := hide hb
  have HA0 : Hid (∃ L, QueT w1 q mb 100 L ∧ L.length ≤ 0 ∧ Below w.heap.size w w1) := hide ⟨[], ⟨_, hv, fun g hg => hg.elim⟩, Nat.le_refl _, hbel⟩
  clear hbel hv hq hb
  dsimp only
  go_wp2
  go_loopw [7] (fun i wr => ∃ (j : Nat), j ≤ 50 ∧ i = .int .i64 (j : Int) ∧ Hid (∃ L, QueT wr q mb 100 L ∧ L.length ≤ j ∧ Below w.heap.size w wr)) (fun i _ => 50 - (Go.RowKit.intOf i).toNat)
  case atStart => exact ⟨0, by omega, rfl, HA0⟩
  case round =>
    obtain ⟨j, hj, rfl, hI⟩ := hrel
    clear HA0
    have hj0 : (0 : Int) ≤ (j : Int) := by omega
    by_cases hlt : j < n1 ∧ j < 50
    · obtain ⟨ha, hc⟩ := hlt
      have hjl : j < l1.length := by rw [← HN1.out]; exact ha
      obtain ⟨b1, o1, rfl, hb1, hc1⟩ := HI1.out (by omega)
      obtain ⟨L, hT, hLj, hbel⟩ := hI.out
      obtain ⟨e0, e1, ⟨D, cD, e2, hle, hby⟩, e3⟩ := hc1 j hjl
      have hak := HOK.out l1[j] (List.getElem_mem hjl)
      obtain ⟨a, haj⟩ : ∃ a, a = l1[j] := ⟨_, rfl⟩
      rw [← haj] at e0 e1 e2 e3 hle hby hak
      obtain ⟨m, hm⟩ : ∃ m, m = a.b.length := ⟨_, rfl⟩
      rw [← hm] at e2
      have R1 : ∀ p : BW wr, p.w.cell? ⟨b1, o1 + j * 4 + 1, none⟩ = some (.int .i64 a.key) := fun p => p.cell ((hbel.cell (p := ⟨b1, _, none⟩) hb1).trans e1)
      have R2 : ∀ p : BW wr, p.w.cell? ⟨b1, o1 + j * 4 + 2, none⟩ = some (.slice D m cD) := fun p => p.cell ((hbel.cell (p := ⟨b1, _, none⟩) hb1).trans e2)
      have R3 : ∀ p : BW wr, p.w.cell? ⟨b1, o1 + j * 4 + 3, none⟩ = some (.int .i64 a.times) := fun p => p.cell ((hbel.cell (p := ⟨b1, _, none⟩) hb1).trans e3)
      have KC := hide (fun p : BW wr => count_any a.times 5 p.w (by omega) (by omega))
      obtain ⟨x, hx⟩ : ∃ x, x = countS a.times 5 := ⟨_, rfl⟩
      have hx5 : x < 5 := by rw [hx]; exact count_lt _ (by omega)
      rw [← hx] at KC
      obtain ⟨nx, hnx⟩ : ∃ n, n = x + 1 := ⟨_, rfl⟩
      have ex : (1 : Int) + (x : Int) = (nx : Int) := by omega
      have hwx : wrap64 (nx : Int) = (nx : Int) := wr64_small nx (by omega)
      have HT := hide hT
      have HLJ := hide hLj
      have HB := hide hbel
      have HAK := hide hak
      have HMM := hide hm
      have HBY := hide ((hby.below hbel).more hbel.size)
      have hai : (j : Int) < (n1 : Int) := by omega
      have hci : (j : Int) < 50 := by omega
      clear hc1 hb1 hT hLj hbel e0 e1 e2 e3 hle hby hak haj hm hI hx hnx hx5
      go_upto_region 7 with (fail)
      refine wp_region_quiet_tail wr (Below.refl _ _) 18 (by kernel_rfl) (by kernel_rfl) ?_
      simp only [List.append_eq, List.cons_append, List.nil_append, List.take_succ_cons, List.take_zero, List.drop_succ_cons, List.drop_zero]
      repeat
        first
        | (go_big_quiet_step (first
          | ((go_at_call 25; with_reducible exact Calls.bel_same (KC.out _)))
          | fail))
      refine wpQuiet_nil ?_
      intro _ hw'
      obtain ⟨pq, hw2'⟩ := hw'
      subst hw2'
      have HB5 := hide (HB.out.trans (pq.below.mono HB.out.size))
      have KP := putT_any pq.w q mb 100 L a.key a.b D cD (nx : Int) (HT.out.below pq.below) HAK.out.1 ((HBY.out.below pq.below).more pq.below.size) (by have := HAK.out.2.2; omega)
      rw [← HMM.out] at KP
      obtain ⟨w5, hw5⟩ : ∃ W, W = pq.w := ⟨_, rfl⟩
      rw [← hw5] at HB5 KP ⊢
      clear R1 R2 R3 KC hw5 pq
      go_wp2_with fail
      refine KP.mono ?_
      rintro e w6 ⟨rfl, hq6, hg6⟩
      dsimp only
      have HA6 : Hid (∃ L, QueT w6 q mb 100 L ∧ L.length ≤ j + 1 ∧ Below w.heap.size w w6) := hide ⟨_, hq6, by
        have := HLJ.out
        unfold putL
        split
        · rw [len_putQ]; split <;> omega
        · omega, below_turnQ HB5.out hg6 HM.out⟩
      clear hq6 hg6 KP HT HB5
      go_wp2
      go_roundw
      case rel => exact ⟨j + 1, by omega, by go_num, HA6⟩
      case measure => simp [Go.RowKit.intOf]; omega
    · have h3 : (j < n1 ∧ ¬ j < 50) ∨ ¬ j < n1 := by omega
      clear hlt
      rcases h3 with ⟨ha, hc⟩ | ha
      all_goals (
        try have hai : (j : Int) < (n1 : Int) := by omega
        try have hai : ¬ (j : Int) < (n1 : Int) := by omega
        try have hci : ¬ (j : Int) < 50 := by omega
        go_upto_region 8 with (fail)
        clear hai
        obtain ⟨L, hT, hLj, hbel⟩ := hI.out
        have hT' := hT
        obtain ⟨S, hS, -⟩ := hT'
        have KL := lenQ_any wr q mb 100 L S hS
        have KQ := pickT_any wr q mb 100 L room hT (by omega) HROOM.out
        have hfit := fits_pick (ordQ L (L.map (·.1))) room L
        have hnod := told_nodup hT.ok room
        have hfew := told_few L room
        change FitsQ room (tellQ L room).1 at hfit
        obtain ⟨tl, htl⟩ : ∃ t, t = (tellQ L room).1 := ⟨_, rfl⟩
        rw [← htl] at KQ hfit hnod hfew
        obtain ⟨n3, hn3⟩ : ∃ n, n = tl.length := ⟨_, rfl⟩
        rw [← hn3] at KQ hfew
        obtain ⟨ln, hln⟩ : ∃ n, n = L.length := ⟨_, rfl⟩
        rw [← hln] at KL hfew hLj
        have HN3 := hide hn3
        have HF := hide hfit
        have HFN : Hid (room < 0 → n3 = 0) := hide (fun h => by rw [hn3, fits_neg hfit h]; rfl)
        have HND := hide hnod
        have HB := hide hbel
        clear hS hT hbel hI htl hn3 hfit hnod hln
        go_wp2_with fail
        refine KL.mono ?_
        rintro e w' ⟨rfl, hw'⟩
        subst hw'
        dsimp only
        clear KL
        go_wp2_with fail
        refine KQ.mono ?_
        rintro e w4 ⟨A4, c4, rfl, hs4, -, hg4⟩
        dsimp only
        have HS4 := hide hs4
        have HB4 := hide (below_turnQ HB.out hg4 HM.out)
        clear hs4 hg4 KQ HB
        obtain ⟨Bs, hBs⟩ : ∃ B, B = w'.heap.size := ⟨_, rfl⟩
        rw [← hBs] at HS4
        clear hBs
        go_wp2
        go_loopw [10, 11] (fun r i wr => ∃ (k : Nat) (rm : Int), k ≤ n3 ∧ i = .int .i64 (k : Int) ∧ r = .int .i64 rm ∧ wr = w4 ∧ Hid (FitsQ rm (tl.drop k) ∧ -9223372036854775808 ≤ rm ∧ rm ≤ 9223372036854775807)) (fun _ i _ => n3 - (Go.RowKit.intOf i).toNat)
        case atStart => exact ⟨0, room, by omega, rfl, rfl, rfl, hide ⟨HF.out, HROOM.out.1, HROOM.out.2⟩⟩
        case round =>
          obtain ⟨k, rm, hk, rfl, rfl, rfl, hR⟩ := hrel
          by_cases hkl : k < n3
          · have hkt : k < tl.length := by rw [← HN3.out]; exact hkl
            obtain ⟨b4, rfl, -, -, hcell⟩ := HS4.out (by omega)
            obtain ⟨-, D, cD, d2, -⟩ := hcell k hkt
            have hfd := hR.out.1
            rw [List.drop_eq_getElem_cons hkt] at hfd
            obtain ⟨hf1, hf2⟩ := hfd
            obtain ⟨m, hm⟩ : ∃ m, m = tl[k].2.length := ⟨_, rfl⟩
            rw [← hm] at d2 hf1 hf2
            have hki : (k : Int) < (n3 : Int) := by omega
            have hgt : ¬ ((m : Int) > rm) := by omega
            have hww : IntKind.i64.wrap (rm - (m : Int)) = rm - (m : Int) := by have := hR.out.2; rw [IntKind.wrap_i64]; omega
            have HF2 := hide (show FitsQ (rm - (m : Int)) (tl.drop (k + 1)) ∧ -9223372036854775808 ≤ rm - (m : Int) ∧ rm - (m : Int) ≤ 9223372036854775807 from ⟨hf2, by omega, by have := hR.out.2.2; omega⟩)
            clear hcell hf1 hf2 hm hR
            go_wp2
            go_roundw
            case rel => exact ⟨k + 1, rm - (m : Int), by omega, by go_num, by first | rfl | trivial, by first | rfl | trivial, HF2⟩
            case measure => simp [Go.RowKit.intOf]; omega
          · obtain rfl : k = n3 := by omega
            obtain ⟨wo, rfl⟩ : ∃ wo, wo = wr := ⟨_, rfl⟩
            have HQ0 := hide (show NwsS wo Bs A4 tl ∧ Below w.heap.size w wo from ⟨HS4.out, HB4.out⟩)
            clear hR HF HS4 HB4
            go_wp2
            go_loopw [12] (fun i wr => ∃ (a : Nat), a ≤ k ∧ i = .int .i64 (a : Int) ∧ Hid (NwsS wr Bs A4 tl ∧ Below w.heap.size w wr)) (fun i _ => k - (Go.RowKit.intOf i).toNat)
            case atStart => exact ⟨0, by omega, rfl, HQ0⟩
            case round =>
              obtain ⟨a, hak, rfl, hI⟩ := hrel
              clear HQ0
              obtain ⟨wa, rfl⟩ : ∃ wa, wa = wr := ⟨_, rfl⟩
              by_cases hal : a < k
              · have hat : a < tl.length := by rw [← HN3.out]; exact hal
                have hai : (a : Int) < (k : Int) := by omega
                go_wp2
                go_loopw [13] (fun i wr => ∃ (b : Nat), b ≤ a ∧ i = .int .i64 (b : Int) ∧ Hid (NwsS wr Bs A4 tl ∧ Below w.heap.size w wr)) (fun i _ => a - (Go.RowKit.intOf i).toNat)
                case atStart => exact ⟨0, by omega, rfl, hI⟩
                case round =>
                  obtain ⟨b, hba, rfl, hJ⟩ := hrel
                  clear hI
                  by_cases hbl : b < a
                  · have hbt : b < tl.length := by omega
                    obtain ⟨b4, rfl, -, -, hcell⟩ := hJ.out.1 (by omega)
                    obtain ⟨d1, -⟩ := hcell a hat
                    obtain ⟨d2, -⟩ := hcell b hbt
                    have hne := nodup_ne HND.out hat hbl
                    obtain ⟨x, hx⟩ : ∃ x, x = tl[a].1 := ⟨_, rfl⟩
                    obtain ⟨y, hy⟩ : ∃ y, y = tl[b].1 := ⟨_, rfl⟩
                    rw [← hx] at d1 hne
                    rw [← hy] at d2 hne
                    have R1 : ∀ p : BW wr, p.w.cell? ⟨b4, a * 2, none⟩ = some (.int .i64 x) := fun p => p.cell d1
                    have R2 : ∀ p : BW wr, p.w.cell? ⟨b4, b * 2, none⟩ = some (.int .i64 y) := fun p => p.cell d2
                    have hbi : (b : Int) < (a : Int) := by omega
                    have hbk : (b : Int) < (k : Int) := by omega
                    clear hcell d1 d2 hx hy
                    go_upto_region 23 with (fail)
                    refine wp_region_below wr (Below.refl _ _) (by kernel_rfl) (by kernel_rfl) ?_
                    try simp only [List.append_eq, List.cons_append, List.nil_append]
                    repeat (go_big_quiet_step (fail))
                    refine wpQuiet_nil ?_
                    intro _ hw'
                    obtain ⟨pq, hw2'⟩ := hw'
                    subst hw2'
                    have HJ2 := hide (show NwsS pq.w Bs (some ⟨b4, 0, none⟩) tl ∧ Below w.heap.size w pq.w from ⟨hJ.out.1.below pq.below, hJ.out.2.trans (pq.below.mono hJ.out.2.size)⟩)
                    obtain ⟨w5, hw5⟩ : ∃ W, W = pq.w := ⟨_, rfl⟩
                    rw [← hw5] at HJ2 ⊢
                    clear R1 R2 hJ hw5 pq
                    go_wp2
                    go_roundw
                    case rel => exact ⟨b + 1, by omega, by go_num, HJ2⟩
                    case measure => simp [Go.RowKit.intOf]; omega
                  · obtain rfl : b = a := by omega
                    go_wp2
                    go_roundw
                    case rel => exact ⟨b + 1, by omega, by go_num, hJ⟩
                    case measure => simp [Go.RowKit.intOf]; omega
              · obtain rfl : a = k := by omega
                have KN := hide (fun p : BW wa => known15_any p.w)
                have HBW := hide hI.out.2
                have hle : (a : Int) ≤ (ln : Int) := by omega
                clear hI
                by_cases hr : room ≥ 0
                · go_upto_region 25 with (fail)
                  refine wp_region_belowS wa (Below.refl _ _) ?_
                  try simp only [List.append_eq, List.cons_append, List.nil_append]
                  repeat
                    first
                    | (go_big_quiet_step (first
                      | ((go_at_call 10; with_reducible exact Calls.bel (KN.out _)))
                      | fail))
                  refine wpQuiet_nil ?_
                  intro _ hw'
                  obtain ⟨pq, hw2'⟩ := hw'
                  subst hw2'
                  have HR := hide (HBW.out.trans (pq.below.mono HBW.out.size))
                  go_wp2
                  go_ret
                  exact ⟨rfl, HR.out⟩
                · have ha0 : a = 0 := HFN.out (by omega)
                  subst ha0
                  have hr' : ¬ (0 : Int) ≤ room := by omega
                  go_upto_region 25 with (fail)
                  refine wp_region_belowS wa (Below.refl _ _) ?_
                  try simp only [List.append_eq, List.cons_append, List.nil_append]
                  repeat
                    first
                    | (go_big_quiet_step (first
                      | ((go_at_call 10; with_reducible exact Calls.bel (KN.out _)))
                      | fail))
                  refine wpQuiet_nil ?_
                  intro _ hw'
                  obtain ⟨pq, hw2'⟩ := hw'
                  subst hw2'
                  have HR := hide (HBW.out.trans (pq.below.mono HBW.out.size))
                  go_wp2
                  go_ret
                  exact ⟨rfl, HR.out⟩)
end Go.Proofs.Ytajpibopknpmmaa
