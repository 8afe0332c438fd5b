/-
  The walk of GossipTold.
-/
import Derived.Test.YtajpibopknpmmaaGu
import Derived.Test.YtajpibopknpmmaaGq
namespace Go.Proofs.Ytajpibopknpmmaa
open Go.RowKit
set_option maxRecDepth 100000
set_option linter.unusedVariables false
set_option linter.unusedSimpArgs false

/-- in the midst of the first loop. -/
structure TellA (w wr : World) (q mb : Nat) (v : Value) (j : Nat) (L : List (Int × Nw)) (ns lf : List Nat) : Prop where
  st : StT L ns lf
  len : lf.length = j
  few : ∀ k ∈ lf, k ≤ 12
  sum : ns.sum ≤ 50 * j
  que : QueV wr q mb 4096 L v
  row : OwnR wr w.heap.size 3 v ((lf.map fun k : Nat => (k : Int)).map izV)
  bel : Below w.heap.size w wr
theorem TellA.fewL {w wr : World} {q mb : Nat} {v : Value} {j : Nat} {L : List (Int × Nw)} {ns lf : List Nat} (h : TellA w wr q mb v j L ns lf) : L.length ≤ j := by
  have := h.st.keys.length_eq
  rw [List.length_map] at this
  rw [this]
  unfold waitK
  rw [List.length_map]
  exact Nat.le_trans (List.length_filter_le _ _) (by simp [h.len])
/-- in the midst of the rounds. -/
structure TellB (w wr : World) (q mb : Nat) (v : Value) (L : List (Int × Nw)) (ns lf : List Nat) : Prop where
  st : StT L ns lf
  que : QueV wr q mb 4096 L v
  row : OwnR wr w.heap.size 3 v ((lf.map fun k : Nat => (k : Int)).map izV)
  bel : Below w.heap.size w wr
/-- in the midst of one round. -/
structure TellC (w wr : World) (base q mb : Nat) (v : Value) (A : Option Addr) (L : List (Int × Nw)) (l : List (Int × List UInt8)) (lf : List Nat) : Prop where
  nws : NwsS wr base A l
  que : QueV wr q mb 4096 L v
  row : OwnR wr w.heap.size 3 v ((lf.map fun k : Nat => (k : Int)).map izV)
  bel : Below w.heap.size w wr
theorem TellB.fewL {w wr : World} {q mb : Nat} {v : Value} {L : List (Int × Nw)} {ns lf : List Nat} (h : TellB w wr q mb v L ns lf) : L.length ≤ lf.length := by
  have := h.st.keys.length_eq
  rw [List.length_map] at this
  rw [this]
  unfold waitK
  rw [List.length_map]
  exact Nat.le_trans (List.length_filter_le _ _) (by simp)
set_option maxHeartbeats 8000000 in
theorem gossipTold_any (w : World) (A1 : Option Addr) (c1 : Nat) (l1 : List Int) (A2 : Option Addr) (c2 : Nat) (l2 : List Int) (h1 : IntS w w.heap.size A1 l1) (h2 : IntS w w.heap.size A2 l2) (hl1 : l1.length ≤ 4611686018427387904) (hl2 : l2.length ≤ 4611686018427387904) :
    Calls Try.prog 5 #[.slice A1 l1.length c1, .slice A2 l2.length c2] w (RetV w (.bool true)) := by
  have HI1 := hide h1
  have HI2 := hide h2
  obtain ⟨n1, hn1⟩ : ∃ n, n = l1.length := ⟨_, rfl⟩
  obtain ⟨n2, hn2⟩ : ∃ n, n = l2.length := ⟨_, rfl⟩
  rw [← hn1] at hl1
  rw [← hn2] at hl2
  rw [← hn1, ← hn2]
  have HN1 := hide hn1
  have HN2 := hide hn2
  clear h1 h2 hn1 hn2
  go_enter Try.func5, Try.ntmps5
  go_wp2_with fail
  refine (newQ_any w 4096).mono ?_
  rintro e w1 ⟨hbel, ⟨-, q, mb, rfl, hq, hb, hv⟩ | ⟨hno, -⟩⟩
  rotate_left
  · exact absurd ⟨by decide, by decide⟩ hno
  have HM := hide hb
  have HA0 : Hid (∃ L ns lf, TellA w w1 q mb (.slice none 0 0) 0 L ns lf ∧ ns.sum = 0) := hide ⟨[], [], [], ⟨StT.nil, rfl, (fun k hk => by cases hk), by simp, ⟨_, hv, fun g hg => hg.elim, fun g hg => by cases hg⟩, OwnR.nil _ _ _, hbel⟩, rfl⟩
  clear hbel hv hq hb
  dsimp only
  go_wp2
  go_loopw [7, 8, 9] (fun v r i wr => ∃ (j rn : Nat), j ≤ 30 ∧ i = .int .i64 (j : Int) ∧ r = .int .i64 (rn : Int) ∧ Hid (∃ L ns lf, TellA w wr q mb v j L ns lf ∧ ns.sum = rn)) (fun _ _ i _ => 30 - (Go.RowKit.intOf i).toNat)
  case atStart => exact ⟨0, 0, by omega, rfl, rfl, HA0⟩
  case round =>
    obtain ⟨j, rn, hj, rfl, rfl, hI⟩ := hrel
    have hj0 : (0 : Int) ≤ (j : Int) := by omega
    by_cases hlt : j < n1 ∧ j < n2 ∧ j < 30
    · obtain ⟨ha, hb, hc⟩ := hlt
      obtain ⟨b1, o1, rfl, hb1, hc1⟩ := HI1.out (by rw [← HN1.out]; omega)
      obtain ⟨b2, o2, rfl, hb2, hc2⟩ := HI2.out (by rw [← HN2.out]; omega)
      obtain ⟨L, ns, lf, hT, hsum⟩ := hI.out
      obtain ⟨z1, hz1⟩ : ∃ z, z = l1[j]'(by rw [← HN1.out]; exact ha) := ⟨_, rfl⟩
      obtain ⟨z2, hz2⟩ : ∃ z, z = l2[j]'(by rw [← HN2.out]; exact hb) := ⟨_, rfl⟩
      have d1 : wr.cell? ⟨b1, o1 + j, none⟩ = some (.int .i64 z1) := by rw [hz1]; exact (hT.bel.cell (p := ⟨b1, _, none⟩) hb1).trans (hc1 j (by rw [← HN1.out]; exact ha))
      have d2 : wr.cell? ⟨b2, o2 + j, none⟩ = some (.int .i64 z2) := by rw [hz2]; exact (hT.bel.cell (p := ⟨b2, _, none⟩) hb2).trans (hc2 j (by rw [← HN2.out]; exact hb))
      have HT := hide hT
      have HSUM := hide hsum
      have hai : (j : Int) < (n1 : Int) := by omega
      have hbi : (j : Int) < (n2 : Int) := by omega
      have hci : (j : Int) < 30 := by omega
      have K1 := count_any z1 50 wr (by omega) (by omega)
      have K2 := count_any z2 12 wr (by omega) (by omega)
      obtain ⟨x, hx⟩ : ∃ x, x = countS z1 50 := ⟨_, rfl⟩
      obtain ⟨y, hy⟩ : ∃ y, y = countS z2 12 := ⟨_, rfl⟩
      have hx50 : x < 50 := by rw [hx]; exact count_lt z1 (by omega)
      have hy12 : y < 12 := by rw [hy]; exact count_lt z2 (by omega)
      rw [← hx] at K1
      rw [← hy] at K2
      obtain ⟨nx, hnx⟩ : ∃ n, n = x + 1 := ⟨_, rfl⟩
      obtain ⟨ny, hny⟩ : ∃ n, n = y + 1 := ⟨_, rfl⟩
      have e1 : (1 : Int) + (x : Int) = (nx : Int) := by omega
      have e2 : (1 : Int) + (y : Int) = (ny : Int) := by omega
      have hx1 : 0 < nx ∧ nx ≤ 50 := by omega
      have hy1 : 1 ≤ ny ∧ ny ≤ 12 := by omega
      have hwx : wrap64 (nx : Int) = (nx : Int) := wr64_small nx (by omega)
      have hwy : wrap64 (ny : Int) = (ny : Int) := wr64_small ny (by omega)
      have HX := hide hx1
      have HY := hide hy1
      clear hc1 hc2 hb1 hb2 hz1 hz2 hT hsum hI hx hy HA0 hnx hny hx50 hy12
      go_wp2_with fail
      refine K1.mono ?_
      rintro e w' ⟨rfl, hw'⟩
      subst hw'
      dsimp only
      clear K1
      go_wp2_with fail
      refine K2.mono ?_
      rintro e w' ⟨rfl, hw'⟩
      subst hw'
      dsimp only
      clear K2 d1 d2
      have hmk := make_u8n wr nx (by omega)
      obtain ⟨hpE, hpS⟩ := HT.out.st.put (n := nx) (k := ny) (by rw [HT.out.len]; omega) hx1 (by omega)
      rw [HT.out.len] at hpE hpS
      obtain ⟨z, hz⟩ : ∃ z, z = madeCells #[.int .u8 0] nx := ⟨_, rfl⟩
      have hzb := zeros_byt wr nx
      rw [← hz] at hmk hzb
      have KP := putV_any (wr.alloc (.cells z 5)) q mb 4096 L u7 (j : Int) (List.replicate nx 0) (some ⟨wr.heap.size, 0, none⟩) nx (ny : Int) (HT.out.que.below ((Below.refl _ _).alloc (Nat.le_refl _) _)) (by omega) (by rw [World.size_alloc]; exact hzb) (by rw [List.length_replicate]; omega)
      rw [List.length_replicate, hpE] at KP
      have HPS := hide hpS
      clear hz hzb hpE hpS hx1 hy1
      go_wp2_with fail
      refine KP.mono ?_
      rintro e w4 ⟨rfl, hq4, hg4⟩
      dsimp only
      have HB4 := hide (below_turnQ (HT.out.bel.alloc HT.out.bel.size _) hg4 HM.out)
      have HR4 : Hid (OwnR w4 w.heap.size 3 u7 ((lf.map fun k : Nat => (k : Int)).map izV)) := hide (OwnR.kept (HT.out.row.alloc _) hg4 (by
        obtain ⟨S, -, -, h9⟩ := HT.out.que
        cases hu : u7.ownBlock with
        | none => exact .inl rfl
        | some k => exact .inr (fun e => (h9 k hu).2.2.2 (by cases e; rfl))))
      have HQ4 := hide hq4
      clear hq4 hg4 KP hmk
      have hcast : ((j + 1 : Nat) : Int) = (j : Int) + 1 := by omega
      have hL : Hid (IntS (w4.alloc (.cells #[.int .i64 (ny : Int)] 3)) (w4.heap.size + 1) (some ⟨w4.heap.size, 0, none⟩) [(ny : Int)]) := hide (IntS.lit w4 [(ny : Int)] #[.int .i64 (ny : Int)] 3 (0, 0) rfl)
      have hO := hide (HR4.out.alloc (.cells #[.int .i64 (ny : Int)] 3))
      have hZ : Hid (w.heap.size ≤ (w4.alloc (.cells #[.int .i64 (ny : Int)] 3)).heap.size) := hide (by have := HB4.out.size; simp; omega)
      go_wp2_with (at_builtin; refine wpList_app_ints rfl (.tmp 61) (.tmp 63) rfl w.heap.size _ (lf.map fun k : Nat => (k : Int)) [(ny : Int)] (w4.heap.size + 1) 1 (some ⟨w4.heap.size, 0, none⟩) rfl rfl hO.out hL.out (fun e => by cases e) (by simp; have := HT.out.len; omega) hZ.out ?_)
      intro v5 w5 hown5 hgrow5 hat5
      have HA5 : Hid (∃ L ns lf, TellA w w5 q mb v5 (j + 1) L ns lf ∧ ns.sum = rn + nx) := hide ⟨_, _, _, ⟨HPS.out, by rw [List.length_append, HT.out.len]; rfl, fun k hk => by
          rcases List.mem_append.1 hk with hk | hk
          · exact HT.out.few k hk
          · simp at hk; subst hk; exact HY.out.2, by rw [List.sum_append]; have := HT.out.sum; have := HX.out.2; simp; omega, (HQ4.out.below ((Below.refl _ _).alloc (Nat.le_refl _) _)).app hgrow5 (by rw [World.size_alloc]; exact hat5) (fun g hg => (hown5.at g hg).2), by
            rw [List.map_append, List.map_append, List.map_map]; exact hown5, (HB4.out.alloc HB4.out.size _).grown hgrow5 hZ.out (fun g hg => (hO.out.at g hg).1)⟩, by rw [List.sum_append, HSUM.out]; simp⟩
      clear hown5 hgrow5 hat5 hL hO hZ HQ4 HR4 HB4
      have hrn : (rn : Int) ≤ 1500 := by have := HT.out.sum; have := HSUM.out; omega
      have hrn0 : (0 : Int) ≤ (rn : Int) := by omega
      have hxi : (nx : Int) ≤ 50 := by have := HX.out; omega
      have hxi0 : (0 : Int) ≤ (nx : Int) := by omega
      go_wp2
      go_roundw
      case rel => exact ⟨j + 1, rn + nx, by omega, by go_num, by go_num, HA5⟩
      case measure => simp [Go.RowKit.intOf]; omega
    · have HX : Hid (∃ L ns lf, TellA w wr q mb u7 j L ns lf ∧ ns.sum = rn) := hI
      clear HA0
      obtain ⟨L, ns, lf, hT, hsum⟩ := HX.out
      have HB0 : Hid (∃ L, TellB w wr q mb u7 L ns (lf.map (· - 0))) := hide ⟨L, by simpa using hT.st, hT.que, by simpa using hT.row, hT.bel⟩
      have HFEW := hide hT.few
      have HLEN := hide hT.len
      have hrn1 : rn ≤ 1500 := by have := hT.sum; omega
      have HSUM := hide hsum
      obtain ⟨A7, c7, ev, -⟩ := hT.row.shape
      rw [List.length_map, List.length_map, hT.len] at ev
      subst ev
      clear hT hsum HX hI
      have h3 : (j < n1 ∧ j < n2 ∧ ¬ j < 30) ∨ (j < n1 ∧ ¬ j < n2) ∨ ¬ j < n1 := by omega
      clear hlt
      rcases h3 with ⟨ha, hb, hc⟩ | ⟨ha, hb⟩ | ha
      all_goals (
        try have hai : (j : Int) < (n1 : Int) := by omega
        try have hai : ¬ (j : Int) < (n1 : Int) := by omega
        try have hbi : (j : Int) < (n2 : Int) := by omega
        try have hbi : ¬ (j : Int) < (n2 : Int) := by omega
        try have hci : ¬ (j : Int) < 30 := by omega
        go_upto_region 15 with (fail)
        have hrni : (rn : Int) ≤ 1500 := by omega
        clear hai
        go_wp2
        go_loopw [12] (fun v wr => ∃ t : Nat, t ≤ 14 ∧ v = .int .i64 (t : Int) ∧ Hid (∃ L, TellB w wr q mb (.slice A7 j c7) L ns (lf.map (· - t)))) (fun v _ => 14 - (Go.RowKit.intOf v).toNat)
        case atStart => exact ⟨0, by omega, rfl, HB0⟩
        case round =>
          obtain ⟨t, ht, rfl, hI⟩ := hrel
          clear HB0
          obtain ⟨wo, rfl⟩ : ∃ wo, wo = wr := ⟨_, rfl⟩
          by_cases htl : t < 14
          · obtain ⟨L1, hB⟩ := hI.out
            have hti : (t : Int) < 14 := by omega
            have hL30 := hB.fewL
            rw [List.length_map, HLEN.out] at hL30
            obtain ⟨hr1, hr2⟩ := hB.st.round (room := (rn : Int)) (by rw [HSUM.out]; omega)
            have KQ := pickV_any wo q mb 4096 L1 (.slice A7 j c7) (rn : Int) hB.que (by omega) (by omega)
            have hksm : ∀ k, k ∈ ordQ L1 (L1.map (·.1)) ↔ 0 ≤ k ∧ 0 < (lf.map (· - t)).getD k.toNat 0 := fun k => by
              rw [(ordQ_perm L1 (L1.map (·.1))).mem_iff, ← hasQ_iff, hB.st.has, decide_eq_true_eq]
            have hksn : (ordQ L1 (L1.map (·.1))).Nodup := (ordQ_perm L1 (L1.map (·.1))).nodup_iff.2 hB.st.1.nodup
            have hkl : (ordQ L1 (L1.map (·.1))).length ≤ 30 := by have := (ordQ_perm L1 (L1.map (·.1))).length_eq; rw [List.length_map] at this; omega
            rw [hr1] at KQ
            obtain ⟨ks, hks⟩ : ∃ ks, ks = ordQ L1 (L1.map (·.1)) := ⟨_, rfl⟩
            rw [← hks] at KQ hksm hksn hkl
            rw [List.length_map] at KQ
            obtain ⟨n3, hn3⟩ : ∃ n, n = ks.length := ⟨_, rfl⟩
            rw [← hn3] at KQ hkl
            have HN3 := hide hn3
            have HKM := hide hksm
            have HKN := hide hksn
            have HR2 := hide hr2
            have HB := hide hB
            clear hr1 hr2 hksm hksn hks hn3 hB hI hL30
            go_wp2_with fail
            refine KQ.mono ?_
            rintro e w4 ⟨A4, c4, rfl, hs4, hq4, hg4⟩
            dsimp only
            have hr4 : OwnR w4 w.heap.size 3 (.slice A7 j c7) (((lf.map (· - t)).map fun k : Nat => (k : Int)).map izV) := HB.out.row.kept hg4 (by
              obtain ⟨S, -, -, h9⟩ := HB.out.que
              cases hu : (Value.slice A7 j c7).ownBlock with
              | none => exact .inl rfl
              | some k => exact .inr (fun e => (h9 k hu).2.2.2 (by cases e; rfl)))
            have HC0 : Hid (TellC w w4 wo.heap.size q mb (.slice A7 j c7) A4 (tellQ L1 (rn : Int)).2 (ks.map fun k => (k, dataQ L1 k)) (decL (lf.map (· - t)) (ks.take 0))) := hide ⟨hs4, hq4, by simpa [decL] using hr4, below_turnQ HB.out.bel hg4 HM.out⟩
            clear hs4 hq4 hg4 hr4 KQ
            go_wp2
            go_loopw [14] (fun v wr2 => ∃ i : Nat, i ≤ n3 ∧ v = .int .i64 (i : Int) ∧ Hid (TellC w wr2 wo.heap.size q mb (.slice A7 j c7) A4 (tellQ L1 (rn : Int)).2 (ks.map fun k => (k, dataQ L1 k)) (decL (lf.map (· - t)) (ks.take i)))) (fun v _ => n3 - (Go.RowKit.intOf v).toNat)
            case atStart => exact ⟨0, by omega, rfl, HC0⟩
            case round =>
              obtain ⟨i, hi, rfl, hC⟩ := hrel
              clear HC0
              by_cases hil : i < n3
              · have hik : i < ks.length := by rw [← HN3.out]; exact hil
                obtain ⟨K, x, hK, hKl, hx0, hx, hset⟩ := told_at HKN.out HKM.out hik
                have hKj : K < j := by rw [List.length_map, HLEN.out] at hKl; exact hKl
                obtain ⟨b4, rfl, -, hle4, hcell4⟩ := hC.out.nws (by rw [List.length_map]; omega)
                have d4 := (hcell4 i (by rw [List.length_map]; exact hik)).1
                rw [List.getElem_map] at d4
                dsimp only at d4
                rw [hK] at d4
                obtain ⟨g7, c7', e7, hge7, hlt7, -⟩ := hC.out.row.pos (by rw [List.length_map, List.length_map, decL_len]; omega)
                rw [List.length_map, List.length_map, decL_len, List.length_map, HLEN.out] at e7
                simp only [Value.slice.injEq, true_and] at e7
                obtain ⟨rfl, rfl⟩ := e7
                have hrl : K < (((decL (lf.map (· - t)) (ks.take i)).map fun k : Nat => (k : Int)).map izV).length := by rw [List.length_map, List.length_map, decL_len]; exact hKl
                have d7 := OwnR.cell hC.out.row K hrl
                have f7 := OwnR.frozen hC.out.row K
                have hset7 := OwnR.set hC.out.row K (.int .i64 (x : Int))
                have hxv : (((decL (lf.map (· - t)) (ks.take i)).map fun k : Nat => (k : Int)).map izV)[K]'hrl = .int .i64 ((x + 1 : Nat) : Int) := by
                  have h9 : K < (decL (lf.map (· - t)) (ks.take i)).length := by rw [decL_len]; exact hKl
                  rw [List.getD_eq_getElem?_getD, List.getElem?_eq_getElem h9, Option.getD_some] at hx
                  rw [List.getElem_map, List.getElem_map, hx]; rfl
                rw [hxv] at d7
                have HS7 := hide hset7
                have HC := hide hC.out
                have HSET := hide hset
                have HGE7 := hide hge7
                have HLT7 := hide hlt7
                clear hset7 hset hxv hx hcell4 hC hge7 hlt7 hle4
                have hKj' : (K : Int) < (j : Int) := by omega
                have hK0 : (0 : Int) ≤ (K : Int) := by omega
                have hii : (i : Int) < (n3 : Int) := by omega
                have hxb : x ≤ 100000 := by have := few_getD HFEW.out t K; omega
                have hx64 := wr64_small x hxb
                clear hx0 hxb
                have HC2 : Hid (TellC w (wr.setCell ⟨g7, K, none⟩ (.int .i64 (x : Int))) wo.heap.size q mb (.slice (some ⟨g7, 0, none⟩) j c7) (some ⟨b4, 0, none⟩) (tellQ L1 (rn : Int)).2 (ks.map fun k => (k, dataQ L1 k)) (decL (lf.map (· - t)) (ks.take (i + 1)))) := hide ⟨HC.out.nws.grown HS7.out.2 (HB.out.row.at g7 rfl).2, HC.out.que.app (v' := .slice (some ⟨g7, 0, none⟩) j c7) HS7.out.2 (.inl rfl) (fun g hg => by cases hg; exact Nat.lt_of_lt_of_le HLT7.out HS7.out.2.size), by
                    rw [HSET.out, List.map_set, List.map_set]; exact HS7.out.1, HC.out.bel.grown HS7.out.2 HC.out.bel.size (fun g hg => by cases hg; exact HGE7.out)⟩
                clear HS7 HC HSET HGE7 HLT7
                go_wp2
                go_roundw
                case rel => exact ⟨i + 1, by omega, by go_num, HC2⟩
                case measure => simp [Go.RowKit.intOf]; omega
              · obtain rfl : i = n3 := by omega
                have HB3 : Hid (∃ L, TellB w wr q mb (.slice A7 j c7) L ns (lf.map (· - (t + 1)))) := hide ⟨_, by
                    have := HR2.out
                    rw [sub_map] at this
                    exact this, hC.out.que, by
                    have := hC.out.row
                    rw [HN3.out, List.take_length, decL_all HKN.out HKM.out, sub_map] at this
                    exact this, hC.out.bel⟩
                clear hC HR2 HB
                go_wp2
                go_roundw
                case rel => exact ⟨t + 1, by omega, by go_num, HB3⟩
                case measure => simp [Go.RowKit.intOf]; omega
          · obtain rfl : t = 14 := by omega
            obtain ⟨L1, hB⟩ := hI.out
            have hz14 := zeros14 HFEW.out
            rw [HLEN.out] at hz14
            rw [hz14] at hB
            have hL0 := hB.st.none
            subst hL0
            have HB := hide hB
            clear hI hz14 hB
            go_wp2
            go_loopw [15] (fun v wr => ∃ i : Nat, i ≤ j ∧ v = .int .i64 (i : Int) ∧ wr = wo) (fun v _ => j - (Go.RowKit.intOf v).toNat)
            case atStart => exact ⟨0, by omega, rfl, rfl⟩
            case round =>
              obtain ⟨i, hi, rfl, rfl⟩ := hrel
              by_cases hil : i < j
              · obtain ⟨g7, c7', e7, -, -, -⟩ := HB.out.row.pos (by rw [List.length_map, List.length_map, List.length_replicate]; omega)
                rw [List.length_map, List.length_map, List.length_replicate] at e7
                simp only [Value.slice.injEq, true_and] at e7
                obtain ⟨rfl, rfl⟩ := e7
                have d7 := OwnR.cell HB.out.row i (by rw [List.length_map, List.length_map, List.length_replicate]; exact hil)
                rw [List.getElem_map, List.getElem_map, List.getElem_replicate] at d7
                change wr.cell? ⟨g7, i, none⟩ = some (.int .i64 0) at d7
                obtain ⟨S, hS, -⟩ := HB.out.que.t
                have KL := leftQ_any wr q mb 4096 [] S (i : Int) hS
                change Calls Try.prog 20 #[.pointer (some ⟨q, 0, none⟩), .int .i64 (i : Int)] wr fun e w' => e = .returned (.int .i64 0) ∧ w' = wr at KL
                have hii : (i : Int) < (j : Int) := by omega
                clear hS
                go_wp2_with fail
                refine KL.mono ?_
                rintro e w' ⟨rfl, hw'⟩
                subst hw'
                dsimp only
                clear KL d7
                go_wp2
                go_roundw
                case rel => exact ⟨i + 1, by omega, by go_num, trivial⟩
                case measure => simp [Go.RowKit.intOf]; omega
              · obtain rfl : i = j := by omega
                obtain ⟨S, hS, -⟩ := HB.out.que.t
                have KL := lenQ_any wr q mb 4096 [] S hS
                change Calls Try.prog 22 #[.pointer (some ⟨q, 0, none⟩)] wr fun e w' => e = .returned (.int .i64 0) ∧ w' = wr at KL
                have KN := known15_any wr
                have HBE := hide HB.out.bel
                clear hS
                go_wp2_with fail
                refine KL.mono ?_
                rintro e w' ⟨rfl, hw'⟩
                subst hw'
                dsimp only
                clear KL
                go_wp2_with fail
                refine KN.mono ?_
                rintro e w' ⟨rfl, hb'⟩
                dsimp only
                have HR := hide (HBE.out.trans (hb'.mono HBE.out.size))
                clear KN hb'
                go_wp2
                go_ret
                exact ⟨rfl, HR.out⟩)
end Go.Proofs.Ytajpibopknpmmaa
