/-
  The walk of addr.GetTuple: bytes as a tuple.
-/
import Derived.Test.YtgbmamahkpkdfaaPcs
import Derived.Test.YtgbmamahkpkdfaaTue
import Derived.Deep.CutRange
namespace Go.Proofs.Ytgbmamahkpkdfaa
open Go.RowKit
attribute [local go_sem ↓] exec_span exec_put exec_build heap_alloc_new heap_old
attribute [local go_sem] spanQ_ptr spanC_some heap_of_drew heap_of_drewN rs_arr rs_ad rs_tup putAt_ptr putOk_ptr oldOk_some built_none World.setRow_alloc_new
set_option maxRecDepth 100000
set_option linter.unusedVariables false

theorem run_tupB {b : List UInt8} (h : b.length = 38) : runS b tupOps 0 = ([((b.getD 0 0).toNat, []), ((b.getD 1 0).toNat, []), (0, (b.drop 2).take 16), (0, (b.drop 18).take 16), (numS ((b.drop 34).take 2), []), (numS ((b.drop 36).take 2), [])], 38, 0) := by
  match b, h with
  | x :: y :: t, h =>
    simp only [List.length_cons] at h
    have ht : t.length = 36 := by omega
    simp only [tupOps, runS, pieceS, List.length_cons, ht]
    simp [numS]
theorem items_six {items : List VItem} {a b c d e f : Nat × List UInt8} (h : items.map (fun it => (it.N, it.b)) = [a, b, c, d, e, f]) :
    ∃ i j k l m n, items = [i, j, k, l, m, n] ∧ (i.N, i.b) = a ∧ (j.N, j.b) = b ∧ (k.N, k.b) = c ∧ (l.N, l.b) = d ∧ (m.N, m.b) = e ∧ (n.N, n.b) = f := by
  match items, h with
  | [i, j, k, l, m, n], h =>
    simp only [List.map_cons, List.map_nil, List.cons.injEq, and_true] at h
    exact ⟨i, j, k, l, m, n, rfl, h⟩
theorem built_noneT : Try.prog.built 62 [] = some tupZ := by kernel_rfl
attribute [local go_sem] built_noneT
theorem tupZ_one : allOne tupZ = true := tupZ_tu.one

/-- what the making of the tuple leaves: a new block that holds it. -/
def CutG (Y : Array Value) (w3 : World) (p : Value) (wx : World) : Prop := ∃ g8, p = .pointer (some ⟨g8, 0, none⟩) ∧ w3.heap.size ≤ g8 ∧ wx.heap[g8]? = some (.cells Y 62 (0, 0)) ∧ Below w3.heap.size w3 wx
set_option maxHeartbeats 4000000 in
theorem gettuple_any (w : World) (B : Nat) (A : Option Addr) (c : Nat) (b : List UInt8) (hl : b.length ≤ c) (hn : b.length ≤ 140737488355328) (hb : Byt w B A b) (hB : B ≤ w.heap.size) :
    Calls Try.prog 40 #[.slice A b.length c] w fun e w' => (∃ Y, e = .returned (.tuple #[.agg Y, .int .i64 (getE b)]) ∧ TuV Y (getT b)) ∧ Below w.heap.size w w' := by
  go_enter Try.func40, Try.ntmps40
  obtain ⟨W, hW, h1, hz, hbw⟩ := one_block w (.cells tupZ 62)
  rw [tupZ_ok] at hW
  have hzs := tupZ_size
  have hzo := tupZ_one
  have HB := hide hbw
  have HZ := hide hz
  have H1 := hide h1
  clear hz hbw
  have hfail : ∀ W' : World, Below w.heap.size w W' → Below w.heap.size w (W'.setRow w.heap.size tupZ) := fun W' h => below_setRow h (Nat.le_refl _) _
  have HFAIL := hide hfail
  clear hfail
  by_cases h38 : b.length = 38
  · have hrun := run_tupB h38
    have HG := hide (rfl : getE b = getE b)
    rw [h38]
    go_wp2_with fail
    refine (pieces_any W _ rfl).mono ?_
    rintro e w2 ⟨rfl, hops, hb2, hz2⟩
    have hby2 : Byt w2 w2.heap.size A b := ((hb.below (HB.out.mono hB)).below (hb2.mono (by have := HZ.out; omega))).more (by have := HZ.out; omega)
    have h12 := row_kept hb2 (by have := HZ.out; omega) H1.out
    have C := run_any w2 A (some ⟨W.heap.size, 0, none⟩) b c 6 tupOps hl hn hby2 (hops.keep (by omega) (fun _ _ => rfl)) (by decide)
    rw [hrun, h38] at C
    have HC := hide C
    have HB2 : Hid (Below w.heap.size w w2) := hide (HB.out.trans (hb2.mono (by have := HZ.out; omega)))
    have HZ2 := hide hz2
    clear C hops hz2 hrun hl hn hb hB hby2
    dsimp only
    go_wp2_with fail
    refine HC.out.mono ?_
    rintro e w3 ⟨vv, items, rfl, hov, hit, hb3⟩
    obtain ⟨i0, i1, i2, i3, i4, i5, rfl, e0, e1, e2, e3, e4, e5⟩ := items_six hit
    obtain ⟨Av, cv, rfl, hcv, hcell⟩ := hov.shape
    obtain ⟨gg, rfl, hgg, hgl, hcc⟩ := hcell (Nat.succ_pos 5)
    obtain ⟨c0, -⟩ := hcc 0 (by simp)
    obtain ⟨c1, -⟩ := hcc 1 (by simp)
    obtain ⟨-, c2⟩ := hcc 2 (by simp)
    obtain ⟨-, c3⟩ := hcc 3 (by simp)
    obtain ⟨c4, -⟩ := hcc 4 (by simp)
    obtain ⟨c5, -⟩ := hcc 5 (by simp)
    obtain ⟨A2, d2, hv2, hld2, hby2, -, -⟩ := (hov.each i2 (by simp)).shape
    obtain ⟨A3, d3, hv3, hld3, hby3, -, -⟩ := (hov.each i3 (by simp)).shape
    simp only [Prod.mk.injEq] at e0 e1 e2 e3 e4 e5
    simp only [List.getElem_cons_zero, List.getElem_cons_succ, Nat.zero_mul] at c0 c1 c2 c3 c4 c5
    rw [hv2] at c2
    rw [hv3] at c3
    rw [e2.2] at c2 hby2
    rw [e3.2] at c3 hby3
    rw [e0.1] at c0
    rw [e1.1] at c1
    rw [e4.1] at c4
    rw [e5.1] at c5
    have hl2 : ((b.drop 2).take 16).length = 16 := by simp [h38]
    have hl3 : ((b.drop 18).take 16).length = 16 := by simp [h38]
    obtain ⟨sb, hsb⟩ : ∃ l, l = (b.drop 2).take 16 := ⟨_, rfl⟩
    obtain ⟨db, hdb⟩ : ∃ l, l = (b.drop 18).take 16 := ⟨_, rfl⟩
    obtain ⟨xp, hxp⟩ : ∃ n, n = (b.getD 1 0).toNat := ⟨_, rfl⟩
    obtain ⟨xs, hxs⟩ : ∃ n, n = numS ((b.drop 34).take 2) := ⟨_, rfl⟩
    obtain ⟨xd, hxd⟩ : ∃ n, n = numS ((b.drop 36).take 2) := ⟨_, rfl⟩
    obtain ⟨xv, hxv⟩ : ∃ n, n = b.getD 0 0 := ⟨_, rfl⟩
    have hxpb : xp ≤ 255 := by rw [hxp]; have := (b.getD 1 0).toNat_lt; omega
    have hport : ∀ l : List UInt8, l.length ≤ 2 → numS l ≤ 65535 := fun l hl => by
      have h1 := numS_lt l
      have h2 : 256 ^ l.length ≤ 256 ^ 2 := Nat.pow_le_pow_right (by decide) hl
      have h3 : (256 : Nat) ^ 2 = 65536 := by decide
      omega
    have hxsb : xs ≤ 65535 := by rw [hxs]; exact hport _ (by rw [List.length_take]; omega)
    have hxdb : xd ≤ 65535 := by rw [hxd]; exact hport _ (by rw [List.length_take]; omega)
    rw [← hxp] at c1
    rw [← hxs] at c4
    rw [← hxd] at c5
    rw [← hxv] at c0
    rw [← hsb] at c2 hby2 hl2
    rw [← hdb] at c3 hby3 hl3
    rw [hl2] at c2
    rw [hl3] at c3
    have hgot : Hid (gotT b = ⟨xv == 6, sb, xv == 6, db, (xp : Int), (xs : Int), (xd : Int)⟩) := hide (by unfold gotT; rw [← hxv, ← hsb, ← hdb, ← hxp, ← hxs, ← hxd])
    have hgE : Hid (getE b = if xv.toNat ≠ 4 ∧ xv.toNat ≠ 6 then 13 else if protoOk (xp : Int) = false then 14 else if (rightL (xv == 6) sb && rightL (xv == 6) db) = false then 11 else 0) := hide (by
      unfold getE
      rw [if_neg (by omega), hgot.out, ← hxv])
    have h13 := row_kept hb3 (by have := HZ.out; have := HZ2.out; omega) (row_kept (Below.refl w2.heap.size w2) (by have := HZ.out; have := HZ2.out; omega) h12)
    have HB3 : Hid (Below w.heap.size w w3) := hide (HB2.out.trans (hb3.mono HB2.out.size))
    have HL2 := hide hl2
    have HL3 := hide hl3
    have HY2 := hide hby2
    have HY3 := hide hby3
    have HG0 := hide hgl
    clear hcc hcell hov hit e0 e1 e2 e3 e4 e5 hv2 hv3 hsb hdb hxp hxs hxd hxv hl2 hl3 hby2 hby3 hb3 hport HC hgl h1 hW HG h38 h12
    dsimp only
    by_cases hver : xv.toNat ≠ 4 ∧ xv.toNat ≠ 6
    · have hE : Hid (getE b = 13) := hide (by rw [hgE.out, if_pos hver])
      have hT : Hid (getT b = tupE) := hide (by unfold getT; rw [if_neg (by rw [hE.out]; decide)])
      have hv4 : ((xv.toNat : Int) != 4) = true := by simp; omega
      have hv6 : ((xv.toNat : Int) != 6) = true := by simp; omega
      clear hgE
      go_wp2
      refine bodyPost_ret (results_cell_tmp (fn := Try.f40) Try.results40 _ _ w.heap.size 62 tupZ (0, 0) _ rfl (setRow_heap w3 _ _ _ _ _ h13) Try.underlying62 rfl info_tup) rfl ⟨⟨tupZ, ?_, ?_⟩, HFAIL.out _ HB3.out⟩
      · rw [hE.out]; rfl
      · rw [hT.out]; exact tupZ_tu
    · have hgE2 : Hid (getE b = if protoOk (xp : Int) = false then 14 else if (rightL (xv == 6) sb && rightL (xv == 6) db) = false then 11 else 0) := hide (by rw [hgE.out, if_neg hver])
      obtain ⟨ver, hvr⟩ : ∃ v, v = (xv == 6) := ⟨_, rfl⟩
      rw [← hvr] at hgE2 hgot
      have h46 : (xv.toNat = 4 ∧ ver = false) ∨ (xv.toNat = 6 ∧ ver = true) := by
        by_cases h4 : xv.toNat = 4
        · exact .inl ⟨h4, by rw [hvr, show xv = 4 from UInt8.toNat.inj h4]; rfl⟩
        · by_cases h6 : xv.toNat = 6
          · exact .inr ⟨h6, by rw [hvr, show xv = 6 from UInt8.toNat.inj h6]; rfl⟩
          · exact absurd ⟨h4, h6⟩ hver
      obtain ⟨xv, hxv⟩ : ∃ n, n = xv.toNat := ⟨_, rfl⟩
      rw [← hxv] at c0 h46
      clear hver hgE hvr hxv
      obtain ⟨S, hS⟩ : ∃ S, S = (adL ver sb).toArray := ⟨_, rfl⟩
      obtain ⟨D, hD⟩ : ∃ D, D = (adL ver db).toArray := ⟨_, rfl⟩
      have hpadS : padL sb = sb := by unfold padL; rw [HL2.out]; simp
      have hpadD : padL db = db := by unfold padL; rw [HL3.out]; simp
      have hads : ∀ W', Below w3.heap.size w3 W' → Calls Try.prog 82 #[.slice A2 16 d2, .bool ver] W' fun e w' => e = .returned (.agg S) ∧ Below w3.heap.size w3 w' ∧ Below W'.heap.size W' w' := fun W' hb => by
        have h := address_any W' A2 d2 sb ver W'.heap.size (by rw [HL2.out]; exact Nat.le_refl _) ((HY2.out.below hb).more hb.size) (Nat.le_refl _)
        rw [HL2.out, hpadS, ← hS] at h
        exact h.mono fun e w' ⟨h1, h2⟩ => ⟨h1, hb.trans (h2.mono hb.size), h2⟩
      have hadd : ∀ W', Below w3.heap.size w3 W' → Calls Try.prog 82 #[.slice A3 16 d3, .bool ver] W' fun e w' => e = .returned (.agg D) ∧ Below w3.heap.size w3 w' ∧ Below W'.heap.size W' w' := fun W' hb => by
        have h := address_any W' A3 d3 db ver W'.heap.size (by rw [HL3.out]; exact Nat.le_refl _) ((HY3.out.below hb).more hb.size) (Nat.le_refl _)
        rw [HL3.out, hpadD, ← hD] at h
        exact h.mono fun e w' ⟨h1, h2⟩ => ⟨h1, hb.trans (h2.mono hb.size), h2⟩
      obtain ⟨T, hT⟩ : ∃ T : Tup, T = ⟨ver, sb, ver, db, (xp : Int), (xs : Int), (xd : Int)⟩ := ⟨_, rfl⟩
      obtain ⟨Y, hY⟩ : ∃ Y, Y = (tupL T).toArray := ⟨_, rfl⟩
      have hYT : TuV Y T := by rw [hY, hT]; exact TuV.mk' HL2.out HL3.out
      have hbt : Try.prog.built 62 [(0, .agg S), (1, .agg D), (2, .int .i64 (xp : Int)), (3, .int .i64 (xs : Int)), (4, .int .i64 (xd : Int))] = some Y := by
        rw [hS, hD, hY, hT]; exact built_tup ver ver _ _ _ sb db HL2.out HL3.out
      rw [← hT] at hgot
      have hYs := hYT.size
      have hYo := hYT.one
      have hY0 := hYT.x0
      have hYS : Y.extract 0 17 = S := by rw [hYT.src, hT, hS]
      have hYD : Y.extract 17 34 = D := by rw [hYT.dst, hT, hD]
      have hYp : Y[34]? = some (.int .i64 (xp : Int)) := by rw [hYT.at.2.2.1, hT]
      have hAS : AdV S ver sb := by rw [hS]; exact AdV.mk' HL2.out
      have hAD : AdV D ver db := by rw [hD]; exact AdV.mk' HL3.out
      have HADS := hide hads
      have HADD := hide hadd
      have HYT := hide hYT
      have HAS := hide hAS
      have HAD := hide hAD
      have HT := hide hT
      have H13 := hide h13
      have hkeep : ∀ w' : World, Below w3.heap.size w3 w' → w'.cell? ⟨gg, 2, none⟩ = some (.int .u64 (xp : Int)) ∧ w'.cell? ⟨gg, 5, none⟩ = some (.slice A2 16 d2) ∧ w'.cell? ⟨gg, 7, none⟩ = some (.slice A3 16 d3) ∧ w'.cell? ⟨gg, 8, none⟩ = some (.int .u64 (xs : Int)) ∧ w'.cell? ⟨gg, 10, none⟩ = some (.int .u64 (xd : Int)) := fun w' hb =>
        ⟨(hb.cell (by exact HG0.out)).trans c1, (hb.cell (by exact HG0.out)).trans c2, (hb.cell (by exact HG0.out)).trans c3, (hb.cell (by exact HG0.out)).trans c4, (hb.cell (by exact HG0.out)).trans c5⟩
      have HKEEP := hide hkeep
      clear hads hadd hpadS hpadD hS hD hT hY hYT hAS hAD hkeep
      have hwp : IntKind.i64.wrap (xp : Int) = (xp : Int) := wrap_i _ (by omega) (by omega)
      have hws : IntKind.i64.wrap (xs : Int) = (xs : Int) := wrap_i _ (by omega) (by omega)
      have hwd : IntKind.i64.wrap (xd : Int) = (xd : Int) := wrap_i _ (by omega) (by omega)
      have hfin : True := trivial
      rcases h46 with ⟨rfl, rfl⟩ | ⟨rfl, rfl⟩
      · rw [show ((4 : Nat) : Int) = 4 from rfl] at c0
        have d0 := hide c0
        go_wp2_with fail
        go_cut [8] from 31 to 60 (fun p wx => CutG Y w3 p wx)
        case first =>
          go_region_held3 (fun w' => w'.cell? ⟨gg, 2, none⟩ = some (.int .u64 (xp : Int)) ∧ w'.cell? ⟨gg, 5, none⟩ = some (.slice A2 16 d2) ∧ w'.cell? ⟨gg, 7, none⟩ = some (.slice A3 16 d3) ∧ w'.cell? ⟨gg, 8, none⟩ = some (.int .u64 (xs : Int)) ∧ w'.cell? ⟨gg, 10, none⟩ = some (.int .u64 (xd : Int)))
            (first
              | exact ⟨c1, c2, c3, c4, c5⟩
              | (apply HKEEP.out; exact HB5.out)
              | (apply HKEEP.out; exact HB4.out)
              | (apply HKEEP.out; exact below_setRow HB5.out (Nat.le_refl _) _)
              | (apply HKEEP.out; exact below_setRow HB5.out HB4.out.size _)
              | (apply HKEEP.out; exact HB5.out.alloc HB5.out.size _)
              | (apply HKEEP.out; exact HB4.out.alloc HB4.out.size _)
              | (apply HKEEP.out; exact ((Below.refl _ _).alloc (Nat.le_refl _) _).drew)
              | fail)
            (first
              | (have hx := HB4; clear hx; go_at_call 82; first
                  | (with_reducible refine Calls.mono (HADS.out w4 HB4.out) ?_; rintro e w5 ⟨rfl, hb5, hc5⟩; have HB5 := hide hb5; obtain ⟨q1, q2, q3, q4, q5⟩ := HKEEP.out w5 HB5.out; (first | (have hr5 := row_kept hc5 (Array.getElem?_eq_some_iff.1 hr4).1 hr4) | skip); clear hb5 hc5)
                  | (with_reducible refine Calls.mono (HADS.out (w4.alloc _) (HB4.out.alloc HB4.out.size _)) ?_; rintro e w5 ⟨rfl, hb5, hc5⟩; have HB5 := hide hb5; obtain ⟨q1, q2, q3, q4, q5⟩ := HKEEP.out w5 HB5.out; have hr5 := row_kept hc5 (by simp) (heap_alloc_new w4 _); clear hb5 hc5)
                  | (with_reducible refine Calls.mono (HADD.out w4 HB4.out) ?_; rintro e w5 ⟨rfl, hb5, hc5⟩; have HB5 := hide hb5; obtain ⟨q1, q2, q3, q4, q5⟩ := HKEEP.out w5 HB5.out; (first | (have hr5 := row_kept hc5 (Array.getElem?_eq_some_iff.1 hr4).1 hr4) | skip); clear hb5 hc5)
                  | (with_reducible refine Calls.mono (HADD.out (w4.alloc _) (HB4.out.alloc HB4.out.size _)) ?_; rintro e w5 ⟨rfl, hb5, hc5⟩; have HB5 := hide hb5; obtain ⟨q1, q2, q3, q4, q5⟩ := HKEEP.out w5 HB5.out; have hr5 := row_kept hc5 (by simp) (heap_alloc_new w4 _); clear hb5 hc5)
                  | fail)
              | (go_at_call 82; first
                  | (with_reducible refine Calls.mono (HADS.out w3.drew (Below.refl _ _).drew) ?_; rintro e w4 ⟨rfl, hb4, hc4⟩; have HB4 := hide hb4; obtain ⟨p1, p2, p3, p4, p5⟩ := HKEEP.out w4 HB4.out; clear hb4 hc4)
                  | (with_reducible refine Calls.mono (HADS.out (w3.alloc _).drew ((Below.refl _ _).alloc (Nat.le_refl _) _).drew) ?_; rintro e w4 ⟨rfl, hb4, hc4⟩; have HB4 := hide hb4; obtain ⟨p1, p2, p3, p4, p5⟩ := HKEEP.out w4 HB4.out; have hr4 := row_kept (below_undrew' hc4) (by simp) (heap_alloc_new w3 _); clear hb4 hc4)
                  | (with_reducible refine Calls.mono (HADD.out w3.drew (Below.refl _ _).drew) ?_; rintro e w4 ⟨rfl, hb4, hc4⟩; have HB4 := hide hb4; obtain ⟨p1, p2, p3, p4, p5⟩ := HKEEP.out w4 HB4.out; clear hb4 hc4)
                  | (with_reducible refine Calls.mono (HADD.out (w3.alloc _).drew ((Below.refl _ _).alloc (Nat.le_refl _) _).drew) ?_; rintro e w4 ⟨rfl, hb4, hc4⟩; have HB4 := hide hb4; obtain ⟨p1, p2, p3, p4, p5⟩ := HKEEP.out w4 HB4.out; have hr4 := row_kept (below_undrew' hc4) (by simp) (heap_alloc_new w3 _); clear hb4 hc4)
                  | fail)
              | fail)
          all_goals (try go_wp2_with fail)
          all_goals go_meet
          all_goals first
            | exact ⟨_, rfl, HB5.out.size, heap_alloc_new w5 _, HB5.out.alloc HB5.out.size _⟩
            | exact ⟨_, rfl, HB4.out.size, setRow_heap w5 _ _ _ _ _ hr5, below_setRow HB5.out HB4.out.size _⟩
            | exact ⟨_, rfl, Nat.le_refl _, setRow_heap w5 _ _ _ _ _ hr5, below_setRow HB5.out (Nat.le_refl _) _⟩
            | fail
        case rest =>
          obtain ⟨g8, rfl, hle, hr8, hb8⟩ := hcut
          have h18 := row_kept hb8 (by have := HZ.out; have := HZ2.out; have := HG0.out; omega) H13.out
          have q34 : wc.cell? ⟨g8, 34, none⟩ = some (.int .i64 (xp : Int)) := (cell_of_row wc g8 34 Y _ (0, 0) hr8).trans hYp
          have HB8 : Hid (Below w.heap.size w wc) := hide (HB3.out.trans (hb8.mono HB3.out.size))
          have cp := hide (fun W => rightProto_any W (xp : Int))
          have cs := hide (fun W => right_any W S _ _ HAS.out)
          have cd := hide (fun W => right_any W D _ _ HAD.out)
          have HR8 := hide hr8
          have HG8 : Hid (g8 < wc.heap.size) := hide (Array.getElem?_eq_some_iff.1 hr8).1
          have HWL : Hid (w.heap.size < wc.heap.size) := hide (Array.getElem?_eq_some_iff.1 h18).1
          have H18 := hide h18
          obtain ⟨P, hP⟩ : ∃ P, P = protoOk (xp : Int) := ⟨_, rfl⟩
          obtain ⟨R1, hR1⟩ : ∃ R, R = rightL false sb := ⟨_, rfl⟩
          obtain ⟨R2, hR2⟩ : ∃ R, R = rightL false db := ⟨_, rfl⟩
          rw [← hP] at cp hgE2
          rw [← hR1] at cs hgE2
          rw [← hR2] at cd hgE2
          clear hP hR1 hR2 hb8 c0 c1 c2 c3 c4 c5 hwp hws hwd hbt h13
          have hzero : ∀ (W' : World) (E : Int), getE b = E → E ≠ 0 → TuV tupZ (getT b) := fun W' E h1 h2 => by
            unfold getT; rw [if_neg (by rw [h1]; exact h2)]; exact tupZ_tu
          have HZERO := hide hzero
          clear hzero
          cases P
          · have hE : Hid (getE b = 14) := hide (by rw [hgE2.out]; rfl)
            go_wp2_with fail
            refine (cp.out _).mono ?_
            rintro e w9 ⟨rfl, rfl⟩
            go_wp2
            refine bodyPost_ret (results_cell_tmp (fn := Try.f40) Try.results40 _ _ w.heap.size 62 tupZ (0, 0) _ rfl (setRow_heap wc _ _ _ _ _ H18.out) Try.underlying62 rfl info_tup) rfl ⟨⟨tupZ, ?_, HZERO.out wc 14 hE.out (by decide)⟩, HFAIL.out _ HB8.out⟩
            rw [hE.out]; rfl
          · go_wp2_with fail
            refine (cp.out _).mono ?_
            rintro e w9 ⟨rfl, rfl⟩
            dsimp only
            go_wp2_with fail
            refine (cs.out _).mono ?_
            rintro e w9 ⟨rfl, hb9⟩
            have hr9 := row_kept hb9 HG8.out HR8.out
            have h19 := row_kept hb9 HWL.out H18.out
            have HB9 : Hid (Below w.heap.size w w9) := hide (HB8.out.trans (hb9.mono HB8.out.size))
            have HR9 := hide hr9
            have H19 := hide h19
            have HSZ : Hid (wc.heap.size ≤ w9.heap.size) := hide hb9.size
            clear hr8 h18 q34 hb9
            dsimp only
            cases R1
            · have hE : Hid (getE b = 11) := hide (by rw [hgE2.out]; rfl)
              go_wp2
              refine bodyPost_ret (results_cell_tmp (fn := Try.f40) Try.results40 _ _ w.heap.size 62 tupZ (0, 0) _ rfl (setRow_heap w9 _ _ _ _ _ H19.out) Try.underlying62 rfl info_tup) rfl ⟨⟨tupZ, ?_, HZERO.out wc 11 hE.out (by decide)⟩, HFAIL.out _ HB9.out⟩
              rw [hE.out]; rfl
            · go_wp2_with fail
              refine (cd.out _).mono ?_
              rintro e w10 ⟨rfl, hb10⟩
              have hr10 := row_kept hb10 (by have := HSZ.out; have := HG8.out; omega) HR9.out
              have h110 := row_kept hb10 (by have := HSZ.out; have := HWL.out; omega) H19.out
              have HB10 : Hid (Below w.heap.size w w10) := hide (HB9.out.trans (hb10.mono HB9.out.size))
              have H110 := hide h110
              clear hr9 h19 hb10
              dsimp only
              cases R2
              · have hE : Hid (getE b = 11) := hide (by rw [hgE2.out]; rfl)
                go_wp2
                refine bodyPost_ret (results_cell_tmp (fn := Try.f40) Try.results40 _ _ w.heap.size 62 tupZ (0, 0) _ rfl (setRow_heap w10 _ _ _ _ _ H110.out) Try.underlying62 rfl info_tup) rfl ⟨⟨tupZ, ?_, HZERO.out wc 11 hE.out (by decide)⟩, HFAIL.out _ HB10.out⟩
                rw [hE.out]; rfl
              · have hE : Hid (getE b = 0) := hide (by rw [hgE2.out]; rfl)
                have hTT : Hid (getT b = T) := hide (by unfold getT; rw [if_pos hE.out, hgot.out])
                go_wp2
                refine bodyPost_ret (results_cell_tmp (fn := Try.f40) Try.results40 _ _ w.heap.size 62 Y (0, 0) _ rfl (setRow_heap w10 _ _ _ _ _ H110.out) Try.underlying62 rfl (by rw [HYT.out.size]; exact info_tup)) rfl ⟨⟨Y, ?_, ?_⟩, below_setRow HB10.out (Nat.le_refl _) _⟩
                · rw [hE.out]; rfl
                · rw [hTT.out]; exact HYT.out
      · rw [show ((6 : Nat) : Int) = 6 from rfl] at c0
        have d0 := hide c0
        go_wp2_with fail
        go_cut [8] from 31 to 60 (fun p wx => CutG Y w3 p wx)
        case first =>
          go_region_held3 (fun w' => w'.cell? ⟨gg, 2, none⟩ = some (.int .u64 (xp : Int)) ∧ w'.cell? ⟨gg, 5, none⟩ = some (.slice A2 16 d2) ∧ w'.cell? ⟨gg, 7, none⟩ = some (.slice A3 16 d3) ∧ w'.cell? ⟨gg, 8, none⟩ = some (.int .u64 (xs : Int)) ∧ w'.cell? ⟨gg, 10, none⟩ = some (.int .u64 (xd : Int)))
            (first
              | exact ⟨c1, c2, c3, c4, c5⟩
              | (apply HKEEP.out; exact HB5.out)
              | (apply HKEEP.out; exact HB4.out)
              | (apply HKEEP.out; exact below_setRow HB5.out (Nat.le_refl _) _)
              | (apply HKEEP.out; exact below_setRow HB5.out HB4.out.size _)
              | (apply HKEEP.out; exact HB5.out.alloc HB5.out.size _)
              | (apply HKEEP.out; exact HB4.out.alloc HB4.out.size _)
              | (apply HKEEP.out; exact ((Below.refl _ _).alloc (Nat.le_refl _) _).drew)
              | fail)
            (first
              | (have hx := HB4; clear hx; go_at_call 82; first
                  | (with_reducible refine Calls.mono (HADS.out w4 HB4.out) ?_; rintro e w5 ⟨rfl, hb5, hc5⟩; have HB5 := hide hb5; obtain ⟨q1, q2, q3, q4, q5⟩ := HKEEP.out w5 HB5.out; (first | (have hr5 := row_kept hc5 (Array.getElem?_eq_some_iff.1 hr4).1 hr4) | skip); clear hb5 hc5)
                  | (with_reducible refine Calls.mono (HADS.out (w4.alloc _) (HB4.out.alloc HB4.out.size _)) ?_; rintro e w5 ⟨rfl, hb5, hc5⟩; have HB5 := hide hb5; obtain ⟨q1, q2, q3, q4, q5⟩ := HKEEP.out w5 HB5.out; have hr5 := row_kept hc5 (by simp) (heap_alloc_new w4 _); clear hb5 hc5)
                  | (with_reducible refine Calls.mono (HADD.out w4 HB4.out) ?_; rintro e w5 ⟨rfl, hb5, hc5⟩; have HB5 := hide hb5; obtain ⟨q1, q2, q3, q4, q5⟩ := HKEEP.out w5 HB5.out; (first | (have hr5 := row_kept hc5 (Array.getElem?_eq_some_iff.1 hr4).1 hr4) | skip); clear hb5 hc5)
                  | (with_reducible refine Calls.mono (HADD.out (w4.alloc _) (HB4.out.alloc HB4.out.size _)) ?_; rintro e w5 ⟨rfl, hb5, hc5⟩; have HB5 := hide hb5; obtain ⟨q1, q2, q3, q4, q5⟩ := HKEEP.out w5 HB5.out; have hr5 := row_kept hc5 (by simp) (heap_alloc_new w4 _); clear hb5 hc5)
                  | fail)
              | (go_at_call 82; first
                  | (with_reducible refine Calls.mono (HADS.out w3.drew (Below.refl _ _).drew) ?_; rintro e w4 ⟨rfl, hb4, hc4⟩; have HB4 := hide hb4; obtain ⟨p1, p2, p3, p4, p5⟩ := HKEEP.out w4 HB4.out; clear hb4 hc4)
                  | (with_reducible refine Calls.mono (HADS.out (w3.alloc _).drew ((Below.refl _ _).alloc (Nat.le_refl _) _).drew) ?_; rintro e w4 ⟨rfl, hb4, hc4⟩; have HB4 := hide hb4; obtain ⟨p1, p2, p3, p4, p5⟩ := HKEEP.out w4 HB4.out; have hr4 := row_kept (below_undrew' hc4) (by simp) (heap_alloc_new w3 _); clear hb4 hc4)
                  | (with_reducible refine Calls.mono (HADD.out w3.drew (Below.refl _ _).drew) ?_; rintro e w4 ⟨rfl, hb4, hc4⟩; have HB4 := hide hb4; obtain ⟨p1, p2, p3, p4, p5⟩ := HKEEP.out w4 HB4.out; clear hb4 hc4)
                  | (with_reducible refine Calls.mono (HADD.out (w3.alloc _).drew ((Below.refl _ _).alloc (Nat.le_refl _) _).drew) ?_; rintro e w4 ⟨rfl, hb4, hc4⟩; have HB4 := hide hb4; obtain ⟨p1, p2, p3, p4, p5⟩ := HKEEP.out w4 HB4.out; have hr4 := row_kept (below_undrew' hc4) (by simp) (heap_alloc_new w3 _); clear hb4 hc4)
                  | fail)
              | fail)
          all_goals (try go_wp2_with fail)
          all_goals go_meet
          all_goals first
            | exact ⟨_, rfl, HB5.out.size, heap_alloc_new w5 _, HB5.out.alloc HB5.out.size _⟩
            | exact ⟨_, rfl, HB4.out.size, setRow_heap w5 _ _ _ _ _ hr5, below_setRow HB5.out HB4.out.size _⟩
            | exact ⟨_, rfl, Nat.le_refl _, setRow_heap w5 _ _ _ _ _ hr5, below_setRow HB5.out (Nat.le_refl _) _⟩
            | fail
        case rest =>
          obtain ⟨g8, rfl, hle, hr8, hb8⟩ := hcut
          have h18 := row_kept hb8 (by have := HZ.out; have := HZ2.out; have := HG0.out; omega) H13.out
          have q34 : wc.cell? ⟨g8, 34, none⟩ = some (.int .i64 (xp : Int)) := (cell_of_row wc g8 34 Y _ (0, 0) hr8).trans hYp
          have HB8 : Hid (Below w.heap.size w wc) := hide (HB3.out.trans (hb8.mono HB3.out.size))
          have cp := hide (fun W => rightProto_any W (xp : Int))
          have cs := hide (fun W => right_any W S _ _ HAS.out)
          have cd := hide (fun W => right_any W D _ _ HAD.out)
          have HR8 := hide hr8
          have HG8 : Hid (g8 < wc.heap.size) := hide (Array.getElem?_eq_some_iff.1 hr8).1
          have HWL : Hid (w.heap.size < wc.heap.size) := hide (Array.getElem?_eq_some_iff.1 h18).1
          have H18 := hide h18
          obtain ⟨P, hP⟩ : ∃ P, P = protoOk (xp : Int) := ⟨_, rfl⟩
          obtain ⟨R1, hR1⟩ : ∃ R, R = rightL true sb := ⟨_, rfl⟩
          obtain ⟨R2, hR2⟩ : ∃ R, R = rightL true db := ⟨_, rfl⟩
          rw [← hP] at cp hgE2
          rw [← hR1] at cs hgE2
          rw [← hR2] at cd hgE2
          clear hP hR1 hR2 hb8 c0 c1 c2 c3 c4 c5 hwp hws hwd hbt h13
          have hzero : ∀ (W' : World) (E : Int), getE b = E → E ≠ 0 → TuV tupZ (getT b) := fun W' E h1 h2 => by
            unfold getT; rw [if_neg (by rw [h1]; exact h2)]; exact tupZ_tu
          have HZERO := hide hzero
          clear hzero
          cases P
          · have hE : Hid (getE b = 14) := hide (by rw [hgE2.out]; rfl)
            go_wp2_with fail
            refine (cp.out _).mono ?_
            rintro e w9 ⟨rfl, rfl⟩
            go_wp2
            refine bodyPost_ret (results_cell_tmp (fn := Try.f40) Try.results40 _ _ w.heap.size 62 tupZ (0, 0) _ rfl (setRow_heap wc _ _ _ _ _ H18.out) Try.underlying62 rfl info_tup) rfl ⟨⟨tupZ, ?_, HZERO.out wc 14 hE.out (by decide)⟩, HFAIL.out _ HB8.out⟩
            rw [hE.out]; rfl
          · go_wp2_with fail
            refine (cp.out _).mono ?_
            rintro e w9 ⟨rfl, rfl⟩
            dsimp only
            go_wp2_with fail
            refine (cs.out _).mono ?_
            rintro e w9 ⟨rfl, hb9⟩
            have hr9 := row_kept hb9 HG8.out HR8.out
            have h19 := row_kept hb9 HWL.out H18.out
            have HB9 : Hid (Below w.heap.size w w9) := hide (HB8.out.trans (hb9.mono HB8.out.size))
            have HR9 := hide hr9
            have H19 := hide h19
            have HSZ : Hid (wc.heap.size ≤ w9.heap.size) := hide hb9.size
            clear hr8 h18 q34 hb9
            dsimp only
            cases R1
            · have hE : Hid (getE b = 11) := hide (by rw [hgE2.out]; rfl)
              go_wp2
              refine bodyPost_ret (results_cell_tmp (fn := Try.f40) Try.results40 _ _ w.heap.size 62 tupZ (0, 0) _ rfl (setRow_heap w9 _ _ _ _ _ H19.out) Try.underlying62 rfl info_tup) rfl ⟨⟨tupZ, ?_, HZERO.out wc 11 hE.out (by decide)⟩, HFAIL.out _ HB9.out⟩
              rw [hE.out]; rfl
            · go_wp2_with fail
              refine (cd.out _).mono ?_
              rintro e w10 ⟨rfl, hb10⟩
              have hr10 := row_kept hb10 (by have := HSZ.out; have := HG8.out; omega) HR9.out
              have h110 := row_kept hb10 (by have := HSZ.out; have := HWL.out; omega) H19.out
              have HB10 : Hid (Below w.heap.size w w10) := hide (HB9.out.trans (hb10.mono HB9.out.size))
              have H110 := hide h110
              clear hr9 h19 hb10
              dsimp only
              cases R2
              · have hE : Hid (getE b = 11) := hide (by rw [hgE2.out]; rfl)
                go_wp2
                refine bodyPost_ret (results_cell_tmp (fn := Try.f40) Try.results40 _ _ w.heap.size 62 tupZ (0, 0) _ rfl (setRow_heap w10 _ _ _ _ _ H110.out) Try.underlying62 rfl info_tup) rfl ⟨⟨tupZ, ?_, HZERO.out wc 11 hE.out (by decide)⟩, HFAIL.out _ HB10.out⟩
                rw [hE.out]; rfl
              · have hE : Hid (getE b = 0) := hide (by rw [hgE2.out]; rfl)
                have hTT : Hid (getT b = T) := hide (by unfold getT; rw [if_pos hE.out, hgot.out])
                go_wp2
                refine bodyPost_ret (results_cell_tmp (fn := Try.f40) Try.results40 _ _ w.heap.size 62 Y (0, 0) _ rfl (setRow_heap w10 _ _ _ _ _ H110.out) Try.underlying62 rfl (by rw [HYT.out.size]; exact info_tup)) rfl ⟨⟨Y, ?_, ?_⟩, below_setRow HB10.out (Nat.le_refl _) _⟩
                · rw [hE.out]; rfl
                · rw [hTT.out]; exact HYT.out
  · have hE : Hid (getE b = 3) := hide (by unfold getE; rw [if_pos h38])
    have hT : Hid (getT b = tupE) := hide (by unfold getT; rw [if_neg (by rw [hE.out]; decide)])
    have h38i : ((b.length : Int) != 38) = true := by simp; omega
    go_wp2
    refine bodyPost_ret (results_cell_tmp (fn := Try.f40) Try.results40 _ _ w.heap.size 62 tupZ (0, 0) _ rfl (setRow_heap W _ _ _ _ _ H1.out) Try.underlying62 rfl info_tup) rfl ⟨⟨tupZ, ?_, ?_⟩, HFAIL.out _ HB.out⟩
    · rw [hE.out]; rfl
    · rw [hT.out]; exact tupZ_tu
end Go.Proofs.Ytgbmamahkpkdfaa
