/-
  The walk of the document's own GetTuple: bytes as a tuple.
-/
import Derived.Test.YtgbmamahkpkdfaaTub
import Derived.Test.YtgbmamahkpkdfaaTur
import Derived.Test.YtgbmamahkpkdfaaTut
import Derived.Test.YtgbmamahkpkdfaaAdp
import Derived.Test.YtgbmamahkpkdfaaBits
import Derived.Deep.CutRange
namespace Go.Proofs.Ytgbmamahkpkdfaa
open Go.RowKit
attribute [local go_sem ↓] exec_span exec_put exec_build heap_alloc_new heap_old
attribute [local go_sem] spanQ_ptr spanC_some heap_of_drew heap_of_drewN rs_arr rs_ad rs_tup putAt_ptr putOk_ptr oldOk_some built_none World.setRow_alloc_new
set_option maxRecDepth 100000
set_option linter.unusedVariables false

theorem built_noneU : Try.prog.built 62 [] = some tupZ := by kernel_rfl
/-- a tuple of which only the numbers are told. -/
def tupP (p s d : Int) : Tup := ⟨false, List.replicate 16 0, false, List.replicate 16 0, p, s, d⟩
theorem built_numbers (p s d : Int) : Try.prog.built 62 [(2, .int .i64 p), (3, .int .i64 s), (4, .int .i64 d)] = some (tupL (tupP p s d)).toArray := by kernel_rfl
attribute [local go_sem] built_noneU
theorem heap_drew_at (w : World) (i : Nat) : w.drew.heap[i]? = w.heap[i]? := rfl
attribute [local go_sem ↓] heap_drew_at
theorem tupZ_oneR : allOne tupZ = true := tupZ_tu.one
theorem or_two (x y : UInt8) : bits .or .i64 ((x.toNat : Int) * 256) (y.toNat : Int) = ((numS [x, y] : Nat) : Int) := by
  have hx := x.toNat_lt
  have hy := y.toNat_lt
  rw [numS2, ← i64_or_join 8 (x.toNat * 256) y.toNat (by omega) (by omega) (by omega) (by omega)]
  simp
theorem tup_kinds {v v1 v2 : Bool} {sb db : List UInt8} {p s d : Int} (hs : sb.length = 16) (hd : db.length = 16) : ((tupL ⟨v1, sb, v2, db, p, s, d⟩).toArray.setIfInBounds 0 (.bool v)).setIfInBounds 17 (.bool v) = (tupL ⟨v, sb, v, db, p, s, d⟩).toArray := by
  match sb, db, hs, hd with
  | [_, _, _, _, _, _, _, _, _, _, _, _, _, _, _, _], [_, _, _, _, _, _, _, _, _, _, _, _, _, _, _, _], _, _ => rfl
theorem tup_set {v v' : Bool} {sb db : List UInt8} {p s d : Int} (hs : sb.length = 16) (hd : db.length = 16) (j : Nat) (hj : j < 16) (x y : UInt8) : ((tupL ⟨v, sb, v', db, p, s, d⟩).toArray.setIfInBounds (1 + j) (.int .u8 (x.toNat : Int))).setIfInBounds (18 + j) (.int .u8 (y.toNat : Int)) = (tupL ⟨v, sb.set j x, v', db.set j y, p, s, d⟩).toArray := by
  have e : ∀ (v : Bool) (l : List UInt8) (x : UInt8), (adL v l).set (1 + j) (.int .u8 (x.toNat : Int)) = adL v (l.set j x) := fun v l x => by
    unfold adL
    rw [Nat.add_comm, List.set_cons_succ, List.map_set]
    rfl
  have h1 := length_adL (v := v) hs
  have h2 := length_adL (v := v') hd
  have h1' := length_adL (v := v) (l := sb.set j x) (by rw [List.length_set]; exact hs)
  simp only [List.setIfInBounds_toArray, tupL]
  congr 1
  rw [List.set_append_left _ _ (by omega), e, List.set_append_right _ _ (by omega), h1', show 18 + j - 17 = 1 + j by omega, List.set_append_left _ _ (by omega), e]

theorem row_has {w : World} {g : Nat} {A : Array Value} {t : TypeId} (h : w.heap[g]? = some (.cells A t (0, 0))) (i : Nat) (hi : i < A.size) : ∃ u, w.cell? ⟨g, i, none⟩ = some u :=
  ⟨A[i], by rw [cell_of_row w g i A t (0, 0) h]; exact Array.getElem?_eq_getElem hi⟩
theorem tupL_size {v v' : Bool} {sb db : List UInt8} {p s d : Int} (hs : sb.length = 16) (hd : db.length = 16) : (tupL ⟨v, sb, v', db, p, s, d⟩).toArray.size = 37 := by simp [tupL, length_adL hs, length_adL hd]
/-- what the making of the tuple's numbers leaves: a new block that holds them. -/
def CutR (Y : Array Value) (V : World) (p : Value) (wx : World) : Prop := p = .pointer (some ⟨V.heap.size, 0, none⟩) ∧ wx.heap[V.heap.size]? = some (.cells Y 62 (0, 0)) ∧ Below V.heap.size V wx
set_option maxHeartbeats 4000000 in
theorem refgettuple_any (w : World) (B : Nat) (A : Option Addr) (c : Nat) (b : List UInt8) (hl : b.length ≤ c) (hn : b.length ≤ 140737488355328) (hb : Byt w B A b) (hB : B ≤ w.heap.size) :
    Calls Try.prog 41 #[.slice A b.length c] w fun e w' => (∃ Y, e = .returned (.tuple #[.agg Y, .int .i64 (getE b)]) ∧ TuV Y (getT b)) ∧ Below w.heap.size w w' := by
  go_enter Try.func41, Try.ntmps41
  obtain ⟨W, hW, h1, hz, hbw⟩ := one_block w (.cells tupZ 62)
  rw [tupZ_ok] at hW
  have hzs := tupZ_size
  have hzo := tupZ_oneR
  have HB := hide hbw
  have HZ := hide hz
  have H1 := hide h1
  clear hz
  have hfail : ∀ W' : World, Below w.heap.size w W' → Below w.heap.size w (W'.setRow w.heap.size tupZ) := fun W' h => below_setRow h (Nat.le_refl _) _
  have HFAIL := hide hfail
  clear hfail
  by_cases h38 : b.length = 38
  · obtain ⟨blk, off, rfl, hblk, hcell⟩ := hb (by omega)
    have hcW : ∀ i (h : i < b.length), W.cell? ⟨blk, off + i, none⟩ = some (.int .u8 (b[i].toNat : Int)) := fun i h => (hbw.cell (by show blk < _; omega)).trans (hcell i h)
    have HCW := hide hcW
    have hat : ∀ i (h : i < b.length) x, x = b.getD i 0 → b[i] = x := fun i h x hx => by rw [hx, List.getD_eq_getElem?_getD, List.getElem?_eq_getElem h]; rfl
    obtain ⟨x0, hx0⟩ : ∃ x, x = b.getD 0 0 := ⟨_, rfl⟩
    obtain ⟨x1, hx1⟩ : ∃ x, x = b.getD 1 0 := ⟨_, rfl⟩
    obtain ⟨y0, hy0⟩ : ∃ x, x = b.getD 34 0 := ⟨_, rfl⟩
    obtain ⟨y1, hy1⟩ : ∃ x, x = b.getD 35 0 := ⟨_, rfl⟩
    obtain ⟨z0, hz0⟩ : ∃ x, x = b.getD 36 0 := ⟨_, rfl⟩
    obtain ⟨z1, hz1⟩ : ∃ x, x = b.getD 37 0 := ⟨_, rfl⟩
    have c0 := hcW 0 (by omega)
    have c1 := hcW 1 (by omega)
    have c34 := hcW 34 (by omega)
    have c35 := hcW 35 (by omega)
    have c36 := hcW 36 (by omega)
    have c37 := hcW 37 (by omega)
    rw [hat 0 (by omega) x0 hx0, Nat.add_zero] at c0
    rw [hat 1 (by omega) x1 hx1] at c1
    rw [hat 34 (by omega) y0 hy0] at c34
    rw [hat 35 (by omega) y1 hy1] at c35
    rw [hat 36 (by omega) z0 hz0] at c36
    rw [hat 37 (by omega) z1 hz1] at c37
    have hsl : ((b.drop 34).take 2) = [y0, y1] ∧ ((b.drop 36).take 2) = [z0, z1] := by
      constructor
      · rw [List.drop_eq_getElem_cons (by omega), List.drop_eq_getElem_cons (by omega), hat 34 (by omega) y0 hy0, hat 35 (by omega) y1 hy1]; rfl
      · rw [List.drop_eq_getElem_cons (by omega), List.drop_eq_getElem_cons (by omega), hat 36 (by omega) z0 hz0, hat 37 (by omega) z1 hz1]; rfl
    obtain ⟨sb, hsb⟩ : ∃ l, l = (b.drop 2).take 16 := ⟨_, rfl⟩
    obtain ⟨db, hdb⟩ : ∃ l, l = (b.drop 18).take 16 := ⟨_, rfl⟩
    have hgot : Hid (gotT b = ⟨x0 == 6, sb, x0 == 6, db, (x1.toNat : Int), (numS [y0, y1] : Int), (numS [z0, z1] : Int)⟩) := hide (by unfold gotT; rw [← hx0, ← hx1, hsl.1, hsl.2, ← hsb, ← hdb])
    have hgE : Hid (getE b = if x0.toNat ≠ 4 ∧ x0.toNat ≠ 6 then 13 else if protoOk (x1.toNat : Int) = false then 14 else if (rightL (x0 == 6) sb && rightL (x0 == 6) db) = false then 11 else 0) := hide (by
      unfold getE
      rw [if_neg (by omega), hgot.out, ← hx0])
    have HSB := hide hsb
    have HDB := hide hdb
    have H38 := hide h38
    have HCC := hide hcell
    rw [h38]
    clear hb hcW hat hsl hsb hdb hl hn h38 hcell hx0 hx1 hy0 hy1 hz0 hz1 hbw
    by_cases hver : x0.toNat ≠ 4 ∧ x0.toNat ≠ 6
    · have hE : Hid (getE b = 13) := hide (by rw [hgE.out, if_pos hver])
      have hT : Hid (getT b = tupE) := hide (by unfold getT; rw [if_neg (by rw [hE.out]; decide)])
      have hv4 : ((x0.toNat : Int) != 4) = true := by simp; omega
      have hv6 : ((x0.toNat : Int) != 6) = true := by simp; omega
      clear hgE
      go_wp2
      refine bodyPost_ret (results_cell_tmp (fn := Try.f41) Try.results41 _ _ w.heap.size 62 tupZ (0, 0) _ rfl (setRow_heap W _ _ _ _ _ H1.out) Try.underlying62 rfl info_tup) rfl ⟨⟨tupZ, ?_, ?_⟩, HFAIL.out _ HB.out⟩
      · rw [hE.out]; rfl
      · rw [hT.out]; exact tupZ_tu
    · have hgE2 : Hid (getE b = if protoOk (x1.toNat : Int) = false then 14 else if (rightL (x0 == 6) sb && rightL (x0 == 6) db) = false then 11 else 0) := hide (by rw [hgE.out, if_neg hver])
      obtain ⟨ver, hvr⟩ : ∃ v, v = (x0 == 6) := ⟨_, rfl⟩
      rw [← hvr] at hgE2 hgot
      have h46 : (x0.toNat = 4 ∧ ver = false) ∨ (x0.toNat = 6 ∧ ver = true) := by
        by_cases h4 : x0.toNat = 4
        · exact .inl ⟨h4, by rw [hvr, show x0 = 4 from UInt8.toNat.inj h4]; rfl⟩
        · by_cases h6 : x0.toNat = 6
          · exact .inr ⟨h6, by rw [hvr, show x0 = 6 from UInt8.toNat.inj h6]; rfl⟩
          · exact absurd ⟨h4, h6⟩ hver
      obtain ⟨n0, hn0⟩ : ∃ n, n = x0.toNat := ⟨_, rfl⟩
      rw [← hn0] at c0 h46
      clear hver hgE hvr hn0
      have hzero : ∀ (E : Int), getE b = E → E ≠ 0 → TuV tupZ (getT b) := fun E h1 h2 => by
        unfold getT; rw [if_neg (by rw [h1]; exact h2)]; exact tupZ_tu
      have HZERO := hide hzero
      clear hzero
      have hx1b := x1.toNat_lt
      by_cases hpr : protoOk (x1.toNat : Int) = false
      · have hE : Hid (getE b = 14) := hide (by rw [hgE2.out, if_pos hpr])
        have hp6 : ((x1.toNat : Int) != 6) = true := by unfold protoOk at hpr; simp at hpr; simp; omega
        have hp17 : ((x1.toNat : Int) != 17) = true := by unfold protoOk at hpr; simp at hpr; simp; omega
        rcases h46 with ⟨rfl, rfl⟩ | ⟨rfl, rfl⟩
        · rw [show ((4 : Nat) : Int) = 4 from rfl] at c0
          go_wp2
          refine bodyPost_ret (results_cell_tmp (fn := Try.f41) Try.results41 _ _ w.heap.size 62 tupZ (0, 0) _ rfl (setRow_heap W _ _ _ _ _ H1.out) Try.underlying62 rfl info_tup) rfl ⟨⟨tupZ, ?_, HZERO.out 14 hE.out (by decide)⟩, HFAIL.out _ HB.out⟩
          rw [hE.out]; rfl
        · rw [show ((6 : Nat) : Int) = 6 from rfl] at c0
          go_wp2
          refine bodyPost_ret (results_cell_tmp (fn := Try.f41) Try.results41 _ _ w.heap.size 62 tupZ (0, 0) _ rfl (setRow_heap W _ _ _ _ _ H1.out) Try.underlying62 rfl info_tup) rfl ⟨⟨tupZ, ?_, HZERO.out 14 hE.out (by decide)⟩, HFAIL.out _ HB.out⟩
          rw [hE.out]; rfl
      · have hpr' : protoOk (x1.toNat : Int) = true := by simpa using hpr
        have hgE3 : Hid (getE b = if (rightL ver sb && rightL ver db) = false then 11 else 0) := hide (by rw [hgE2.out, if_neg hpr])
        obtain ⟨xp, hxp⟩ : ∃ n, n = x1.toNat := ⟨_, rfl⟩
        obtain ⟨S, hS⟩ : ∃ n, n = numS [y0, y1] := ⟨_, rfl⟩
        obtain ⟨D, hD⟩ : ∃ n, n = numS [z0, z1] := ⟨_, rfl⟩
        have hoS := or_two y0 y1
        have hoD := or_two z0 z1
        rw [← hS] at hoS hgot
        rw [← hD] at hoD hgot
        rw [← hxp] at c1 hgot hpr' hx1b
        have hpS : portOk (S : Int) = true := by rw [hS]; exact port_of y0 y1
        have hpD : portOk (D : Int) = true := by rw [hD]; exact port_of z0 z1
        obtain ⟨Y0, hY0⟩ : ∃ Y, Y = (tupL (tupP (xp : Int) (S : Int) (D : Int))).toArray := ⟨_, rfl⟩
        have hbn := built_numbers (xp : Int) (S : Int) (D : Int)
        rw [← hY0] at hbn
        have hY0T : TuV Y0 (tupP (xp : Int) (S : Int) (D : Int)) := by rw [hY0]; exact TuV.mk' rfl rfl
        have hY0s := hY0T.size
        have hY0o : allOne Y0 = true := hY0T.one
        have h617 : xp = 6 ∨ xp = 17 := by unfold protoOk at hpr'; simp at hpr'; omega
        have HPR := hide hpr'
        have HPS := hide hpS
        have HPD := hide hpD
        have HY0 := hide hY0
        have hyb0 := y0.toNat_lt
        have hyb1 := y1.toNat_lt
        have hzb0 := z0.toNat_lt
        have hzb1 := z1.toNat_lt
        have hwy : IntKind.i64.wrap ((y0.toNat : Int) * 256) = (y0.toNat : Int) * 256 := wrap_i _ (by omega) (by omega)
        have hwz : IntKind.i64.wrap ((z0.toNat : Int) * 256) = (z0.toNat : Int) * 256 := wrap_i _ (by omega) (by omega)
        have hwp : IntKind.i64.wrap (xp : Int) = (xp : Int) := wrap_i _ (by omega) (by omega)
        clear hpr hpr' hgE2 hxp hS hD hpS hpD hY0 hY0T
        have hkeep : ∀ w' : World, Below W.heap.size W w' → (∀ i (h : i < b.length), w'.cell? ⟨blk, off + i, none⟩ = some (.int .u8 (b[i].toNat : Int))) ∧ w'.cell? ⟨blk, off, none⟩ = some (.int .u8 (n0 : Int)) ∧ w'.cell? ⟨blk, off + 1, none⟩ = some (.int .u8 (xp : Int)) ∧ w'.cell? ⟨blk, off + 34, none⟩ = some (.int .u8 (y0.toNat : Int)) ∧ w'.cell? ⟨blk, off + 35, none⟩ = some (.int .u8 (y1.toNat : Int)) ∧ w'.cell? ⟨blk, off + 36, none⟩ = some (.int .u8 (z0.toNat : Int)) ∧ w'.cell? ⟨blk, off + 37, none⟩ = some (.int .u8 (z1.toNat : Int)) := fun w' hb => by
          have hbl : blk < W.heap.size := by have := HZ.out; omega
          exact ⟨fun i h => (hb.cell (by exact hbl)).trans (HCW.out i h), (hb.cell (by exact hbl)).trans c0, (hb.cell (by exact hbl)).trans c1, (hb.cell (by exact hbl)).trans c34, (hb.cell (by exact hbl)).trans c35, (hb.cell (by exact hbl)).trans c36, (hb.cell (by exact hbl)).trans c37⟩
        have HKEEP := hide hkeep
        have h6v : ((n0 : Int) == 6) = ver := by rcases h46 with ⟨rfl, rfl⟩ | ⟨rfl, rfl⟩ <;> rfl
        have h4f : (((n0 : Int) != 4) = false) ∨ (((n0 : Int) != 4) = true ∧ ((n0 : Int) != 6) = false) := by rcases h46 with ⟨rfl, rfl⟩ | ⟨rfl, rfl⟩ <;> simp
        have h1f : (((xp : Int) != 6) = false) ∨ (((xp : Int) != 6) = true ∧ ((xp : Int) != 17) = false) := by rcases h617 with rfl | rfl <;> simp
        clear hkeep h46 h617
        have hw1 : IntKind.i64.wrap (y0.toNat : Int) = (y0.toNat : Int) := wrap_i _ (by omega) (by omega)
        have hw2 : IntKind.i64.wrap (y1.toNat : Int) = (y1.toNat : Int) := wrap_i _ (by omega) (by omega)
        have hw3 : IntKind.i64.wrap (z0.toNat : Int) = (z0.toNat : Int) := wrap_i _ (by omega) (by omega)
        have hw4 : IntKind.i64.wrap (z1.toNat : Int) = (z1.toNat : Int) := wrap_i _ (by omega) (by omega)
        go_upto_region 3 with (fail)
        go_cut [19] from 10 to 19 (fun t wx => t = .bool false ∧ wx = W)
        case first =>
          rcases h4f with h4f | ⟨h4f, h46f⟩
          all_goals go_wp2_with fail
          all_goals go_meet
          all_goals exact ⟨rfl, rfl⟩
        case rest =>
          obtain ⟨rfl, rfl⟩ := hcut
          go_upto_region 5 with (fail)
          go_cut [30] from 21 to 30 (fun t wx => t = .bool false ∧ wx = wc)
          case first =>
            rcases h1f with h1f | ⟨h1f, h17f⟩
            all_goals go_wp2_with fail
            all_goals go_meet
            all_goals exact ⟨rfl, rfl⟩
          case rest =>
            obtain ⟨rfl, rfl⟩ := hcut
            obtain ⟨V, rfl⟩ : ∃ V, V = wc := ⟨_, rfl⟩
            go_wp2_with fail
            go_cut [4] from 31 to 56 (fun p wx => CutR Y0 V p wx)
            case first =>
              have hds : ∀ (o : Array Value) t (X : Array Value), ((V.alloc (.cells o t)).drew).setRow V.heap.size X = (V.alloc (.cells X t)).drew := fun o t X => congrArg World.drew (World.setRow_alloc_new V o X t)
              go_region_held3 (fun w' => w'.cell? ⟨blk, off + 1, none⟩ = some (.int .u8 (xp : Int)) ∧ w'.cell? ⟨blk, off + 34, none⟩ = some (.int .u8 (y0.toNat : Int)) ∧ w'.cell? ⟨blk, off + 35, none⟩ = some (.int .u8 (y1.toNat : Int)) ∧ w'.cell? ⟨blk, off + 36, none⟩ = some (.int .u8 (z0.toNat : Int)) ∧ w'.cell? ⟨blk, off + 37, none⟩ = some (.int .u8 (z1.toNat : Int)))
                (first
                  | exact ⟨c1, c34, c35, c36, c37⟩
                  | exact (HKEEP.out _ ((Below.refl _ _).alloc (Nat.le_refl _) _).drew).2.2
                  | exact (HKEEP.out _ ((Below.refl _ _).alloc (Nat.le_refl _) _)).2.2
                  | fail)
                (fail)
              all_goals (try go_wp2_with fail)
              all_goals go_meet
              all_goals exact ⟨rfl, (by rw [HY0.out]; exact heap_alloc_new V _), ((Below.refl _ _).alloc (Nat.le_refl _) _).drew⟩
            case rest =>
              obtain ⟨rfl, hr7, hb7⟩ := hcut
              obtain ⟨W7, rfl⟩ : ∃ V, V = wc := ⟨_, rfl⟩
              obtain ⟨g, hg⟩ : ∃ g, g = V.heap.size := ⟨_, rfl⟩
              obtain ⟨hc7, c70, -⟩ := HKEEP.out W7 hb7
              have hbne : blk ≠ g := by have := HZ.out; omega
              rw [← hg] at hr7 hb7 ⊢
              have HG := hide hg
              clear hg
              have hf0 : W7.frozen? ⟨g, 0, none⟩ = false := frozen_of_row W7 g 0 _ _ hr7
              have hr8 : (W7.setCell ⟨g, 0, none⟩ (.bool ver)).heap[g]? = some (.cells (Y0.setIfInBounds 0 (.bool ver)) 62 (0, 0)) := heap_setCell_same W7 g 0 _ _ _ hr7
              have c80 : (W7.setCell ⟨g, 0, none⟩ (.bool ver)).cell? ⟨blk, off, none⟩ = some (.int .u8 (n0 : Int)) := by
                rw [World.cell?_setCell_far _ _ _ _ (by exact Ne.symm hbne)]; exact c70
              have hf17 : (W7.setCell ⟨g, 0, none⟩ (.bool ver)).frozen? ⟨g, 17, none⟩ = false := frozen_of_row _ g 17 _ _ hr8
              have hr9 := heap_setCell_same (W7.setCell ⟨g, 0, none⟩ (.bool ver)) g 17 _ _ (.bool ver) hr8
              obtain ⟨o0, e0⟩ := row_has hr7 0 (by rw [hY0s]; decide)
              obtain ⟨o17, e17⟩ := row_has hr8 17 (by rw [Array.size_setIfInBounds, hY0s]; decide)
              have hrow : Hid (((W7.setCell ⟨g, 0, none⟩ (.bool ver)).setCell ⟨g, 17, none⟩ (.bool ver)).heap[g]? = some (.cells (tupL ⟨ver, padL (sb.take 0), ver, padL (db.take 0), (xp : Int), (S : Int), (D : Int)⟩).toArray 62 (0, 0))) := hide (by
                rw [hr9, HY0.out]
                unfold tupP
                rw [tup_kinds (by simp) (by simp)]; rfl)
              have hbel : Hid (Below g V ((W7.setCell ⟨g, 0, none⟩ (.bool ver)).setCell ⟨g, 17, none⟩ (.bool ver))) := hide ((hb7.setCell (Nat.le_refl _) _).setCell (Nat.le_refl _) _)
              clear hc7 hW c0 c1 c34 c35 c36 c37
              go_wp2_with fail
              clear hr9 hr8 hr7 hb7
              obtain ⟨W9, hW9⟩ : ∃ W9, W9 = ((W7.setCell ⟨g, 0, none⟩ (.bool ver)).setCell ⟨g, 17, none⟩ (.bool ver)) := ⟨_, rfl⟩
              rw [← hW9] at hrow hbel ⊢
              clear hf17 c80 hf0 c70 e0 e17 hW9 hoS hoD hwy hwz hwp hw1 hw2 hw3 hw4 h4f h1f h6v hbn
              go_loopw [5] (fun i wr => ∃ j : Nat, j ≤ 16 ∧ i = .int .i64 (j : Int) ∧ Hid (wr.heap[g]? = some (.cells (tupL ⟨ver, padL (sb.take j), ver, padL (db.take j), (xp : Int), (S : Int), (D : Int)⟩).toArray 62 (0, 0))) ∧ Hid (Below g V wr)) (fun i _ => 16 - (intOf i).toNat)
              case atStart => exact ⟨0, by omega, rfl, hrow, hbel⟩
              case round =>
                obtain ⟨j, hj, rfl, hrw, hbr⟩ := hrel
                have hls : sb.length = 16 := by rw [HSB.out]; simp [H38.out]
                have hld : db.length = 16 := by rw [HDB.out]; simp [H38.out]
                have HLS := hide hls
                have HLD := hide hld
                clear hls hld
                by_cases hlt : j < 16
                · have hx := HKEEP.out wr (by rw [← HG.out]; exact hbr.out)
                  obtain ⟨x, hxx⟩ : ∃ x, x = sb[j]'(by rw [HLS.out]; exact hlt) := ⟨_, rfl⟩
                  obtain ⟨y, hyy⟩ : ∃ x, x = db[j]'(by rw [HLD.out]; exact hlt) := ⟨_, rfl⟩
                  have cS : wr.cell? ⟨blk, off + (2 + j), none⟩ = some (.int .u8 (x.toNat : Int)) := by
                    rw [hx.1 (2 + j) (by rw [H38.out]; omega), hxx]
                    simp [HSB.out]
                  have cD0 : wr.cell? ⟨blk, off + (18 + j), none⟩ = some (.int .u8 (y.toNat : Int)) := by
                    rw [hx.1 (18 + j) (by rw [H38.out]; omega), hyy]
                    simp [HDB.out]
                  have hfS : wr.frozen? ⟨g, 1 + j, none⟩ = false := frozen_of_row wr g (1 + j) _ _ hrw.out
                  have hr1 := heap_setCell_same wr g (1 + j) _ _ (.int .u8 (x.toNat : Int)) hrw.out
                  have cD : (wr.setCell ⟨g, 1 + j, none⟩ (.int .u8 (x.toNat : Int))).cell? ⟨blk, off + (18 + j), none⟩ = some (.int .u8 (y.toNat : Int)) := by
                    rw [World.cell?_setCell_far _ _ _ _ (by exact Ne.symm hbne)]; exact cD0
                  have hfD : (wr.setCell ⟨g, 1 + j, none⟩ (.int .u8 (x.toNat : Int))).frozen? ⟨g, 18 + j, none⟩ = false := frozen_of_row _ g (18 + j) _ _ hr1
                  have hr2 := heap_setCell_same (wr.setCell ⟨g, 1 + j, none⟩ (.int .u8 (x.toNat : Int))) g (18 + j) _ _ (.int .u8 (y.toNat : Int)) hr1
                  obtain ⟨oS, eS⟩ := row_has hrw.out (1 + j) (by rw [tupL_size (length_padL (by rw [List.length_take]; omega)) (length_padL (by rw [List.length_take]; omega))]; omega)
                  obtain ⟨oD, eD⟩ := row_has hr1 (18 + j) (by rw [Array.size_setIfInBounds, tupL_size (length_padL (by rw [List.length_take]; omega)) (length_padL (by rw [List.length_take]; omega))]; omega)
                  rw [tup_set (length_padL (by rw [List.length_take]; omega)) (length_padL (by rw [List.length_take]; omega)) j hlt] at hr2
                  have HR2 := hide hr2
                  have HB2 := hide ((hbr.out.setCell (p := ⟨g, 1 + j, none⟩) (Nat.le_refl _) (.int .u8 (x.toNat : Int))).setCell (p := ⟨g, 18 + j, none⟩) (Nat.le_refl _) (.int .u8 (y.toNat : Int)))
                  have HXX := hide hxx
                  have HYY := hide hyy
                  have hj1 : (j : Int) < 16 := by omega
                  clear hxx hyy hr1 hr2 hx cD0
                  go_wp2
                  go_roundw
                  case rel =>
                    refine ⟨j + 1, by omega, by go_num, hide ?_, HB2⟩
                    have := HR2.out
                    have e1 := padL_step (l := sb) (j := j) (by rw [HLS.out]; exact hlt) (by rw [HLS.out]; exact Nat.le_refl _)
                    have e2 := padL_step (l := db) (j := j) (by rw [HLD.out]; exact hlt) (by rw [HLD.out]; exact Nat.le_refl _)
                    rw [← HXX.out] at e1
                    rw [← HYY.out] at e2
                    rw [e1, e2] at this
                    exact this
                  case measure => simp [intOf]; omega
                · obtain rfl : j = 16 := by omega
                  obtain ⟨T, hT⟩ : ∃ T : Tup, T = ⟨ver, sb, ver, db, (xp : Int), (S : Int), (D : Int)⟩ := ⟨_, rfl⟩
                  obtain ⟨Y, hY⟩ : ∃ Y, Y = (tupL T).toArray := ⟨_, rfl⟩
                  have hpadS : padL (sb.take 16) = sb := by rw [List.take_of_length_le (by rw [HLS.out]; exact Nat.le_refl _)]; unfold padL; rw [HLS.out]; simp
                  have hpadD : padL (db.take 16) = db := by rw [List.take_of_length_le (by rw [HLD.out]; exact Nat.le_refl _)]; unfold padL; rw [HLD.out]; simp
                  have hrY : wr.heap[g]? = some (.cells Y 62 (0, 0)) := by have := hrw.out; rw [hpadS, hpadD] at this; rw [hY, hT]; exact this
                  have hYT : TuV Y T := by rw [hY, hT]; exact TuV.mk' HLS.out HLD.out
                  have hYs := hYT.size
                  have hYo : allOne Y = true := hYT.one
                  have hY0x := hYT.x0
                  have hRT : rightT T = (rightL ver sb && rightL ver db) := by
                    rw [hT]; unfold rightT
                    simp only [HPR.out, HPS.out, HPD.out, beq_self_eq_true, Bool.and_true]
                  have hTT : getE b = 0 → getT b = T := fun h => by unfold getT; rw [if_pos h, hgot.out, hT]
                  have HTT := hide hTT
                  have c1 := hide (fun W => refrighttuple_any W Y T hYT)
                  obtain ⟨R, hR⟩ : ∃ R, R = rightT T := ⟨_, rfl⟩
                  rw [← hR] at c1 hRT
                  rw [← hRT] at hgE3
                  have hVg : g = V.heap.size := HG.out
                  have hwr1 : wr.heap[w.heap.size]? = some (.cells tupZ 62 (0, 0)) := (hbr.out.block w.heap.size (by rw [hVg, HZ.out]; omega)).trans H1.out
                  have HBW : Hid (Below w.heap.size w wr) := hide (HB.out.trans (hbr.out.mono (by rw [hVg]; exact HB.out.size)))
                  have HYT := hide hYT
                  have HRY := hide hrY
                  have HW1 := hide hwr1
                  have HLW : Hid (w.heap.size < wr.heap.size) := hide (Array.getElem?_eq_some_iff.1 hwr1).1
                  have HLG : Hid (g < wr.heap.size) := hide (Array.getElem?_eq_some_iff.1 hrY).1
                  clear hpadS hpadD hRT hR hVg hTT hT hY hYT hrw h1
                  rw [show ((16 : Nat) : Int) = 16 from rfl]
                  go_wp2_with fail
                  refine (c1.out _).mono ?_
                  rintro e w10 ⟨rfl, hb10⟩
                  have hr10 := row_kept hb10 HLG.out HRY.out
                  have h110 := row_kept hb10 HLW.out HW1.out
                  have HB10 : Hid (Below w.heap.size w w10) := hide (HBW.out.trans (hb10.mono HBW.out.size))
                  have H110 := hide h110
                  clear hwr1 hrY hb10
                  dsimp only
                  cases R
                  · have hE : Hid (getE b = 11) := hide (by rw [hgE3.out]; rfl)
                    go_wp2
                    refine bodyPost_ret (results_cell_tmp (fn := Try.f41) Try.results41 _ _ w.heap.size 62 tupZ (0, 0) _ rfl (setRow_heap w10 _ _ _ _ _ H110.out) Try.underlying62 rfl info_tup) rfl ⟨⟨tupZ, ?_, HZERO.out 11 hE.out (by decide)⟩, HFAIL.out _ HB10.out⟩
                    rw [hE.out]; rfl
                  · have hE : Hid (getE b = 0) := hide (by rw [hgE3.out]; rfl)
                    go_wp2
                    refine bodyPost_ret (results_cell_tmp (fn := Try.f41) Try.results41 _ _ w.heap.size 62 Y (0, 0) _ rfl (setRow_heap w10 _ _ _ _ _ H110.out) Try.underlying62 rfl (by rw [HYT.out.size]; exact info_tup)) rfl ⟨⟨Y, ?_, ?_⟩, below_setRow HB10.out (Nat.le_refl _) _⟩
                    · rw [hE.out]; rfl
                    · rw [HTT.out hE.out]; exact HYT.out
  · have hE : Hid (getE b = 3) := hide (by unfold getE; rw [if_pos h38])
    have hT : Hid (getT b = tupE) := hide (by unfold getT; rw [if_neg (by rw [hE.out]; decide)])
    have h38i : ((b.length : Int) != 38) = true := by simp; omega
    go_wp2
    refine bodyPost_ret (results_cell_tmp (fn := Try.f41) Try.results41 _ _ w.heap.size 62 tupZ (0, 0) _ rfl (setRow_heap W _ _ _ _ _ H1.out) Try.underlying62 rfl info_tup) rfl ⟨⟨tupZ, ?_, ?_⟩, HFAIL.out _ HB.out⟩
    · rw [hE.out]; rfl
    · rw [hT.out]; exact tupZ_tu
end Go.Proofs.Ytgbmamahkpkdfaa
