/-
  The walk of the statement TupleCounts.
-/
import Derived.Test.YthfdendkjifhkaaNf
import Derived.Test.YthfdendkjifhkaaRowC
import Derived.Deep.CutBlock
namespace Go.Proofs.Ythfdendkjifhkaa
open Go.RowKit
theorem rs_act6 : rowSize Try.prog 76 = some 3 := by kernel_rfl
attribute [local go_sem ↓] exec_span exec_put exec_build heap_alloc_new heap_old
attribute [local go_sem] spanQ_ptr spanC_some heap_of_drew heap_of_drewN rs_act6 putAt_ptr putOk_ptr oldOk_some World.setRow_alloc_new
set_option maxRecDepth 100000
set_option linter.unusedVariables false
set_option linter.unusedSimpArgs false

/-- both counts as they stand. -/
structure BothC (w wr : World) (g rg rb most : Nat) (l : List Nat) : Prop where
  c : CntS wr g most l
  r : RcS wr rg rb most l
  n1 : g ≠ rg
  n2 : g ≠ rb
  bg : w.heap.size ≤ g
  brg : w.heap.size ≤ rg
  brb : w.heap.size ≤ rb
  b : Below w.heap.size w wr
theorem get_add {m : List Nat} {most : Nat} (hl : m.length = 12) (hle : ∀ x ∈ m, x ≤ most) (kd : Int) (n : Nat) : getL m kd ≤ getL (addL m kd n most) kd := by
  by_cases hk : okKind kd = true
  · obtain ⟨k, rfl, hk12⟩ := okKind_nat hk
    have hkl : k < m.length := by omega
    have e1 : getL m (k : Int) = m[k] := by unfold getL; rw [if_pos hk]; simp [List.getD_eq_getElem?_getD, List.getElem?_eq_getElem hkl]
    have e2 : getL (addL m (k : Int) n most) (k : Int) = togS (getL m (k : Int)) n most := by
      unfold addL
      rw [if_pos hk]
      unfold getL
      rw [if_pos hk, if_pos hk, Int.toNat_natCast, List.getD_eq_getElem?_getD, List.getElem?_set_self hkl]
      rfl
    rw [e2, e1]
    have := hle m[k] (List.getElem_mem hkl)
    unfold togS
    split <;> omega
  · unfold getL; rw [if_neg hk]; exact Nat.zero_le _
theorem addL_len (m : List Nat) (kd : Int) (n most : Nat) : (addL m kd n most).length = m.length := by unfold addL; split <;> simp
/-- behind the switch: the counts that go on, what there was. -/
def SwiC (w : World) (rg rb most ga : Nat) (op kd : Int) (n : Nat) (v5 v9 v10 : Value) (wx : World) : Prop := ∃ g m, v5 = .pointer (some ⟨g, 0, none⟩) ∧ BothC w wx g rg rb most m ∧ (∃ u : Nat, v9 = .int .u64 (u : Int) ∧ u ≤ getL m kd) ∧ wx.heap[ga]? = some (.cells #[.int .i64 op, .int .i64 kd, .int .u64 (n : Int)] 76 (0, 0))
set_option maxHeartbeats 8000000 in
theorem tupleCounts_any (w : World) (most : Nat) (A : Option Addr) (c : Nat) (l : List (Int × Int × Nat)) (hm : most < 18446744073709551616) (hlc : l.length ≤ 1152921504606846976) (ha : Acts6 w w.heap.size A l) :
    Calls Try.prog 10 #[.int .u64 (most : Int), .slice A l.length c] w fun e w' => e = .returned (.bool true) ∧ Below w.heap.size w w' := by
  have HM := hide hm
  have HA := hide ha
  have HLC := hide hlc
  clear hm ha hlc
  go_enter Try.func10, Try.ntmps10
  go_wp2_with fail
  refine (newC_any w most HM.out).mono ?_
  rintro e w1 ⟨g0, rfl, C1, hg, b1⟩
  have B1 := hide b1
  have HC1 := hide C1
  have HG := hide hg
  clear b1 C1 hg
  dsimp only
  go_wp2_with fail
  refine (newR_any w1 most HM.out).mono ?_
  rintro e w2 ⟨rg, rb, rfl, R2, hrg, hrb, b2⟩
  have hBC : BothC w w2 g0 rg rb most (List.replicate 12 0) := ⟨HC1.out.keep (b2.block g0 HC1.out.lt), R2, by have := HC1.out.lt; omega, by have := HC1.out.lt; omega, HG.out, Nat.le_trans B1.out.size hrg, Nat.le_trans B1.out.size hrb, B1.out.trans (b2.mono B1.out.size)⟩
  have HBC := hide hBC
  clear R2 hrg hrb b2 hBC HC1 HG B1
  dsimp only
  go_wp2_with fail
  go_loopw [5, 7] (fun v i wr => ∃ (g : Nat) (m : List Nat) (j : Nat), j ≤ l.length ∧ i = .int .i64 (j : Int) ∧ v = .pointer (some ⟨g, 0, none⟩) ∧ Hid (BothC w wr g rg rb most m))
    (fun _ i _ => l.length - (intOf i).toNat)
  case atStart => exact ⟨g0, _, 0, Nat.zero_le _, rfl, rfl, HBC⟩
  case round =>
    obtain ⟨g, m, j, hj, rfl, rfl, H⟩ := hrel
    clear HBC
    by_cases hgo : j < l.length ∧ j < 200
    · obtain ⟨hj1, hj2⟩ := hgo
      have i1 : (j : Int) < (l.length : Int) := by omega
      have i2 : (j : Int) < 200 := by omega
      have i0 : (0 : Int) ≤ (j : Int) := by omega
      obtain ⟨b, off, rfl, hb, hcell⟩ := HA.out (by omega)
      obtain ⟨q0, q1, q2, hn⟩ := hcell j hj1
      obtain ⟨op, hop⟩ : ∃ x, x = l[j].1 := ⟨_, rfl⟩
      obtain ⟨kd, hkd⟩ : ∃ x, x = l[j].2.1 := ⟨_, rfl⟩
      obtain ⟨n, hnn⟩ : ∃ x, x = l[j].2.2 := ⟨_, rfl⟩
      rw [← hop] at q0
      rw [← hkd] at q1
      rw [← hnn] at q2 hn
      have p0 := (H.out.b.cell (p := ⟨b, off + j * 3, none⟩) hb).trans q0
      have p1 := (H.out.b.cell (p := ⟨b, off + j * 3 + 1, none⟩) hb).trans q1
      have p2 := (H.out.b.cell (p := ⟨b, off + j * 3 + 2, none⟩) hb).trans q2
      have HN := hide hn
      have HJ := hide hj1
      clear hcell q0 q1 q2 hn hop hkd hnn hj hj1 hj2 hb
      obtain ⟨T, hT⟩ : ∃ T : Array Value, T = #[.int .i64 op, .int .i64 kd, .int .u64 (n : Int)] := ⟨_, rfl⟩
      go_wp2_with fail
      rw [← hT]
      have r3 := heap_alloc_new wr (.cells T 76)
      have b3 : Below wr.heap.size wr (wr.alloc (.cells T 76)) := (Below.refl _ _).alloc (Nat.le_refl _) _
      have H3 : BothC w (wr.alloc (.cells T 76)) g rg rb most m := ⟨H.out.c.keep (b3.block g H.out.c.lt), H.out.r.keep (b3.block rg H.out.r.ltg) (b3.block rb H.out.r.ltb), H.out.n1, H.out.n2, H.out.bg, H.out.brg, H.out.brb, H.out.b.trans (b3.mono H.out.b.size)⟩
      obtain ⟨ga, hga⟩ : ∃ ga, ga = wr.heap.size := ⟨_, rfl⟩
      have HGA : Hid (w.heap.size ≤ ga ∧ g < ga ∧ rg < ga ∧ rb < ga) := hide (by rw [hga]; exact ⟨H.out.b.size, H.out.c.lt, H.out.r.ltg, H.out.r.ltb⟩)
      have hz3 : (wr.alloc (.cells T 76)).heap.size = ga + 1 := by rw [hga]; simp
      rw [← hga] at r3 ⊢
      generalize wr.alloc (.cells T 76) = w3 at r3 b3 H3 hz3 ⊢
      rw [hT] at r3
      have HH3 := hide H3
      have HR3 := hide r3
      have HZ3 := hide hz3
      have e : ∀ j, w3.cell? ⟨ga, j, none⟩ = #[Value.int .i64 op, .int .i64 kd, .int .u64 (n : Int)][j]? := fun j => cell_of_row w3 ga j _ _ (0, 0) r3
      have a0 : w3.cell? ⟨ga, 0, none⟩ = some (.int .i64 op) := e 0
      have a1 : w3.cell? ⟨ga, 1, none⟩ = some (.int .i64 kd) := e 1
      have a2 : w3.cell? ⟨ga, 2, none⟩ = some (.int .u64 (n : Int)) := e 2
      clear hT hga b3 H3 hz3 p0 p1 p2 e r3
      refine (getC_any w3 g most m HH3.out.c kd).mono ?_
      rintro e w4 ⟨rfl, rfl⟩
      dsimp only
      go_upto_block 2 with (fail)
      go_cut [5, 9, 10] from 40 to 70 (fun v5 v9 v10 wx => SwiC w rg rb most ga op kd n v5 v9 v10 wx)
      case first =>
        have HGET : Hid (getL m kd ≤ getL (addL m kd n most) kd) := hide (get_add HH3.out.c.len HH3.out.c.le kd n)
        have hops : ((op = 0 ∨ op = 1) ∨ (op = 2 ∨ op = 3)) ∨ (op = 4 ∨ (¬ op = 0 ∧ ¬ op = 1 ∧ ¬ op = 2 ∧ ¬ op = 3 ∧ ¬ op = 4)) := by omega
        rcases hops with hops | hops
        · have KA := hide (fun (W1 : World) (q : CntS W1 g most m) => addC_any W1 g most m q kd n HN.out)
          have KB := hide (fun (W1 : World) (q : RcS W1 rg rb most m) => addR_any W1 rg rb most m q kd n HN.out)
          have a1d : w3.drew.cell? ⟨ga, 1, none⟩ = some (.int .i64 kd) := a1
          have a2d : w3.drew.cell? ⟨ga, 2, none⟩ = some (.int .u64 (n : Int)) := a2
          obtain ⟨E, hE⟩ : ∃ E, E = kE kd := ⟨_, rfl⟩
          rw [← hE] at KA KB
          have HRK := hide (fun (w5 : World) (g5 : w3.drew.grownBy w5 (some g)) => HH3.out.r.keep (w' := w5) (g5.block rg (by show rg < w3.heap.size; have := HZ3.out; have := HGA.out; omega) (by intro e; cases e; exact HH3.out.n1 rfl)) (g5.block rb (by show rb < w3.heap.size; have := HZ3.out; have := HGA.out; omega) (by intro e; cases e; exact HH3.out.n2 rfl)))
          clear hE
          rcases hops with (rfl | rfl) | (rfl | rfl)
          all_goals (
            go_wp2_with fail
            go_region_held3 (fun w' => w'.cell? ⟨ga, 1, none⟩ = some (.int .i64 kd) ∧ w'.cell? ⟨ga, 2, none⟩ = some (.int .u64 (n : Int)))
              (first | exact ⟨a1, a2⟩ | exact ⟨a1d, a2d⟩ | exact ⟨f1, f2⟩ | exact ⟨f1', f2'⟩ | fail)
              (first
                | (go_at_call 36; (with_reducible refine (KA.out w3.drew (HH3.out.c.keep rfl)).mono ?_); rintro e w5 ⟨rfl, C5, g5⟩
                   have g5' := hide (g5 : w3.drew.grownBy w5 (some g))
                   have hn : ga ≠ g := by have := HGA.out; omega
                   have r5 : w5.heap[ga]? = _ := (g5.block ga (by show ga < w3.heap.size; have := HZ3.out; omega) (by intro e; cases e; exact hn rfl)).trans HR3.out
                   have f1 : w5.cell? ⟨ga, 1, none⟩ = some (.int .i64 kd) := cell_of_row w5 ga 1 _ _ (0, 0) r5
                   have f2 : w5.cell? ⟨ga, 2, none⟩ = some (.int .u64 (n : Int)) := cell_of_row w5 ga 2 _ _ (0, 0) r5
                   have KR5 := hide (HRK.out w5 g5)
                   have HC5 := hide C5
                   have HR5 := hide r5
                   clear g5 C5 hn r5)
                | (go_at_call 37; (with_reducible refine (KB.out w5 KR5.out).mono ?_); rintro e w6 ⟨rfl, C6, g6⟩
                   have g6' := hide g6
                   have hn : ga ≠ rb := by have := HGA.out; omega
                   have r6 : w6.heap[ga]? = _ := (g6.block ga (Array.getElem?_eq_some_iff.1 HR5.out).1 (by intro e; cases e; exact hn rfl)).trans HR5.out
                   have f1' : w6.cell? ⟨ga, 1, none⟩ = some (.int .i64 kd) := cell_of_row w6 ga 1 _ _ (0, 0) r6
                   have f2' : w6.cell? ⟨ga, 2, none⟩ = some (.int .u64 (n : Int)) := cell_of_row w6 ga 2 _ _ (0, 0) r6
                   have HC6 := hide C6
                   have HR6 := hide r6
                   clear g6 C6 hn r6)
                | fail)
            all_goals (
              have hfin : Hid (∃ m', BothC w w6 g rg rb most m' ∧ getL m kd ≤ getL m' kd) := hide (⟨addL m kd n most, ⟨HC5.out.keep (g6'.out.block g HC5.out.lt (by intro e; cases e; exact HH3.out.n2 rfl)), HC6.out, HH3.out.n1, HH3.out.n2, HH3.out.bg, HH3.out.brg, HH3.out.brb, ((HH3.out.b.drew).grown g5'.out (by have := HH3.out.b.size; exact this) (fun i e => by cases e; exact HH3.out.bg)).grown g6'.out (by have := HH3.out.b.size; have := g5'.out.size; exact Nat.le_trans ‹_› ‹_›) (fun i e => by cases e; exact HH3.out.brb)⟩, HGET.out⟩)
              clear a1 a2 a1d a2d f1 f2 f1' f2'
              go_wp2_with fail
              go_meet
              obtain ⟨m', hB, hle⟩ := hfin.out
              exact ⟨g, m', rfl, hB, ⟨_, rfl, hle⟩, HR6.out⟩))
        · rcases hops with rfl | ⟨n0, n1, n2, n3, n4⟩
          · go_wp2_with fail
            refine (copyC_any w3 g most m HH3.out.c).mono ?_
            rintro e w5 ⟨g', rfl, C5, hg5, b5⟩
            have HC5 := hide C5
            have HG5 := hide hg5
            have HB5 := hide b5
            have HCO : Hid (CntS w5 g most m) := hide (HH3.out.c.keep (b5.block g HH3.out.c.lt))
            clear C5 hg5 b5
            dsimp only
            go_wp2_with fail
            refine (addC_any w5 g most m HCO.out 0 9223372036854775808 (by decide)).mono ?_
            rintro e w6 ⟨rfl, -, g6⟩
            have hne : g ≠ g' := by have := HH3.out.c.lt; have := HG5.out; omega
            have hlg := HH3.out.r.ltg
            have hlb := HH3.out.r.ltb
            have hz5 := HB5.out.size
            have hg5 := HG5.out
            have hz3 := HZ3.out
            have hB : BothC w w6 g' rg rb most m := ⟨HC5.out.keep (g6.block g' HC5.out.lt (by intro e; cases e; exact hne rfl)), HH3.out.r.keep ((g6.block rg (by omega) (by intro e; cases e; exact HH3.out.n1 rfl)).trans (HB5.out.block rg hlg)) ((g6.block rb (by omega) (by intro e; cases e; exact HH3.out.n2 rfl)).trans (HB5.out.block rb hlb)), by omega, by omega, Nat.le_trans HH3.out.b.size hg5, HH3.out.brg, HH3.out.brb, (HH3.out.b.trans (HB5.out.mono HH3.out.b.size)).grown g6 (Nat.le_trans HH3.out.b.size hz5) (fun i e => by cases e; exact HH3.out.bg)⟩
            have r6 := (g6.block ga (by omega) (by intro e; cases e; have := HGA.out; omega)).trans ((HB5.out.block ga (by omega)).trans HR3.out)
            have HFB := hide hB
            have HR6 := hide r6
            clear g6 hne hlg hlb hz5 hg5 hz3 hB r6
            dsimp only
            go_wp2_with fail
            go_meet
            exact ⟨g', m, rfl, HFB.out, ⟨_, rfl, Nat.le_refl _⟩, HR6.out⟩
          · have m0 : (op == 0) = false := by simpa using n0
            have m1 : (op == 1) = false := by simpa using n1
            have m2 : (op == 2) = false := by simpa using n2
            have m3 : (op == 3) = false := by simpa using n3
            have m4 : (op == 4) = false := by simpa using n4
            clear n0 n1 n2 n3 n4
            go_wp2_with fail
            refine (getC_any w3 g most m HH3.out.c kd).mono ?_
            rintro e w5 ⟨rfl, rfl⟩
            dsimp only
            go_wp2_with fail
            go_meet
            exact ⟨g, m, rfl, HH3.out, ⟨_, rfl, Nat.le_refl _⟩, HR3.out⟩
      case rest =>
        obtain ⟨g', m', rfl, HB', ⟨u, rfl, hu⟩, r'⟩ := hcut
        have HBB := hide HB'
        have HRR := hide r'
        have HU := hide hu
        clear HB' r' hu a0 a1 a2
        have d1 := HBB.out.r.c1
        go_wp2_with fail
        go_loopw [11] (fun v wr => ∃ z : Int, -1 ≤ z ∧ z ≤ 13 ∧ v = .int .i64 z ∧ wr = wc) (fun v _ => (13 - intOf v).toNat)
        case atStart => exact ⟨-1, by omega, by omega, rfl, rfl⟩
        case round =>
          obtain ⟨z, hz0, hz1, rfl, rfl⟩ := hrel
          by_cases hz12 : z ≤ 12
          · have KG := hide (getC_any wr g' most m' HBB.out.c z)
            by_cases hz : 0 ≤ z ∧ z < 12
            · obtain ⟨k, rfl⟩ : ∃ k : Nat, z = (k : Int) := ⟨z.toNat, by omega⟩
              have hk12 : k < 12 := by omega
              have hkl : k < m'.length := by rw [HBB.out.c.len]; exact hk12
              have ck := HBB.out.r.ck k hkl
              have hG : getL m' (k : Int) = m'[k] := by
                have ok : okKind (k : Int) = true := by unfold okKind; simp; omega
                unfold getL; rw [if_pos ok]; simp [List.getD_eq_getElem?_getD, List.getElem?_eq_getElem hkl]
              have hle := HBB.out.c.le m'[k] (List.getElem_mem hkl)
              rw [hG] at KG
              obtain ⟨x, hx⟩ : ∃ x, x = m'[k] := ⟨_, rfl⟩
              rw [← hx] at ck hle KG
              have i3 : (0 : Int) ≤ (k : Int) := by omega
              have i4 : (k : Int) < 12 := by omega
              have i5 : ¬ (most : Int) < (x : Int) := by omega
              clear hG hx hkl hz
              go_wp2_with fail
              refine KG.out.mono ?_
              rintro e w5 ⟨rfl, rfl⟩
              dsimp only
              go_wp2_with fail
              go_roundw
              case rel => exact ⟨(k : Int) + 1, by omega, by omega, by go_num, by first | rfl | trivial⟩
              case measure => simp [intOf]; omega
            · have hG : getL m' z = 0 := by
                have ok : ¬ okKind z = true := by unfold okKind; simp; omega
                unfold getL; rw [if_neg ok]
              rw [hG] at KG
              have i5 : ¬ (most : Int) < 0 := by omega
              have hzz : z < 0 ∨ (0 ≤ z ∧ ¬ z < 12) := by omega
              clear hG hz
              rcases hzz with hzz | ⟨hzz, hzy⟩
              all_goals (
                go_wp2_with fail
                refine KG.out.mono ?_
                rintro e w5 ⟨rfl, rfl⟩
                dsimp only
                go_wp2_with fail
                go_roundw
                case rel => exact ⟨z + 1, by omega, by omega, by go_num, by first | rfl | trivial⟩
                case measure => simp [intOf]; omega)
          · go_wp2_with fail
            refine (totalC_any wr g' most m' HBB.out.c).mono ?_
            rintro e w5 ⟨rfl, rfl⟩
            dsimp only
            go_wp2_with fail
            refine (totalR_any wr rg rb most m' HBB.out.r).mono ?_
            rintro e w5 ⟨rfl, nd, hnd⟩
            have HB5 : Hid (BothC w w5 g' rg rb most m') := hide (by rw [hnd]; exact ⟨HBB.out.c.keep rfl, HBB.out.r.keep rfl rfl, HBB.out.n1, HBB.out.n2, HBB.out.bg, HBB.out.brg, HBB.out.brb, below_drewN HBB.out.b _⟩)
            have r5 : w5.heap[ga]? = some (.cells #[.int .i64 op, .int .i64 kd, .int .u64 (n : Int)] 76 (0, 0)) := by rw [hnd]; exact HRR.out
            have a1 : w5.cell? ⟨ga, 1, none⟩ = some (.int .i64 kd) := cell_of_row w5 ga 1 _ _ (0, 0) r5
            have hul : ¬ ((getL m' kd : Nat) : Int) < (u : Int) := by have := HU.out; omega
            clear hnd r5
            dsimp only
            go_wp2_with fail
            refine (getC_any w5 g' most m' HB5.out.c kd).mono ?_
            rintro e w6 ⟨rfl, rfl⟩
            dsimp only
            go_wp2_with fail
            go_roundw
            case rel => exact ⟨g', m', j + 1, by have := HJ.out; omega, by go_num, rfl, HB5⟩
            case measure => simp [intOf]; have := HJ.out; omega
    · have hend : ¬ (j : Int) < (l.length : Int) ∨ ((j : Int) < (l.length : Int) ∧ ¬ (j : Int) < 200) := by omega
      clear hgo
      rcases hend with hend | ⟨hend, hend2⟩
      all_goals (
        go_wp2_with fail
        refine (addN_any wr 0 1).mono ?_
        rintro e w5 ⟨rfl, rfl⟩
        dsimp only
        go_wp2_with fail
        refine (getN_any wr 0).mono ?_
        rintro e w5 ⟨rfl, rfl⟩
        dsimp only
        go_wp2_with fail
        refine (totalN_any wr).mono ?_
        rintro e w5 ⟨rfl, rfl⟩
        dsimp only
        go_wp2_with fail
        refine (copyN_any wr).mono ?_
        rintro e w5 ⟨rfl, rfl⟩
        dsimp only
        go_wp2_with fail
        refine (known6_any wr).mono ?_
        rintro e w5 ⟨rfl, b5⟩
        have B5 : Hid (Below w.heap.size w w5) := hide (H.out.b.trans (b5.mono H.out.b.size))
        clear b5
        dsimp only
        go_wp2
        go_ret
        exact ⟨rfl, B5.out⟩)
end Go.Proofs.Ythfdendkjifhkaa
