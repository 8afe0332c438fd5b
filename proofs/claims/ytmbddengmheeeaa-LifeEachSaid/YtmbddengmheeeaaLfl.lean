/-
  Do so many replicas find it well: Well.
-/
import Derived.Test.YtmbddengmheeeaaLfk
namespace Go.Proofs.Ytmbddengmheeeaa
open Go.RowKit
set_option maxRecDepth 100000
set_option linter.unusedVariables false
set_option linter.unusedSimpArgs false
attribute [local go_sem ↓] exec_span exec_put exec_build heap_alloc_new heap_old
attribute [local go_sem] spanQ_ptr spanC_some heap_of_drew heap_of_drewN rs_ad rs_spec rs_rec rs_vote putAt_ptr putOk_ptr oldOk_some store_fl

theorem run_minI {P : Program} (ats : Array TypeId) (t : TypeId) (x y : Int) (w : World) : (Builtin.min_ ats t #[.int .i64 x, .int .i64 y]).run P w = .ok (.int .i64 (min x y)) w := by
  by_cases h : x < y
  · simp [Builtin.min_, Builtin.min2, h]; omega
  · simp [Builtin.min_, Builtin.min2, h]; omega
def unwB (v : Int × Bool) : Bool := castB v && !v.2
def unw (l : List (Int × Bool)) : Nat := l.countP unwB
theorem unw_take {l : List (Int × Bool)} {k : Nat} (h : k < l.length) : unw (l.take (k + 1)) = unw (l.take k) + (if unwB l[k] = true then 1 else 0) := by
  unfold unw
  rw [List.take_succ_eq_append_getElem h, List.countP_append, List.countP_singleton]
theorem unw_le (l : List (Int × Bool)) (k : Nat) : unw (l.take k) ≤ k := by
  unfold unw
  exact Nat.le_trans List.countP_le_length (by rw [List.length_take]; exact Nat.min_le_left _ _)
def wellK (k : Kn) (n : Int) : Bool := knTo k n && decide (2 * (unw (k.vs.take n.toNat) : Int) < n)
theorem knTo_len {k : Kn} {n : Int} (h : knTo k n = true) : 1 ≤ n ∧ n ≤ 16 ∧ k.vs.length ≤ 16 := by
  unfold knTo at h
  simp only [Bool.and_eq_true, decide_eq_true_eq] at h
  obtain ⟨h1, h2, h3, h4⟩ := h
  unfold okK at h1
  rw [if_neg (by omega)] at h1
  unfold okR votesOk at h1
  simp only [Bool.and_eq_true, decide_eq_true_eq] at h1
  exact ⟨h2, h3, h1.2.2.2.2.2.1.1.1⟩
set_option maxHeartbeats 8000000 in
theorem wellK_any (w : World) (B : Nat) (X : Array Value) (k : Kn) (va : Option Addr) (vc : Nat) (n : Int) (h : KnV w B X k va vc) (hB : B ≤ w.heap.size) : Calls Try.prog 18 #[.agg X, .int .i64 n] w (BoolP w (wellK k n)) := by
  have hF : Hid (∀ w' r, Below w.heap.size w w' → r = wellK k n → BoolP w (wellK k n) (.returned (.bool r)) w') := hide fun w' r hb hr => ⟨by rw [hr], hb⟩
  have he : wellK k n = (knTo k n && decide (2 * (unw (k.vs.take n.toNat) : Int) < n)) := rfl
  generalize wellK k n = R at hF he ⊢
  obtain ⟨W, hW, r1, hz, hb⟩ := one_block w (.cells X 34)
  have hlen := fun e : knTo k n = true => knTo_len e
  have hBW : B ≤ W.heap.size := by omega
  have KN := hide (knTo_any W B X k va vc n (h.below hb hB) hBW)
  obtain ⟨-, -, a22, -⟩ := h.rc.cells r1
  have hxs := h.rc.size
  have hxx := h.rc.x0
  simp only [Kn.rc] at a22
  obtain ⟨q, hq⟩ : ∃ q, q = knTo k n := ⟨_, rfl⟩
  rw [← hq] at KN he hlen
  have HA := hide (fun (W1 : World) (bl : Below W.heap.size W W1) => (⟨(BW.mk W1 bl).cell a22, h.vo.below (hb.trans (bl.mono (by omega))) hB⟩ : _ ∧ _))
  have HB := hide hb
  have HZ := hide hz
  have hcp := h.cp
  obtain ⟨l, hl⟩ : ∃ l, l = k.vs := ⟨_, rfl⟩
  rw [← hl] at HA he hlen hcp
  have HE := hide he
  clear hq hb hz h he hl a22
  go_enter Try.func18, Try.ntmps18
  go_wp2_with fail
  refine KN.out.mono ?_
  rintro e w1 ⟨rfl, bb1⟩
  have c22 := HA.out w1 bb1
  have B1 := hide (HB.out.trans (bb1.mono (show w.heap.size ≤ W.heap.size by have := HZ.out; omega)))
  clear bb1 r1
  dsimp only
  cases q
  · have hR : Hid (R = false) := hide (by rw [HE.out]; rfl)
    clear c22
    go_wp2
    go_ret
    exact hF.out _ _ B1.out hR.out.symm
  obtain ⟨n1, n2, n3⟩ := hlen rfl
  obtain ⟨m, rfl⟩ : ∃ m : Nat, n = (m : Int) := ⟨n.toNat, by omega⟩
  have hR : Hid (R = decide (2 * (unw (l.take m) : Int) < (m : Int))) := hide (by rw [HE.out, Int.toNat_natCast]; rfl)
  obtain ⟨c1, hv⟩ := c22
  obtain ⟨j, hj, hjl, hjt⟩ : ∃ j, j = min l.length m ∧ j ≤ l.length ∧ l.take m = l.take j := ⟨_, rfl, Nat.min_le_left _ _, by rw [List.take_eq_take_iff]; omega⟩
  rw [hjt] at hR
  obtain ⟨an, han⟩ : ∃ a, a = l.length := ⟨_, rfl⟩
  have hmin : (min (an : Int) (m : Int) = (j : Int)) := by omega
  have hjc : (j : Int) ≤ (vc : Int) := by omega
  have hjc2 : j ≤ vc := by omega
  have HJL := hide hjl
  have hj16 : Hid (j ≤ 16) := hide (by omega)
  have hm16 : Hid (m ≤ 16) := hide (by omega)
  have hj0 : (0 : Int) ≤ (j : Int) := by omega
  have hmn := fun W => (run_minI (P := Try.prog) #[3, 3] 3 (an : Int) (m : Int) W).trans (by rw [hmin])
  rw [← han] at c1
  have HV := hide hv
  have HAN := hide han
  clear hj hjt hjl hv han hmin hlen n1 n2 n3 hcp HE HA
  go_wp2
  go_loopw [5, 21] (fun s v wr => ∃ t x : Nat, t ≤ j ∧ s = .int .i64 (x : Int) ∧ v = .int .i64 (t : Int) ∧ Hid (x = unw (l.take t)) ∧ Hid (Below w1.heap.size w1 wr)) (fun _ v _ => j - (intOf v).toNat)
  case atStart => exact ⟨0, 0, by omega, rfl, rfl, hide rfl, hide (Below.refl _ _)⟩
  case round =>
    obtain ⟨t, x, ht, rfl, rfl, hx, hbel⟩ := hrel
    by_cases hlt : t < j
    · have hkl : t < l.length := Nat.lt_of_lt_of_le hlt HJL.out
      obtain ⟨b, off, rfl, hbB, hc⟩ := HV.out (by omega)
      obtain ⟨g1, g2⟩ := hc t hkl
      have hst := unw_take hkl
      obtain ⟨y, hy⟩ : ∃ y, y = l[t] := ⟨_, rfl⟩
      rw [← hy] at g1 g2 hst
      have KY := hide (fun W => cast_any W y)
      obtain ⟨ys, yo⟩ := y
      have hub : unwB (ys, yo) = (castB (ys, yo) && !yo) := rfl
      unfold voV at KY
      obtain ⟨q, hq⟩ : ∃ q, q = castB (ys, yo) := ⟨_, rfl⟩
      rw [← hq] at KY hub
      have hbw : b < w1.heap.size := by have := B1.out.size; omega
      have i1 : wr.cell? ⟨b, off + t * 2, none⟩ = some (.int .i64 ys) := (hbel.out.cell (show (⟨b, off + t * 2, none⟩ : Addr).block < w1.heap.size from hbw)).trans g1
      have i2 : wr.cell? ⟨b, off + t * 2 + 1, none⟩ = some (.bool yo) := (hbel.out.cell (show (⟨b, off + t * 2 + 1, none⟩ : Addr).block < w1.heap.size from hbw)).trans g2
      have hbs := hide hbel.out.size
      have hBA := hide (hbel.out.alloc hbs.out (.cells #[.int .i64 ys, .bool yo] 46))
      have hBAs := hide hBA.out.size
      obtain ⟨V, hV⟩ : ∃ V, V = (#[Value.int IntKind.i64 ys, Value.bool yo] : Array Value) := ⟨_, rfl⟩
      have hxv : (#[Value.int IntKind.i64 ys, Value.bool yo] : Array Value).extract 0 2 = #[Value.int IntKind.i64 ys, Value.bool yo] := rfl
      have hv1 : ∀ W1 : World, Below (wr.heap.size + 1) (wr.alloc (.cells #[.int .i64 ys, .bool yo] 46)) W1 → W1.cell? ⟨wr.heap.size, 1, none⟩ = some (.bool yo) := fun W1 bl => by
        rw [bl.cell (show (⟨wr.heap.size, 1, none⟩ : Addr).block < wr.heap.size + 1 from Nat.lt_succ_self _)]
        exact cell_of_row _ _ 1 #[.int .i64 ys, .bool yo] _ (0, 0) (heap_alloc_new _ _)
      have HV1 := hide hv1
      have HX := hide (show x ≤ t from by rw [hx.out]; exact unw_le _ _)
      have hx16 : (x : Int) ≤ 16 := by have := HX.out; have := hj16.out; omega
      have hji : (t : Int) < (j : Int) := by omega
      have ht16 : (t : Int) < 16 := by have := hj16.out; omega
      have HST := hide hst
      clear hc hy hq g1 g2 hst hkl hbw hbB hv1 hV
      cases q
      · have hT2 : Hid (x = unw (l.take (t + 1))) := hide (by rw [HST.out, hub, ← hx.out]; simp)
        go_wp2_with (first | ((with_reducible refine (KY.out _).mono ?_); rintro e w2 ⟨rfl, b2⟩; have B2 := hide (hBA.out.trans (b2.mono hBAs.out)); clear b2) | fail)
        go_roundw
        case rel => exact ⟨t + 1, x, by omega, rfl, by go_num, hT2, B2⟩
        case measure => simp [intOf]; omega
      · go_wp2_with fail
        refine (KY.out _).mono ?_
        rintro e w2 ⟨rfl, b2⟩
        have B2 := hide (hBA.out.trans (b2.mono hBAs.out))
        have k1 := HV1.out w2 (by simpa using b2)
        clear b2
        dsimp only
        cases yo
        · have hT2 : Hid (x + 1 = unw (l.take (t + 1))) := hide (by rw [HST.out, hub, ← hx.out]; simp)
          go_wp2
          go_roundw
          case rel => exact ⟨t + 1, x + 1, by omega, by go_num, by go_num, hT2, B2⟩
          case measure => simp [intOf]; omega
        · have hT2 : Hid (x = unw (l.take (t + 1))) := hide (by rw [HST.out, hub, ← hx.out]; simp)
          go_wp2
          go_roundw
          case rel => exact ⟨t + 1, x, by omega, rfl, by go_num, hT2, B2⟩
          case measure => simp [intOf]; omega
    · obtain rfl : t = j := by omega
      obtain ⟨r, hr⟩ : ∃ r, r = decide (2 * (x : Int) < (m : Int)) := ⟨_, rfl⟩
      have hRr : Hid (R = r) := hide (by rw [hR.out, hr, hx.out])
      have HX := hide (show x ≤ t from by rw [hx.out]; exact unw_le _ _)
      have hx16 : (x : Int) ≤ 16 := by have := HX.out; have := hj16.out; omega
      have hr2 := hr.symm
      clear hr
      go_wp2
      go_ret
      exact hF.out _ _ (B1.out.trans (hbel.out.mono B1.out.size)) hRr.out.symm
end Go.Proofs.Ytmbddengmheeeaa
