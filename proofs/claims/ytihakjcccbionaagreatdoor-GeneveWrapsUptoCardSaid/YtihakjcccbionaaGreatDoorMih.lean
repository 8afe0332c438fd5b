import Derived.Test.YtihakjcccbionaaGreatDoorMad
import Derived.Test.YtihakjcccbionaaGreatDoorMla
import Derived.Test.YtihakjcccbionaaGreatDoorMrd
import Derived.Test.YtihakjcccbionaaGreatDoorLent
import Derived.Test.YtihakjcccbionaaGreatDoorSumsA
import Derived.Laws.CopyOwn
section
/-
  Words for packets: the cells of one; and the walks of what it is asked: how long its head is, can it be.
-/
namespace Go.Proofs.YtihakjcccbionaaGreatDoor
open Go.RowKit
attribute [local go_sem ↓] exec_span exec_put exec_build heap_alloc_new heap_old
attribute [local go_sem] spanQ_ptr spanC_some heap_of_drew heap_of_drewN rs_arr rs_ad putAt_ptr putOk_ptr oldOk_some built_none World.setRow_alloc_new
set_option maxRecDepth 100000
set_option linter.unusedVariables false
set_option linter.unusedSimpArgs false

/-- what a packet is (its lists by where they lie). -/
structure Ip where
  v : Bool
  sv : Bool
  sb : List UInt8
  dv : Bool
  db : List UInt8
  p : Int
  ttl : Int
  tos : Int
  id : Int
  df : Bool
  lab : Int
  ao : Option Addr
  no : Nat
  co : Nat
  ad : Option Addr
  nd : Nat
  cd : Nat
def ipT (h : Ip) : List Value := [.int .i64 h.p, .int .i64 h.ttl, .int .i64 h.tos, .int .i64 h.id, .bool h.df, .int .i64 h.lab, .slice h.ao h.no h.co, .slice h.ad h.nd h.cd]
def ipL (h : Ip) : List Value := .bool h.v :: (adL h.sv h.sb ++ (adL h.dv h.db ++ ipT h))
structure IpV (X : Array Value) (h : Ip) : Prop where
  eq : X = (ipL h).toArray
  ls : h.sb.length = 16
  ld : h.db.length = 16
theorem lenI_adL {v : Bool} {l : List UInt8} (h : l.length = 16) : (adL v l).length = 17 := by simp [adL, h]
theorem IpV.size {X : Array Value} {h : Ip} (x : IpV X h) : X.size = 43 := by rw [x.eq]; simp [ipL, ipT, lenI_adL x.ls, lenI_adL x.ld]
theorem IpV.x0 {X : Array Value} {h : Ip} (x : IpV X h) : X.extract 0 43 = X := by rw [← x.size]; simp
theorem IpV.one {X : Array Value} {h : Ip} (x : IpV X h) : allOne X = true := by
  have e1 : ∀ (v : Bool) (l : List UInt8), ∀ u ∈ adL v l, u.oneCell' = true := fun v l u hu => by
    rcases List.mem_cons.1 hu with rfl | hu
    · rfl
    · exact byteV_one l u hu
  rw [x.eq]
  refine all_oneCell_toArray fun u hu => ?_
  rcases List.mem_cons.1 hu with rfl | hu
  · rfl
  · rcases List.mem_append.1 hu with hu | hu
    · exact e1 _ _ u hu
    · rcases List.mem_append.1 hu with hu | hu
      · exact e1 _ _ u hu
      · simp [ipT] at hu
        rcases hu with rfl | rfl | rfl | rfl | rfl | rfl | rfl | rfl <;> rfl
/-- its parts. -/
theorem IpV.src {X : Array Value} {h : Ip} (x : IpV X h) : X.extract 1 18 = (adL h.sv h.sb).toArray := by
  rw [x.eq, List.extract_toArray]
  congr 1
  simp only [ipL, List.extract_eq_take_drop, List.drop_succ_cons, List.drop_zero]
  rw [List.take_append_of_le_length (by rw [lenI_adL x.ls]; decide), List.take_of_length_le (by rw [lenI_adL x.ls]; decide)]
theorem IpV.dst {X : Array Value} {h : Ip} (x : IpV X h) : X.extract 18 35 = (adL h.dv h.db).toArray := by
  rw [x.eq, List.extract_toArray]
  congr 1
  simp only [ipL, List.extract_eq_take_drop, List.drop_succ_cons]
  rw [List.drop_append_of_le_length (by rw [lenI_adL x.ls]; decide), List.drop_of_length_le (by rw [lenI_adL x.ls]; decide), List.nil_append, List.take_append_of_le_length (by rw [lenI_adL x.ld]; decide), List.take_of_length_le (by rw [lenI_adL x.ld]; decide)]
theorem IpV.get {X : Array Value} {h : Ip} (x : IpV X h) (i : Nat) : X[35 + i]? = (ipT h)[i]? := by
  rw [x.eq]
  simp only [List.getElem?_toArray, ipL]
  rw [show 35 + i = (34 + i) + 1 by omega, List.getElem?_cons_succ, List.getElem?_append_right (by rw [lenI_adL x.ls]; omega), lenI_adL x.ls, List.getElem?_append_right (by rw [lenI_adL x.ld]; omega), lenI_adL x.ld]
  congr 1; omega
/-- what a walk asks of a packet's block. -/
structure IpC (w : World) (g : Nat) (h : Ip) : Prop where
  c0 : w.cell? ⟨g, 0, none⟩ = some (.bool h.v)
  c1 : w.cell? ⟨g, 1, none⟩ = some (.bool h.sv)
  c18 : w.cell? ⟨g, 18, none⟩ = some (.bool h.dv)
  c35 : w.cell? ⟨g, 35, none⟩ = some (.int .i64 h.p)
  c36 : w.cell? ⟨g, 36, none⟩ = some (.int .i64 h.ttl)
  c37 : w.cell? ⟨g, 37, none⟩ = some (.int .i64 h.tos)
  c38 : w.cell? ⟨g, 38, none⟩ = some (.int .i64 h.id)
  c39 : w.cell? ⟨g, 39, none⟩ = some (.bool h.df)
  c40 : w.cell? ⟨g, 40, none⟩ = some (.int .i64 h.lab)
  c41 : w.cell? ⟨g, 41, none⟩ = some (.slice h.ao h.no h.co)
  c42 : w.cell? ⟨g, 42, none⟩ = some (.slice h.ad h.nd h.cd)
theorem IpV.cells {X : Array Value} {h : Ip} (x : IpV X h) {w : World} {g : Nat} {ty : TypeId} (hg : w.heap[g]? = some (.cells X ty (0, 0))) : IpC w g h := by
  have hc := fun i => cell_of_row w g i X ty (0, 0) hg
  have hg' := fun i => (hc (35 + i)).trans (x.get i)
  have e0 : X[0]? = some (.bool h.v) := by rw [x.eq]; rfl
  have e1 : X[1]? = some (.bool h.sv) := by rw [x.eq]; rfl
  have e18 : X[18]? = some (.bool h.dv) := by
    rw [x.eq]
    simp only [List.getElem?_toArray, ipL]
    rw [List.getElem?_cons_succ, List.getElem?_append_right (by rw [lenI_adL x.ls]; omega), lenI_adL x.ls]; rfl
  exact ⟨(hc 0).trans e0, (hc 1).trans e1, (hc 18).trans e18, hg' 0, hg' 1, hg' 2, hg' 3, hg' 4, hg' 5, hg' 6, hg' 7⟩
theorem IpV.bytS {X : Array Value} {h : Ip} (x : IpV X h) {w : World} {g : Nat} {ty : TypeId} {B : Nat} (hg : w.heap[g]? = some (.cells X ty (0, 0))) (hB : g < B) : Byt w B (some ⟨g, 2, none⟩) h.sb := fun _ =>
  ⟨g, 2, rfl, hB, fun i hi => by
    rw [cell_of_row w g (2 + i) X ty (0, 0) hg, x.eq]
    simp only [List.getElem?_toArray, ipL]
    rw [show 2 + i = (1 + i) + 1 by omega, List.getElem?_cons_succ, List.getElem?_append_left (by rw [lenI_adL x.ls]; have := x.ls; omega), Nat.add_comm 1]
    simp [adL, byteV, hi]⟩
theorem IpV.bytD {X : Array Value} {h : Ip} (x : IpV X h) {w : World} {g : Nat} {ty : TypeId} {B : Nat} (hg : w.heap[g]? = some (.cells X ty (0, 0))) (hB : g < B) : Byt w B (some ⟨g, 19, none⟩) h.db := fun _ =>
  ⟨g, 19, rfl, hB, fun i hi => by
    rw [cell_of_row w g (19 + i) X ty (0, 0) hg, x.eq]
    simp only [List.getElem?_toArray, ipL]
    rw [show 19 + i = (18 + i) + 1 by omega, List.getElem?_cons_succ, List.getElem?_append_right (by rw [lenI_adL x.ls]; omega), lenI_adL x.ls, List.getElem?_append_left (by rw [lenI_adL x.ld]; have := x.ld; omega), show 18 + i - 17 = i + 1 by omega]
    simp [adL, byteV, hi]⟩
theorem rs_ip : rowSize Tryz.prog 51 = some 43 := by kernel_rfl
theorem rs_rip : rowSize Tryz.prog 62 = some 43 := by kernel_rfl
attribute [local go_sem] rs_ip rs_rip

/-- how long its head is. -/
def sizeH (h : Ip) : Int := if h.v then 40 else 20 + (h.no : Int)

set_option maxHeartbeats 1000000 in
theorem sizeh_any (w : World) (X : Array Value) (h : Ip) (x : IpV X h) (hn : h.no ≤ 140737488355328) :
    Calls Tryz.prog 37 #[.agg X] w fun e w' => e = .returned (.int .i64 (sizeH h)) ∧ Below w.heap.size w w' := by
  have hxs := x.size
  obtain ⟨W, hW, h1, hz, hb⟩ := one_block w (.cells X 51)
  have hc := x.cells h1
  have d0 := hc.c0
  have d41 := hc.c41
  have H := hide (show sizeH h = if h.v then 40 else 20 + (h.no : Int) from rfl)
  have hB := hide hb
  obtain ⟨v, hv⟩ : ∃ v, v = h.v := ⟨_, rfl⟩
  rw [← hv] at d0 H
  clear hc hz hb h1 x hxs hv
  cases v
  · go_enter Tryz.func37, Tryz.ntmps37
    go_wp2
    go_ret
    exact ⟨ret_int (by rw [H.out]; rfl), hB.out⟩
  · go_enter Tryz.func37, Tryz.ntmps37
    go_wp2
    go_ret
    exact ⟨ret_int (by rw [H.out]; rfl), hB.out⟩
end Go.Proofs.YtihakjcccbionaaGreatDoor

end
section
namespace Go.Proofs.YtihakjcccbionaaGreatDoor
open Go.RowKit
attribute [local go_sem ↓] exec_span exec_put exec_build heap_alloc_new heap_old
attribute [local go_sem] spanQ_ptr spanC_some heap_of_drew heap_of_drewN rs_arr rs_ad rs_ip rs_rip putAt_ptr putOk_ptr oldOk_some built_none World.setRow_alloc_new
set_option maxRecDepth 100000
set_option linter.unusedVariables false
set_option linter.unusedSimpArgs false

theorem ret_b {a b : Bool} (h : a = b) : Ending.returned (.bool a) = .returned (.bool b) := by rw [h]
/-- is n from 0 to most? -/
def upS (most n : Int) : Bool := decide (0 ≤ n) && decide (n ≤ most)
set_option maxHeartbeats 400000 in
theorem upto_any (w : World) (m n : Int) : Calls Tryz.prog 72 #[.int .i64 m, .int .i64 n] w fun e w' => e = .returned (.bool (upS m n)) ∧ w = w' := by
  by_cases h0 : 0 ≤ n
  · have hp := hide (show upS m n = decide (n ≤ m) by unfold upS; rw [decide_eq_true h0]; rfl)
    go_enter Tryz.func72, Tryz.ntmps72
    go_wp2
    go_ret
    exact ⟨by rw [hp.out]; rfl, rfl⟩
  · have hp := hide (show upS m n = false by unfold upS; rw [decide_eq_false h0]; rfl)
    go_enter Tryz.func72, Tryz.ntmps72
    go_wp2
    go_ret
    exact ⟨by rw [hp.out]; rfl, rfl⟩
set_option maxHeartbeats 400000 in
theorem within_num (w : World) (m n : Int) : Calls Tryz.prog 80 #[.int .i64 n, .int .i64 m] w fun e w' => e = .returned (.bool (upS m n)) ∧ w = w' := by
  by_cases h0 : 0 ≤ n
  · have hp := hide (show upS m n = decide (n ≤ m) by unfold upS; rw [decide_eq_true h0]; rfl)
    go_enter Tryz.func80, Tryz.ntmps80
    go_wp2
    go_ret
    exact ⟨by rw [hp.out]; rfl, rfl⟩
  · have hp := hide (show upS m n = false by unfold upS; rw [decide_eq_false h0]; rfl)
    go_enter Tryz.func80, Tryz.ntmps80
    go_wp2
    go_ret
    exact ⟨by rw [hp.out]; rfl, rfl⟩

set_option maxHeartbeats 1000000 in
theorem rightaddr_any (w : World) (X : Array Value) (v b : Bool) (l : List UInt8) (h : AdV X v l) :
    Calls Tryz.prog 71 #[.agg X, .bool b] w fun e w' => e = .returned (.bool (rightL v l && v == b)) ∧ Below w.heap.size w w' := by
  have hxs := h.size
  have hx0 := h.x0
  obtain ⟨W, hW, h1, hz, hb⟩ := one_block w (.cells X 24)
  have K := hide (right_any W X v l h)
  obtain ⟨R, hR⟩ : ∃ R, R = rightL v l := ⟨_, rfl⟩
  rw [← hR] at K ⊢
  have hk := h.kind h1
  have HK := hide (fun w' (hb : Below W.heap.size W w') => (h.kind (row_kept hb (by omega) h1) : w'.cell? ⟨w.heap.size, 0, none⟩ = some (.bool v)))
  have hB := hide hb
  have hZ := hide hz
  clear hR hz hb h
  cases R
  · go_enter Tryz.func71, Tryz.ntmps71
    go_wp2_with (first | (go_at_call 95; (with_reducible refine K.out.mono ?_); rintro e w1 ⟨rfl, hb1⟩; have B1 := hide hb1; clear hb1) | fail)
    go_ret
    exact ⟨rfl, hB.out.trans (B1.out.mono (by have := hZ.out; omega))⟩
  · go_enter Tryz.func71, Tryz.ntmps71
    go_wp2_with (first | (go_at_call 95; (with_reducible refine K.out.mono ?_); rintro e w1 ⟨rfl, hb1⟩; have B1 := hide hb1; have kk := HK.out w1 hb1; clear hb1) | fail)
    go_ret
    exact ⟨rfl, hB.out.trans (B1.out.mono (by have := hZ.out; omega))⟩

/-- can it be? -/
def rightH (h : Ip) : Bool :=
  (rightL h.sv h.sb && h.sv == h.v) && (rightL h.dv h.db && h.dv == h.v) && upS 255 h.p && upS 255 h.ttl && upS 255 h.tos &&
  (if h.v then h.id == 0 && !h.df && h.no == 0 && upS 1048575 h.lab else upS 65535 h.id && h.lab == 0 && decide (h.no ≤ 40) && h.no % 4 == 0)

set_option maxHeartbeats 16000000 in
theorem rightH_any (w : World) (X : Array Value) (h : Ip) (x : IpV X h) (hn : h.no ≤ 140737488355328) :
    Calls Tryz.prog 36 #[.agg X] w fun e w' => e = .returned (.bool (rightH h)) ∧ Below w.heap.size w w' := by
  have hxs := x.size
  have hxr := x.x0
  obtain ⟨S, hS⟩ : ∃ S, S = (adL h.sv h.sb).toArray := ⟨_, rfl⟩
  obtain ⟨D, hD⟩ : ∃ D, D = (adL h.dv h.db).toArray := ⟨_, rfl⟩
  have hsrc := x.src
  have hdst := x.dst
  rw [← hS] at hsrc
  rw [← hD] at hdst
  have aS : AdV S h.sv h.sb := by rw [hS]; exact AdV.mk' x.ls
  have aD : AdV D h.dv h.db := by rw [hD]; exact AdV.mk' x.ld
  have K1 := hide (fun W => rightaddr_any W S h.sv h.v h.sb aS)
  have K2 := hide (fun W => rightaddr_any W D h.dv h.v h.db aD)
  have U1 := hide (fun W => upto_any W 255 h.p)
  have U2 := hide (fun W => upto_any W 255 h.ttl)
  have U3 := hide (fun W => upto_any W 255 h.tos)
  have U4 := hide (fun W => upto_any W 1048575 h.lab)
  have U5 := hide (fun W => upto_any W 65535 h.id)
  obtain ⟨W, hW, h1, hz, hb⟩ := one_block w (.cells X 51)
  have HC := hide (fun w' (hb : Below W.heap.size W w') => (⟨row_kept hb (by omega) h1, x.cells (row_kept hb (by omega) h1)⟩ : w'.heap[w.heap.size]? = some (.cells X 51 (0, 0)) ∧ IpC w' w.heap.size h))
  obtain ⟨r1, hr1⟩ : ∃ r, r = (rightL h.sv h.sb && h.sv == h.v) := ⟨_, rfl⟩
  obtain ⟨r2, hr2⟩ : ∃ r, r = (rightL h.dv h.db && h.dv == h.v) := ⟨_, rfl⟩
  obtain ⟨u1, hu1⟩ : ∃ r, r = upS 255 h.p := ⟨_, rfl⟩
  obtain ⟨u2, hu2⟩ : ∃ r, r = upS 255 h.ttl := ⟨_, rfl⟩
  obtain ⟨u3, hu3⟩ : ∃ r, r = upS 255 h.tos := ⟨_, rfl⟩
  obtain ⟨u4, hu4⟩ : ∃ r, r = upS 1048575 h.lab := ⟨_, rfl⟩
  obtain ⟨u5, hu5⟩ : ∃ r, r = upS 65535 h.id := ⟨_, rfl⟩
  have HR : Hid (rightH h = (r1 && r2 && u1 && u2 && u3 && (if h.v then h.id == 0 && !h.df && h.no == 0 && u4 else u5 && h.lab == 0 && decide (h.no ≤ 40) && h.no % 4 == 0))) := by
    rw [hr1, hr2, hu1, hu2, hu3, hu4, hu5]; exact hide rfl
  rw [← hr1] at K1
  rw [← hr2] at K2
  rw [← hu1] at U1
  rw [← hu2] at U2
  rw [← hu3] at U3
  rw [← hu4] at U4
  rw [← hu5] at U5
  obtain ⟨c0, c1, c2, c3, c4, c5, c6, c7, c8, c9, c10⟩ := x.cells h1
  have hB := hide hb
  have hz := hide hz
  obtain ⟨v, hv⟩ : ∃ v, v = h.v := ⟨_, rfl⟩
  obtain ⟨df, hdf⟩ : ∃ v, v = h.df := ⟨_, rfl⟩
  obtain ⟨idn, hid⟩ : ∃ v, v = h.id := ⟨_, rfl⟩
  obtain ⟨lab, hlab⟩ : ∃ v, v = h.lab := ⟨_, rfl⟩
  obtain ⟨no, hno⟩ : ∃ v, v = h.no := ⟨_, rfl⟩
  have HC : Hid (∀ w', Below W.heap.size W w' → w'.heap[w.heap.size]? = some (.cells X 51 (0, 0)) ∧ w'.cell? ⟨w.heap.size, 0, none⟩ = some (.bool v) ∧ w'.cell? ⟨w.heap.size, 1, none⟩ = some (.bool h.sv) ∧ w'.cell? ⟨w.heap.size, 18, none⟩ = some (.bool h.dv) ∧ w'.cell? ⟨w.heap.size, 35, none⟩ = some (.int .i64 h.p) ∧ w'.cell? ⟨w.heap.size, 36, none⟩ = some (.int .i64 h.ttl) ∧ w'.cell? ⟨w.heap.size, 37, none⟩ = some (.int .i64 h.tos) ∧ w'.cell? ⟨w.heap.size, 38, none⟩ = some (.int .i64 idn) ∧ w'.cell? ⟨w.heap.size, 39, none⟩ = some (.bool df) ∧ w'.cell? ⟨w.heap.size, 40, none⟩ = some (.int .i64 lab) ∧ w'.cell? ⟨w.heap.size, 41, none⟩ = some (.slice h.ao no h.co) ∧ w'.cell? ⟨w.heap.size, 42, none⟩ = some (.slice h.ad h.nd h.cd)) := by
    rw [hv, hdf, hid, hlab, hno]
    exact hide fun w' hb => by
      obtain ⟨g, q⟩ := HC.out w' hb
      exact ⟨g, q.c0, q.c1, q.c18, q.c35, q.c36, q.c37, q.c38, q.c39, q.c40, q.c41, q.c42⟩
  rw [← hv] at c0 HR K1 K2
  rw [← hdf] at c7 HR
  rw [← hid] at c6 HR U5
  rw [← hlab] at c8 HR U4
  rw [← hno] at c9 HR hn
  clear hr1 hr2 hu1 hu2 hu3 hu4 hu5 hv hdf hid hlab hno hb aS aD hS hD x
  subst hW
  cases r1
  · go_enter Tryz.func36, Tryz.ntmps36
    go_wp2_with (first | (go_at_call 71; (with_reducible refine (K1.out _).mono ?_); rintro e w1 ⟨rfl, hb1⟩; have B1 := hide hb1; obtain ⟨g1, q⟩ := HC.out w1 hb1; obtain ⟨k0, k1, k2, k3, k4, k5, k6, k7, k8, k9, k10⟩ := q) | (go_at_call 71; (with_reducible refine (K2.out _).mono ?_); rintro e w2 ⟨rfl, hb2⟩; have B2 := hide (B1.out.trans (hb2.mono B1.out.size)); obtain ⟨g2, q⟩ := HC.out w2 B2.out; obtain ⟨m0, m1, m2, m3, m4, m5, m6, m7, m8, m9, m10⟩ := q; clear k0 k1 k2 k3 k4 k5 k6 k7 k8 k9 k10 g1) | (go_at_call 72; (with_reducible refine (U1.out _).mono ?_); rintro e wx ⟨rfl, rfl⟩) | (go_at_call 72; (with_reducible refine (U2.out _).mono ?_); rintro e wx ⟨rfl, rfl⟩) | (go_at_call 72; (with_reducible refine (U3.out _).mono ?_); rintro e wx ⟨rfl, rfl⟩) | (go_at_call 72; (with_reducible refine (U4.out _).mono ?_); rintro e wx ⟨rfl, rfl⟩) | (go_at_call 72; (with_reducible refine (U5.out _).mono ?_); rintro e wx ⟨rfl, rfl⟩) | fail)
    go_ret
    exact ⟨ret_b (by rw [HR.out]; simp [*]), hB.out.trans (B1.out.mono (by have := hz.out; omega))⟩
  · cases r2
    · go_enter Tryz.func36, Tryz.ntmps36
      go_wp2_with (first | (go_at_call 71; (with_reducible refine (K1.out _).mono ?_); rintro e w1 ⟨rfl, hb1⟩; have B1 := hide hb1; obtain ⟨g1, q⟩ := HC.out w1 hb1; obtain ⟨k0, k1, k2, k3, k4, k5, k6, k7, k8, k9, k10⟩ := q) | (go_at_call 71; (with_reducible refine (K2.out _).mono ?_); rintro e w2 ⟨rfl, hb2⟩; have B2 := hide (B1.out.trans (hb2.mono B1.out.size)); obtain ⟨g2, q⟩ := HC.out w2 B2.out; obtain ⟨m0, m1, m2, m3, m4, m5, m6, m7, m8, m9, m10⟩ := q; clear k0 k1 k2 k3 k4 k5 k6 k7 k8 k9 k10 g1) | (go_at_call 72; (with_reducible refine (U1.out _).mono ?_); rintro e wx ⟨rfl, rfl⟩) | (go_at_call 72; (with_reducible refine (U2.out _).mono ?_); rintro e wx ⟨rfl, rfl⟩) | (go_at_call 72; (with_reducible refine (U3.out _).mono ?_); rintro e wx ⟨rfl, rfl⟩) | (go_at_call 72; (with_reducible refine (U4.out _).mono ?_); rintro e wx ⟨rfl, rfl⟩) | (go_at_call 72; (with_reducible refine (U5.out _).mono ?_); rintro e wx ⟨rfl, rfl⟩) | fail)
      go_ret
      exact ⟨ret_b (by rw [HR.out]; simp [*]), hB.out.trans (B2.out.mono (by have := hz.out; omega))⟩
    · cases u1
      · go_enter Tryz.func36, Tryz.ntmps36
        go_wp2_with (first | (go_at_call 71; (with_reducible refine (K1.out _).mono ?_); rintro e w1 ⟨rfl, hb1⟩; have B1 := hide hb1; obtain ⟨g1, q⟩ := HC.out w1 hb1; obtain ⟨k0, k1, k2, k3, k4, k5, k6, k7, k8, k9, k10⟩ := q) | (go_at_call 71; (with_reducible refine (K2.out _).mono ?_); rintro e w2 ⟨rfl, hb2⟩; have B2 := hide (B1.out.trans (hb2.mono B1.out.size)); obtain ⟨g2, q⟩ := HC.out w2 B2.out; obtain ⟨m0, m1, m2, m3, m4, m5, m6, m7, m8, m9, m10⟩ := q; clear k0 k1 k2 k3 k4 k5 k6 k7 k8 k9 k10 g1) | (go_at_call 72; (with_reducible refine (U1.out _).mono ?_); rintro e wx ⟨rfl, rfl⟩) | (go_at_call 72; (with_reducible refine (U2.out _).mono ?_); rintro e wx ⟨rfl, rfl⟩) | (go_at_call 72; (with_reducible refine (U3.out _).mono ?_); rintro e wx ⟨rfl, rfl⟩) | (go_at_call 72; (with_reducible refine (U4.out _).mono ?_); rintro e wx ⟨rfl, rfl⟩) | (go_at_call 72; (with_reducible refine (U5.out _).mono ?_); rintro e wx ⟨rfl, rfl⟩) | fail)
        go_ret
        exact ⟨ret_b (by rw [HR.out]; simp [*]), hB.out.trans (B2.out.mono (by have := hz.out; omega))⟩
      · cases u2
        · go_enter Tryz.func36, Tryz.ntmps36
          go_wp2_with (first | (go_at_call 71; (with_reducible refine (K1.out _).mono ?_); rintro e w1 ⟨rfl, hb1⟩; have B1 := hide hb1; obtain ⟨g1, q⟩ := HC.out w1 hb1; obtain ⟨k0, k1, k2, k3, k4, k5, k6, k7, k8, k9, k10⟩ := q) | (go_at_call 71; (with_reducible refine (K2.out _).mono ?_); rintro e w2 ⟨rfl, hb2⟩; have B2 := hide (B1.out.trans (hb2.mono B1.out.size)); obtain ⟨g2, q⟩ := HC.out w2 B2.out; obtain ⟨m0, m1, m2, m3, m4, m5, m6, m7, m8, m9, m10⟩ := q; clear k0 k1 k2 k3 k4 k5 k6 k7 k8 k9 k10 g1) | (go_at_call 72; (with_reducible refine (U1.out _).mono ?_); rintro e wx ⟨rfl, rfl⟩) | (go_at_call 72; (with_reducible refine (U2.out _).mono ?_); rintro e wx ⟨rfl, rfl⟩) | (go_at_call 72; (with_reducible refine (U3.out _).mono ?_); rintro e wx ⟨rfl, rfl⟩) | (go_at_call 72; (with_reducible refine (U4.out _).mono ?_); rintro e wx ⟨rfl, rfl⟩) | (go_at_call 72; (with_reducible refine (U5.out _).mono ?_); rintro e wx ⟨rfl, rfl⟩) | fail)
          go_ret
          exact ⟨ret_b (by rw [HR.out]; simp [*]), hB.out.trans (B2.out.mono (by have := hz.out; omega))⟩
        · cases u3
          · go_enter Tryz.func36, Tryz.ntmps36
            go_wp2_with (first | (go_at_call 71; (with_reducible refine (K1.out _).mono ?_); rintro e w1 ⟨rfl, hb1⟩; have B1 := hide hb1; obtain ⟨g1, q⟩ := HC.out w1 hb1; obtain ⟨k0, k1, k2, k3, k4, k5, k6, k7, k8, k9, k10⟩ := q) | (go_at_call 71; (with_reducible refine (K2.out _).mono ?_); rintro e w2 ⟨rfl, hb2⟩; have B2 := hide (B1.out.trans (hb2.mono B1.out.size)); obtain ⟨g2, q⟩ := HC.out w2 B2.out; obtain ⟨m0, m1, m2, m3, m4, m5, m6, m7, m8, m9, m10⟩ := q; clear k0 k1 k2 k3 k4 k5 k6 k7 k8 k9 k10 g1) | (go_at_call 72; (with_reducible refine (U1.out _).mono ?_); rintro e wx ⟨rfl, rfl⟩) | (go_at_call 72; (with_reducible refine (U2.out _).mono ?_); rintro e wx ⟨rfl, rfl⟩) | (go_at_call 72; (with_reducible refine (U3.out _).mono ?_); rintro e wx ⟨rfl, rfl⟩) | (go_at_call 72; (with_reducible refine (U4.out _).mono ?_); rintro e wx ⟨rfl, rfl⟩) | (go_at_call 72; (with_reducible refine (U5.out _).mono ?_); rintro e wx ⟨rfl, rfl⟩) | fail)
            go_ret
            exact ⟨ret_b (by rw [HR.out]; simp [*]), hB.out.trans (B2.out.mono (by have := hz.out; omega))⟩
          · cases v
            · cases u5
              · go_enter Tryz.func36, Tryz.ntmps36
                go_wp2_with (first | (go_at_call 71; (with_reducible refine (K1.out _).mono ?_); rintro e w1 ⟨rfl, hb1⟩; have B1 := hide hb1; obtain ⟨g1, q⟩ := HC.out w1 hb1; obtain ⟨k0, k1, k2, k3, k4, k5, k6, k7, k8, k9, k10⟩ := q) | (go_at_call 71; (with_reducible refine (K2.out _).mono ?_); rintro e w2 ⟨rfl, hb2⟩; have B2 := hide (B1.out.trans (hb2.mono B1.out.size)); obtain ⟨g2, q⟩ := HC.out w2 B2.out; obtain ⟨m0, m1, m2, m3, m4, m5, m6, m7, m8, m9, m10⟩ := q; clear k0 k1 k2 k3 k4 k5 k6 k7 k8 k9 k10 g1) | (go_at_call 72; (with_reducible refine (U1.out _).mono ?_); rintro e wx ⟨rfl, rfl⟩) | (go_at_call 72; (with_reducible refine (U2.out _).mono ?_); rintro e wx ⟨rfl, rfl⟩) | (go_at_call 72; (with_reducible refine (U3.out _).mono ?_); rintro e wx ⟨rfl, rfl⟩) | (go_at_call 72; (with_reducible refine (U4.out _).mono ?_); rintro e wx ⟨rfl, rfl⟩) | (go_at_call 72; (with_reducible refine (U5.out _).mono ?_); rintro e wx ⟨rfl, rfl⟩) | fail)
                go_ret
                exact ⟨ret_b (by rw [HR.out]; simp [*]), hB.out.trans (B2.out.mono (by have := hz.out; omega))⟩
              · by_cases q1 : lab = 0
                · subst q1
                  by_cases q3 : no ≤ 40
                  · have q3' : (no : Int) ≤ 40 := by omega
                    by_cases q4 : no % 4 = 0
                    · have e4 : ((no : Int) % 4 == 0) = true := by simp; omega
                      have e5 : (no % 4 == 0) = true := by simp; omega
                      clear q4
                      go_enter Tryz.func36, Tryz.ntmps36
                      go_wp2_with (first | (go_at_call 71; (with_reducible refine (K1.out _).mono ?_); rintro e w1 ⟨rfl, hb1⟩; have B1 := hide hb1; obtain ⟨g1, q⟩ := HC.out w1 hb1; obtain ⟨k0, k1, k2, k3, k4, k5, k6, k7, k8, k9, k10⟩ := q) | (go_at_call 71; (with_reducible refine (K2.out _).mono ?_); rintro e w2 ⟨rfl, hb2⟩; have B2 := hide (B1.out.trans (hb2.mono B1.out.size)); obtain ⟨g2, q⟩ := HC.out w2 B2.out; obtain ⟨m0, m1, m2, m3, m4, m5, m6, m7, m8, m9, m10⟩ := q; clear k0 k1 k2 k3 k4 k5 k6 k7 k8 k9 k10 g1) | (go_at_call 72; (with_reducible refine (U1.out _).mono ?_); rintro e wx ⟨rfl, rfl⟩) | (go_at_call 72; (with_reducible refine (U2.out _).mono ?_); rintro e wx ⟨rfl, rfl⟩) | (go_at_call 72; (with_reducible refine (U3.out _).mono ?_); rintro e wx ⟨rfl, rfl⟩) | (go_at_call 72; (with_reducible refine (U4.out _).mono ?_); rintro e wx ⟨rfl, rfl⟩) | (go_at_call 72; (with_reducible refine (U5.out _).mono ?_); rintro e wx ⟨rfl, rfl⟩) | fail)
                      go_ret
                      exact ⟨ret_b (by rw [HR.out]; simp [*]), hB.out.trans (B2.out.mono (by have := hz.out; omega))⟩
                    · have e4 : ((no : Int) % 4 == 0) = false := by simp; omega
                      have e5 : (no % 4 == 0) = false := by simp; omega
                      clear q4
                      go_enter Tryz.func36, Tryz.ntmps36
                      go_wp2_with (first | (go_at_call 71; (with_reducible refine (K1.out _).mono ?_); rintro e w1 ⟨rfl, hb1⟩; have B1 := hide hb1; obtain ⟨g1, q⟩ := HC.out w1 hb1; obtain ⟨k0, k1, k2, k3, k4, k5, k6, k7, k8, k9, k10⟩ := q) | (go_at_call 71; (with_reducible refine (K2.out _).mono ?_); rintro e w2 ⟨rfl, hb2⟩; have B2 := hide (B1.out.trans (hb2.mono B1.out.size)); obtain ⟨g2, q⟩ := HC.out w2 B2.out; obtain ⟨m0, m1, m2, m3, m4, m5, m6, m7, m8, m9, m10⟩ := q; clear k0 k1 k2 k3 k4 k5 k6 k7 k8 k9 k10 g1) | (go_at_call 72; (with_reducible refine (U1.out _).mono ?_); rintro e wx ⟨rfl, rfl⟩) | (go_at_call 72; (with_reducible refine (U2.out _).mono ?_); rintro e wx ⟨rfl, rfl⟩) | (go_at_call 72; (with_reducible refine (U3.out _).mono ?_); rintro e wx ⟨rfl, rfl⟩) | (go_at_call 72; (with_reducible refine (U4.out _).mono ?_); rintro e wx ⟨rfl, rfl⟩) | (go_at_call 72; (with_reducible refine (U5.out _).mono ?_); rintro e wx ⟨rfl, rfl⟩) | fail)
                      go_ret
                      exact ⟨ret_b (by rw [HR.out]; simp [*]), hB.out.trans (B2.out.mono (by have := hz.out; omega))⟩
                  · have q3' : ¬ (no : Int) ≤ 40 := by omega
                    go_enter Tryz.func36, Tryz.ntmps36
                    go_wp2_with (first | (go_at_call 71; (with_reducible refine (K1.out _).mono ?_); rintro e w1 ⟨rfl, hb1⟩; have B1 := hide hb1; obtain ⟨g1, q⟩ := HC.out w1 hb1; obtain ⟨k0, k1, k2, k3, k4, k5, k6, k7, k8, k9, k10⟩ := q) | (go_at_call 71; (with_reducible refine (K2.out _).mono ?_); rintro e w2 ⟨rfl, hb2⟩; have B2 := hide (B1.out.trans (hb2.mono B1.out.size)); obtain ⟨g2, q⟩ := HC.out w2 B2.out; obtain ⟨m0, m1, m2, m3, m4, m5, m6, m7, m8, m9, m10⟩ := q; clear k0 k1 k2 k3 k4 k5 k6 k7 k8 k9 k10 g1) | (go_at_call 72; (with_reducible refine (U1.out _).mono ?_); rintro e wx ⟨rfl, rfl⟩) | (go_at_call 72; (with_reducible refine (U2.out _).mono ?_); rintro e wx ⟨rfl, rfl⟩) | (go_at_call 72; (with_reducible refine (U3.out _).mono ?_); rintro e wx ⟨rfl, rfl⟩) | (go_at_call 72; (with_reducible refine (U4.out _).mono ?_); rintro e wx ⟨rfl, rfl⟩) | (go_at_call 72; (with_reducible refine (U5.out _).mono ?_); rintro e wx ⟨rfl, rfl⟩) | fail)
                    go_ret
                    exact ⟨ret_b (by rw [HR.out]; simp [*]), hB.out.trans (B2.out.mono (by have := hz.out; omega))⟩
                · have e1 : (lab == 0) = false := by simpa using q1
                  clear q1
                  go_enter Tryz.func36, Tryz.ntmps36
                  go_wp2_with (first | (go_at_call 71; (with_reducible refine (K1.out _).mono ?_); rintro e w1 ⟨rfl, hb1⟩; have B1 := hide hb1; obtain ⟨g1, q⟩ := HC.out w1 hb1; obtain ⟨k0, k1, k2, k3, k4, k5, k6, k7, k8, k9, k10⟩ := q) | (go_at_call 71; (with_reducible refine (K2.out _).mono ?_); rintro e w2 ⟨rfl, hb2⟩; have B2 := hide (B1.out.trans (hb2.mono B1.out.size)); obtain ⟨g2, q⟩ := HC.out w2 B2.out; obtain ⟨m0, m1, m2, m3, m4, m5, m6, m7, m8, m9, m10⟩ := q; clear k0 k1 k2 k3 k4 k5 k6 k7 k8 k9 k10 g1) | (go_at_call 72; (with_reducible refine (U1.out _).mono ?_); rintro e wx ⟨rfl, rfl⟩) | (go_at_call 72; (with_reducible refine (U2.out _).mono ?_); rintro e wx ⟨rfl, rfl⟩) | (go_at_call 72; (with_reducible refine (U3.out _).mono ?_); rintro e wx ⟨rfl, rfl⟩) | (go_at_call 72; (with_reducible refine (U4.out _).mono ?_); rintro e wx ⟨rfl, rfl⟩) | (go_at_call 72; (with_reducible refine (U5.out _).mono ?_); rintro e wx ⟨rfl, rfl⟩) | fail)
                  go_ret
                  exact ⟨ret_b (by rw [HR.out]; simp [*]), hB.out.trans (B2.out.mono (by have := hz.out; omega))⟩
            · by_cases q1 : idn = 0
              · subst q1
                cases df
                · by_cases q2 : no = 0
                  · subst q2
                    cases u4
                    · go_enter Tryz.func36, Tryz.ntmps36
                      go_wp2_with (first | (go_at_call 71; (with_reducible refine (K1.out _).mono ?_); rintro e w1 ⟨rfl, hb1⟩; have B1 := hide hb1; obtain ⟨g1, q⟩ := HC.out w1 hb1; obtain ⟨k0, k1, k2, k3, k4, k5, k6, k7, k8, k9, k10⟩ := q) | (go_at_call 71; (with_reducible refine (K2.out _).mono ?_); rintro e w2 ⟨rfl, hb2⟩; have B2 := hide (B1.out.trans (hb2.mono B1.out.size)); obtain ⟨g2, q⟩ := HC.out w2 B2.out; obtain ⟨m0, m1, m2, m3, m4, m5, m6, m7, m8, m9, m10⟩ := q; clear k0 k1 k2 k3 k4 k5 k6 k7 k8 k9 k10 g1) | (go_at_call 72; (with_reducible refine (U1.out _).mono ?_); rintro e wx ⟨rfl, rfl⟩) | (go_at_call 72; (with_reducible refine (U2.out _).mono ?_); rintro e wx ⟨rfl, rfl⟩) | (go_at_call 72; (with_reducible refine (U3.out _).mono ?_); rintro e wx ⟨rfl, rfl⟩) | (go_at_call 72; (with_reducible refine (U4.out _).mono ?_); rintro e wx ⟨rfl, rfl⟩) | (go_at_call 72; (with_reducible refine (U5.out _).mono ?_); rintro e wx ⟨rfl, rfl⟩) | fail)
                      go_ret
                      exact ⟨ret_b (by rw [HR.out]; simp [*]), hB.out.trans (B2.out.mono (by have := hz.out; omega))⟩
                    · go_enter Tryz.func36, Tryz.ntmps36
                      go_wp2_with (first | (go_at_call 71; (with_reducible refine (K1.out _).mono ?_); rintro e w1 ⟨rfl, hb1⟩; have B1 := hide hb1; obtain ⟨g1, q⟩ := HC.out w1 hb1; obtain ⟨k0, k1, k2, k3, k4, k5, k6, k7, k8, k9, k10⟩ := q) | (go_at_call 71; (with_reducible refine (K2.out _).mono ?_); rintro e w2 ⟨rfl, hb2⟩; have B2 := hide (B1.out.trans (hb2.mono B1.out.size)); obtain ⟨g2, q⟩ := HC.out w2 B2.out; obtain ⟨m0, m1, m2, m3, m4, m5, m6, m7, m8, m9, m10⟩ := q; clear k0 k1 k2 k3 k4 k5 k6 k7 k8 k9 k10 g1) | (go_at_call 72; (with_reducible refine (U1.out _).mono ?_); rintro e wx ⟨rfl, rfl⟩) | (go_at_call 72; (with_reducible refine (U2.out _).mono ?_); rintro e wx ⟨rfl, rfl⟩) | (go_at_call 72; (with_reducible refine (U3.out _).mono ?_); rintro e wx ⟨rfl, rfl⟩) | (go_at_call 72; (with_reducible refine (U4.out _).mono ?_); rintro e wx ⟨rfl, rfl⟩) | (go_at_call 72; (with_reducible refine (U5.out _).mono ?_); rintro e wx ⟨rfl, rfl⟩) | fail)
                      go_ret
                      exact ⟨ret_b (by rw [HR.out]; simp [*]), hB.out.trans (B2.out.mono (by have := hz.out; omega))⟩
                  · have e2 : ((no : Int) == 0) = false := by simp; omega
                    have e3 : (no == 0) = false := by simp; omega
                    clear q2
                    go_enter Tryz.func36, Tryz.ntmps36
                    go_wp2_with (first | (go_at_call 71; (with_reducible refine (K1.out _).mono ?_); rintro e w1 ⟨rfl, hb1⟩; have B1 := hide hb1; obtain ⟨g1, q⟩ := HC.out w1 hb1; obtain ⟨k0, k1, k2, k3, k4, k5, k6, k7, k8, k9, k10⟩ := q) | (go_at_call 71; (with_reducible refine (K2.out _).mono ?_); rintro e w2 ⟨rfl, hb2⟩; have B2 := hide (B1.out.trans (hb2.mono B1.out.size)); obtain ⟨g2, q⟩ := HC.out w2 B2.out; obtain ⟨m0, m1, m2, m3, m4, m5, m6, m7, m8, m9, m10⟩ := q; clear k0 k1 k2 k3 k4 k5 k6 k7 k8 k9 k10 g1) | (go_at_call 72; (with_reducible refine (U1.out _).mono ?_); rintro e wx ⟨rfl, rfl⟩) | (go_at_call 72; (with_reducible refine (U2.out _).mono ?_); rintro e wx ⟨rfl, rfl⟩) | (go_at_call 72; (with_reducible refine (U3.out _).mono ?_); rintro e wx ⟨rfl, rfl⟩) | (go_at_call 72; (with_reducible refine (U4.out _).mono ?_); rintro e wx ⟨rfl, rfl⟩) | (go_at_call 72; (with_reducible refine (U5.out _).mono ?_); rintro e wx ⟨rfl, rfl⟩) | fail)
                    go_ret
                    exact ⟨ret_b (by rw [HR.out]; simp [*]), hB.out.trans (B2.out.mono (by have := hz.out; omega))⟩
                · go_enter Tryz.func36, Tryz.ntmps36
                  go_wp2_with (first | (go_at_call 71; (with_reducible refine (K1.out _).mono ?_); rintro e w1 ⟨rfl, hb1⟩; have B1 := hide hb1; obtain ⟨g1, q⟩ := HC.out w1 hb1; obtain ⟨k0, k1, k2, k3, k4, k5, k6, k7, k8, k9, k10⟩ := q) | (go_at_call 71; (with_reducible refine (K2.out _).mono ?_); rintro e w2 ⟨rfl, hb2⟩; have B2 := hide (B1.out.trans (hb2.mono B1.out.size)); obtain ⟨g2, q⟩ := HC.out w2 B2.out; obtain ⟨m0, m1, m2, m3, m4, m5, m6, m7, m8, m9, m10⟩ := q; clear k0 k1 k2 k3 k4 k5 k6 k7 k8 k9 k10 g1) | (go_at_call 72; (with_reducible refine (U1.out _).mono ?_); rintro e wx ⟨rfl, rfl⟩) | (go_at_call 72; (with_reducible refine (U2.out _).mono ?_); rintro e wx ⟨rfl, rfl⟩) | (go_at_call 72; (with_reducible refine (U3.out _).mono ?_); rintro e wx ⟨rfl, rfl⟩) | (go_at_call 72; (with_reducible refine (U4.out _).mono ?_); rintro e wx ⟨rfl, rfl⟩) | (go_at_call 72; (with_reducible refine (U5.out _).mono ?_); rintro e wx ⟨rfl, rfl⟩) | fail)
                  go_ret
                  exact ⟨ret_b (by rw [HR.out]; simp [*]), hB.out.trans (B2.out.mono (by have := hz.out; omega))⟩
              · have e1 : (idn == 0) = false := by simpa using q1
                clear q1
                go_enter Tryz.func36, Tryz.ntmps36
                go_wp2_with (first | (go_at_call 71; (with_reducible refine (K1.out _).mono ?_); rintro e w1 ⟨rfl, hb1⟩; have B1 := hide hb1; obtain ⟨g1, q⟩ := HC.out w1 hb1; obtain ⟨k0, k1, k2, k3, k4, k5, k6, k7, k8, k9, k10⟩ := q) | (go_at_call 71; (with_reducible refine (K2.out _).mono ?_); rintro e w2 ⟨rfl, hb2⟩; have B2 := hide (B1.out.trans (hb2.mono B1.out.size)); obtain ⟨g2, q⟩ := HC.out w2 B2.out; obtain ⟨m0, m1, m2, m3, m4, m5, m6, m7, m8, m9, m10⟩ := q; clear k0 k1 k2 k3 k4 k5 k6 k7 k8 k9 k10 g1) | (go_at_call 72; (with_reducible refine (U1.out _).mono ?_); rintro e wx ⟨rfl, rfl⟩) | (go_at_call 72; (with_reducible refine (U2.out _).mono ?_); rintro e wx ⟨rfl, rfl⟩) | (go_at_call 72; (with_reducible refine (U3.out _).mono ?_); rintro e wx ⟨rfl, rfl⟩) | (go_at_call 72; (with_reducible refine (U4.out _).mono ?_); rintro e wx ⟨rfl, rfl⟩) | (go_at_call 72; (with_reducible refine (U5.out _).mono ?_); rintro e wx ⟨rfl, rfl⟩) | fail)
                go_ret
                exact ⟨ret_b (by rw [HR.out]; simp [*]), hB.out.trans (B2.out.mono (by have := hz.out; omega))⟩
end Go.Proofs.YtihakjcccbionaaGreatDoor

end
section
/-
  The walk of header.lay: numbers as bytes, one behind the other.
-/
namespace Go.Proofs.YtihakjcccbionaaGreatDoor
open Go.RowKit
set_option maxRecDepth 100000
set_option linter.unusedVariables false
set_option linter.unusedSimpArgs false

/-- numbers (how many bytes, which number) as what is read, as pieces, as bytes. -/
def fldV (fl : List (Nat × Nat)) : List VItem := fl.map fun f => ⟨f.2, .slice none 0 0, []⟩
def fldO (fl : List (Nat × Nat)) : List (Int × Int) := fl.map fun f => (0, (f.1 : Int))
def fldF (fl : List (Nat × Nat)) : List (Int × Int) := fl.map fun f => ((f.1 : Int), (f.2 : Int))
def fldB (fl : List (Nat × Nat)) : List UInt8 := fl.flatMap fun f => numBytes f.2 f.1 f.1
def fldOk (fl : List (Nat × Nat)) : Prop := ∀ f ∈ fl, 1 ≤ f.1 ∧ f.1 ≤ 8 ∧ f.2 < 256 ^ f.1 ∧ f.2 < 9223372036854775808
theorem layS_fld : ∀ (fl : List (Nat × Nat)) (b : List UInt8), fldOk fl → b.length + 8 * fl.length ≤ 65535 → layS (((fldV fl).map fun it => (it.N, it.b)).zip (fldO fl)) b = (b ++ fldB fl, 0)
  | [], b, _, _ => by simp [fldV, fldO, fldB, layS]
  | f :: t, b, h, hl => by
    obtain ⟨h1, h8, hN, _⟩ := h f (List.mem_cons_self ..)
    have hrest := layS_fld t (b ++ numBytes f.2 f.1 f.1) (fun g hg => h g (List.mem_cons_of_mem _ hg)) (by rw [List.length_append, length_numBytes]; simp at hl; omega)
    simp only [fldV, fldO, List.map_cons, List.zip_cons_cons, layS]
    have hf : fitsS f.2 ([] : List UInt8).length 0 (f.1 : Int) = true := by unfold fitsS; rw [if_pos rfl]; simp [hN]; omega
    have hlen : (b.length : Int) + (if (0 : Int) = 4 then ((([] : List UInt8).length : Nat) : Int) else (f.1 : Int)) ≤ 65535 := by rw [if_neg (by decide)]; simp at hl; omega
    rw [if_pos hf, if_pos hlen]
    have hp : putS f.2 [] 0 (f.1 : Int) = numBytes f.2 f.1 f.1 := by unfold putS; rw [if_pos rfl]; rfl
    rw [hp]
    simp only [fldV, fldO] at hrest
    rw [hrest]
    simp [fldB]
theorem layR_fld (fl : List (Nat × Nat)) (h : fldOk fl) (hl : fl.length ≤ 4096) : layR ((fldV fl).map fun it => (it.N, it.b)) (fldO fl) = (fldB fl, 0) := by
  unfold layR
  rw [if_neg (by simp [fldO]; omega), if_neg (by simp [fldO, fldV]), layS_fld fl [] h (by simp; omega), List.nil_append]
theorem fld_take {fl : List (Nat × Nat)} {j : Nat} (h : j < fl.length) : fl.take (j + 1) = fl.take j ++ [fl[j]] := List.take_succ_eq_append_getElem h
theorem fldV_snoc (fl : List (Nat × Nat)) (f : Nat × Nat) : fldV (fl ++ [f]) = fldV fl ++ [⟨f.2, .slice none 0 0, []⟩] := by simp [fldV]
theorem fldO_snoc (fl : List (Nat × Nat)) (f : Nat × Nat) : fldO (fl ++ [f]) = fldO fl ++ [(0, (f.1 : Int))] := by simp [fldO]

theorem flds_at {w : World} {B : Nat} {A : Option Addr} {fl : List (Nat × Nat)} (h : Ops w B A (fldF fl)) {j : Nat} (hj : j < fl.length) : ∃ b off, A = some ⟨b, off, none⟩ ∧ b < B ∧ w.cell? ⟨b, off + j * 2, none⟩ = some (.int .i64 (fl[j].1 : Int)) ∧ w.cell? ⟨b, off + j * 2 + 1, none⟩ = some (.int .i64 (fl[j].2 : Int)) := by
  obtain ⟨b, off, e, hb, hc⟩ := h (by simp [fldF]; omega)
  have h := hc j (by simpa [fldF] using hj)
  refine ⟨b, off, e, hb, ?_, ?_⟩
  · simpa [fldF] using h.1
  · simpa [fldF] using h.2

set_option maxHeartbeats 4000000 in
theorem layH_any (w : World) (A : Option Addr) (c : Nat) (fl : List (Nat × Nat)) (ho : Ops w w.heap.size A (fldF fl)) (hok : fldOk fl) (hl : fl.length ≤ 16) :
    Calls Tryz.prog 73 #[.slice A fl.length c] w fun e w' => ∃ A' c', e = .returned (.slice A' (fldB fl).length c') ∧ OwnB w' w.heap.size (.slice A' (fldB fl).length c') (fldB fl) ∧ Below w.heap.size w w' := by
  have HO := hide hok
  have HL := hide hl
  have HA := hide ho
  clear ho hok hl
  go_enter Tryz.func73, Tryz.ntmps73
  go_wp2
  go_loopw [3, 4, 11] (fun v o i wr => ∃ (j : Nat), j ≤ fl.length ∧ i = .int .i64 (j : Int) ∧ Hid (wr.ownsRow w.heap.size 120 2 v (fldV (fl.take j)).length (itemCells (fldV (fl.take j)))) ∧ Hid (OwnO wr w.heap.size o (fldO (fl.take j))) ∧ Hid (Below w.heap.size w wr))
    (fun _ _ i _ => fl.length - (intOf i).toNat)
  case atStart => exact ⟨0, by omega, rfl, hide (World.ownsRow_nil _ _ _ _), hide (World.ownsRow_nil _ _ _ _), hide (Below.refl _ _)⟩
  case round =>
    obtain ⟨j, hj, rfl, hv, ho, hb⟩ := hrel
    by_cases hlt : j < fl.length
    · have hjb : j < 16 := by have := HL.out; omega
      obtain ⟨bb, off, rfl, hbb, hc0, hc1⟩ := flds_at HA.out hlt
      obtain ⟨h1, h8, hN, h63⟩ := HO.out fl[j] (List.getElem_mem hlt)
      obtain ⟨sz, hsz⟩ : ∃ s, s = fl[j].1 := ⟨_, rfl⟩
      obtain ⟨N, hNN⟩ : ∃ s, s = fl[j].2 := ⟨_, rfl⟩
      rw [← hsz] at hc0 h1 h8 hN
      rw [← hNN] at hc1 h63 hN
      have hk0 := (hb.out.cell (p := ⟨bb, off + j * 2, none⟩) hbb).trans hc0
      have hk1 := (hb.out.cell (p := ⟨bb, off + j * 2 + 1, none⟩) hbb).trans hc1
      have HS := hide hsz
      have HN := hide hNN
      have HBB := hide hbb
      clear hc0 hc1 hsz hNN hbb
      obtain ⟨i0, hi0, hz0, hz1, hz2⟩ := info_parts info_val
      obtain ⟨j0, hj0, hy0, hy1, hy2⟩ := info_parts info_op
      obtain ⟨W, hW⟩ : ∃ W, W = wr.alloc (.cells #[.int .i64 (sz : Int), .int .i64 (N : Int)] 133) := ⟨_, rfl⟩
      have hWb : W.heap[wr.heap.size]? = some (.cells #[.int .i64 (sz : Int), .int .i64 (N : Int)] 133 (0, 0)) := by rw [hW]; exact heap_alloc_new wr _
      have hlit : (W.alloc (.cells #[.int .u64 (N : Int), .slice none 0 0] 120)).heap[W.heap.size]? = some (.cells #[.int .u64 (N : Int), .slice none 0 0] 120 (0, 0)) := heap_alloc_new W _
      have hWs : W.heap.size = wr.heap.size + 1 := by rw [hW]; simp
      have hvW : W.ownsRow w.heap.size 120 2 u3 (fldV (fl.take j)).length (itemCells (fldV (fl.take j))) := by rw [hW]; exact hv.out.alloc _
      have hoW : OwnO W w.heap.size u4 (fldO (fl.take j)) := by rw [hW]; exact World.ownsRow.alloc ho.out _
      have hbW : Below w.heap.size w W := by rw [hW]; exact hb.out.alloc hb.out.size _
      have HWB := hide hWb
      have HLIT := hide hlit
      have HWS := hide hWs
      have HVW := hide hvW
      have HOW := hide hoW
      have HBW := hide hbW
      have HWE := hide hW
      have HBS : Hid (w.heap.size ≤ W.heap.size) := hide hbW.size
      have hlv : Hid ((fldV (fl.take j)).length ≤ 16) := hide (by have := HL.out; simp [fldV]; omega)
      have hlo : Hid ((fldO (fl.take j)).length ≤ 16) := hide (by have := HL.out; simp [fldO]; omega)
      clear hWb hlit hWs hvW hoW hbW hW hv ho hb
      have c0 : (wr.alloc (.cells #[.int .i64 (sz : Int), .int .i64 (N : Int)] 133)).cell? ⟨wr.heap.size, 0, none⟩ = some (.int .i64 (sz : Int)) := (two_cells wr _ _ _).1
      have c1 : (wr.alloc (.cells #[.int .i64 (sz : Int), .int .i64 (N : Int)] 133)).cell? ⟨wr.heap.size, 1, none⟩ = some (.int .i64 (N : Int)) := (two_cells wr _ _ _).2
      go_wp2_with (at_builtin; (rw [← HWE.out]); refine wpList_app_two rfl (.tmp 15) (.tmp 20) w.heap.size 76 120 i0 _ 32 rfl Tryz.underlying76 hi0 hz0 hz1 hz2 rfl u3 (fldV (fl.take j)).length (itemCells (fldV (fl.take j))) (some ⟨W.heap.size, 0, none⟩) 1 1 [.int .u64 (N : Int), .slice none 0 0] rfl (by rw [HWS.out]; rfl) (by exact HVW.out.alloc _) rfl (fun _ => ⟨W.heap.size, 0, rfl, fun n u hu => by rw [cell_of_row _ _ (0 + n) _ _ (0, 0) HLIT.out, Nat.zero_add]; simpa using hu⟩) (fun e => by cases e) (fun u hu => by simp at hu; rcases hu with rfl | rfl <;> rfl) (by have := hlv.out; unfold maxLen; omega) (by have := hlv.out; omega) (by have := HBS.out; simp; omega) ?_)
      intro v4 w4 hown4 hgr4 hat4
      have hg4 : W.grownBy w4 u3.ownBlock := grown_trans (World.grownBy_alloc W _ _) hgr4
      have hnv : ∀ i, u3.ownBlock = some i → w.heap.size ≤ i := fun i hi => (World.ownsRow.lt HVW.out i hi).1
      have hV4 : w4.ownsRow w.heap.size 120 2 v4 (fldV (fl.take (j + 1))).length (itemCells (fldV (fl.take (j + 1)))) := by
        rw [fld_take hlt, fldV_snoc, itemCells_snoc, List.length_append]
        rw [← HN.out]; exact hown4
      have hO4 : OwnO w4 w.heap.size u4 (fldO (fl.take j)) := World.ownsRow.kept HOW.out hg4 (own_own_ne HOW.out HVW.out (by decide))
      have hB4 : Below w.heap.size w w4 := HBW.out.grown hg4 HBS.out hnv
      have hne1 : u3.ownBlock = none ∨ u3.ownBlock ≠ some wr.heap.size := own_ne HVW.out HWB.out (by decide)
      have hb4 : w4.heap[wr.heap.size]? = some (.cells #[.int .i64 (sz : Int), .int .i64 (N : Int)] 133 (0, 0)) := (hg4.block _ (by have := HWS.out; omega) (fun e => by rcases hne1 with h | h <;> rw [← e] at h <;> simp at h)).trans HWB.out
      have hs4 : w.heap.size ≤ w4.heap.size := Nat.le_trans HBS.out hg4.size
      have hlit4 : (w4.alloc (.cells #[.int .i64 0, .int .i64 (sz : Int)] 121)).heap[w4.heap.size]? = some (.cells #[.int .i64 0, .int .i64 (sz : Int)] 121 (0, 0)) := heap_alloc_new w4 _
      have k0 := cell_of_row w4 _ 0 _ _ (0, 0) hb4
      have HV4 := hide hV4
      have HO4 := hide hO4
      have HB4 := hide hB4
      have HS4 := hide hs4
      have HL4 := hide hlit4
      clear hown4 hgr4 hat4 hg4 hnv hV4 hO4 hB4 hne1 hb4 hs4 hlit4 c0 c1
      go_wp2_with (at_builtin; refine wpList_app_two rfl (.tmp 22) (.tmp 26) w.heap.size 77 121 j0 _ 16 rfl Tryz.underlying77 hj0 hy0 hy1 hy2 rfl u4 (fldO (fl.take j)).length (opCells (fldO (fl.take j))) (some ⟨w4.heap.size, 0, none⟩) 1 1 [.int .i64 0, .int .i64 (sz : Int)] rfl rfl (by exact World.ownsRow.alloc HO4.out _) rfl (fun _ => ⟨w4.heap.size, 0, rfl, fun n u hu => by rw [cell_of_row _ _ (0 + n) _ _ (0, 0) HL4.out, Nat.zero_add]; simpa using hu⟩) (fun e => by cases e) (fun u hu => by simp at hu; rcases hu with rfl | rfl <;> rfl) (by have := hlo.out; unfold maxLen; omega) (by have := hlo.out; omega) (by have := HS4.out; simp; omega) ?_)
      intro v6 w6 hown6 hgr6 hat6
      have hg6 : w4.grownBy w6 u4.ownBlock := grown_trans (World.grownBy_alloc w4 _ _) hgr6
      have hno : ∀ i, u4.ownBlock = some i → w.heap.size ≤ i := fun i hi => (World.ownsRow.lt HO4.out i hi).1
      have hO6 : OwnO w6 w.heap.size v6 (fldO (fl.take (j + 1))) := by
        rw [fld_take hlt, fldO_snoc]
        unfold OwnO
        rw [opCells_snoc, List.length_append, ← HS.out]; exact hown6
      have H1 := hide (World.ownsRow.kept HV4.out hg6 (own_own_ne HV4.out HO4.out (by decide)))
      have H2 := hide hO6
      have H3 := hide (HB4.out.grown hg6 HS4.out hno)
      clear hown6 hgr6 hat6 hg6 hno hO6 k0 hk0 hk1
      go_wp2
      go_roundw
      case rel => exact ⟨j + 1, by omega, by go_num, H1, H2, H3⟩
      case measure => simp [intOf]; omega
    · have hjl : j = fl.length := by omega
      subst hjl
      rw [List.take_length] at hv ho
      obtain ⟨Av, cv, rfl, hrv⟩ := row_reads hv.out
      obtain ⟨Ao, co, rfl, hro, -⟩ := ho.out.shape
      have hc : RdC wr wr.heap.size (fldV fl) := fun it hit => by
        unfold fldV at hit
        obtain ⟨f, hf, rfl⟩ := List.mem_map.1 hit
        exact ⟨none, 0, rfl, fun h => by simp at h, fun _ => rfl⟩
      have C := lay_any wr Av Ao cv co (fldV fl) (fldO fl) hrv hc hro (fldB fl, 0) (layR_fld fl HO.out (by have := HL.out; omega)).symm
      have HC := hide C
      have hB := hide hb.out
      clear hrv hc hro hv ho C hb
      go_wp2_with (go_at_call 30; (with_reducible refine (HC.out).mono ?_); rintro _ _ ⟨A7, c7, rfl, hown7, hb7⟩)
      go_ret
      exact ⟨A7, c7, rfl, hown7.base hB.out.size, hB.out.trans (hb7.mono hB.out.size)⟩
end Go.Proofs.YtihakjcccbionaaGreatDoor

end
section
/-
  The walks of header.headSum; copies into a row of bytes.
-/
namespace Go.Proofs.YtihakjcccbionaaGreatDoor
open Go.RowKit
set_option maxRecDepth 100000
set_option linter.unusedVariables false
set_option linter.unusedSimpArgs false

theorem splice_map {α β : Type} (f : α → β) (L : List α) (off : Nat) (cs : List α) : (splice L off cs).map f = splice (L.map f) off (cs.map f) := by simp [splice, List.map_take, List.map_drop]
theorem Byt.srcs {w : World} {K : Nat} {sp : Option Addr} {l : List UInt8} (h : Byt w K sp l) (hp : 0 < l.length) : ∃ ad, sp = some ad ∧ ∀ j v, (l.map byteV)[j]? = some v → w.cell? (ad.add j) = some v := by
  obtain ⟨b, off, e, _, hc⟩ := h hp
  refine ⟨_, e, fun j v hv => ?_⟩
  obtain ⟨hj, hv⟩ := List.getElem?_eq_some_iff.1 hv
  rw [add_none, hc j (by simpa using hj), ← hv]
  simp [byteV]
theorem setRow_grown (w : World) (g : Nat) (cs : Array Value) : w.grownBy (w.setRow g cs) (some g) :=
  ⟨rfl, rfl, rfl, by simp [World.setRow], fun k hk hne => setRow_other w g k cs (fun e => hne (by rw [e]))⟩

/-- a copy of bytes into a row of bytes, where all of them find room. -/
theorem run_copy_bytes (w : World) (ty g off : Nat) (dp : Option Addr) (dLen dCap : Nat) (sp : Option Addr) (sCap : Nat) (B l : List UInt8) (K : Nat) (t : TypeId) (hdp : 0 < l.length → dp = some ⟨g, off, none⟩) (hg : w.heap[g]? = some (.cells (B.map byteV).toArray t (0, 0))) (hb : Byt w K sp l) (hd : l.length ≤ dLen) (hfit : off + l.length ≤ B.length) :
    ∃ w', (Builtin.copy_ #[28, 28] ty #[.slice dp dLen dCap, .slice sp l.length sCap]).run Tryz.prog w = .ok (goInt l.length) w' ∧ w'.heap[g]? = some (.cells ((splice B off l).map byteV).toArray t (0, 0)) ∧ w.grownBy w' (some g) := by
  have hn : Nat.min l.length dLen = l.length := Nat.min_eq_left hd
  by_cases h0 : l.length = 0
  · obtain rfl : l = [] := List.eq_nil_of_length_eq_zero h0
    refine ⟨w, run_copy_none (P := Tryz.prog) w 28 28 ty 5 dp sp dLen dCap 0 sCap Tryz.underlying28 (by kernel_rfl) (Nat.zero_min ..), ?_, World.grownBy.refl w _⟩
    rw [hg]; simp [splice]
  · obtain rfl := hdp (by omega)
    obtain ⟨ad, rfl, hs⟩ := hb.srcs (by omega)
    refine ⟨_, ?_, setRow_heap w g _ _ t _ hg, setRow_grown w g _⟩
    have h := run_copy_row (P := Tryz.prog) w 28 28 ty 5 g off dLen dCap ad l.length sCap (B.map byteV).toArray t (l.map byteV) Tryz.underlying28 (by kernel_rfl) hg (by rw [List.length_map, hn]) hs (by simpa using hfit) (byteV_one _)
    rw [List.length_map] at h
    rw [h, splice_map]
    simp [splice]
theorem wpList_copy_bytes {w : World} {ops : Array Oper} {rest : List Oper} {o : Oper} {a : Act} {Q : Exit → Act → World → Prop} (hgd : o.guard = none) (d s : Operand) (ho : o.op = .call { callee := .builtin .copy, args := #[d, s], argTypes := #[28, 28] })
    (g off dLen dCap : Nat) (sp : Option Addr) (sLen sCap : Nat) (B l : List UInt8) (K : Nat) (t : TypeId) (hd : a.eval d = .slice (some ⟨g, off, none⟩) dLen dCap) (hs : a.eval s = .slice sp sLen sCap) (hll : l.length = sLen)
    (hg : w.heap[g]? = some (.cells (B.map byteV).toArray t (0, 0))) (hb : Byt w K sp l) (hdl : sLen ≤ dLen) (hfit : off + sLen ≤ B.length)
    (h : ∀ w', w'.heap[g]? = some (.cells ((splice B off l).map byteV).toArray t (0, 0)) → w.grownBy w' (some g) → wpList Tryz.prog ops Q rest (a.put o.dst (goInt sLen)) w') : wpList Tryz.prog ops Q (o :: rest) a w := by
  subst hll
  obtain ⟨w', hr, h1, h2⟩ := run_copy_bytes w o.type g off _ dLen dCap sp sCap B l K t (fun _ => rfl) hg hb hdl hfit
  refine wpList_plain hgd fun K hK => ?_
  unfold Oper.wp
  simp [execOp, ho, resolve, invoke, builtin, hd, hs, hr, Result.andThen]
  exact hK _ _ (h w' h1 h2)
theorem step_copy_bytes {ops : Array Oper} {o : Oper} {a : Act} {w : World} {K' : Act → World → Prop} {Q : Exit → Act → World → Prop} {E : Prop} (hgd : o.guard = none) (d s : Operand) (ho : o.op = .call { callee := .builtin .copy, args := #[d, s], argTypes := #[28, 28] })
    (g off : Nat) (dp : Option Addr) (dLen dCap : Nat) (sp : Option Addr) (sLen sCap : Nat) (B l : List UInt8) (K : Nat) (t : TypeId) (hd : a.eval d = .slice dp dLen dCap) (hdp : 0 < sLen → dp = some ⟨g, off, none⟩) (hs : a.eval s = .slice sp sLen sCap) (hll : l.length = sLen)
    (hg : w.heap[g]? = some (.cells (B.map byteV).toArray t (0, 0))) (hb : Byt w K sp l) (hdl : sLen ≤ dLen) (hfit : off + sLen ≤ B.length)
    (h : ∀ w', w'.heap[g]? = some (.cells ((splice B off l).map byteV).toArray t (0, 0)) → w.grownBy w' (some g) → K' (a.put o.dst (goInt sLen)) w') : if Region.wanted o (yielded ops a.tmps) = true then Oper.wp Tryz.prog o a w K' Q else E := by
  have hw : Region.wanted o (yielded ops a.tmps) = true := by simp [Region.wanted, hgd]
  rw [if_pos hw]
  subst hll
  obtain ⟨w', hr, h1, h2⟩ := run_copy_bytes w o.type g off dp dLen dCap sp sCap B l K t hdp hg hb hdl hfit
  unfold Oper.wp
  simp [execOp, ho, resolve, invoke, builtin, hd, hs, hr, Result.andThen]
  exact h w' h1 h2

/-- the sum that a head has to have. -/
def headS (l : List UInt8) : Nat := 65535 - addS (addS 0 (l.take 10)) (l.drop 12)
theorem headS_le (l : List UInt8) : headS l ≤ 65535 := by unfold headS; omega

set_option maxHeartbeats 1000000 in
theorem headsum_any (w : World) (g o B c : Nat) (l : List UInt8) (h12 : 12 < l.length) (hl : l.length ≤ c) (hc : l.length ≤ 140737488355328) (hb : Byt w B (some ⟨g, o, none⟩) l) :
    Calls Tryz.prog 74 #[.slice (some ⟨g, o, none⟩) l.length c] w fun e w' => e = .returned (.int .u16 (headS l : Nat)) ∧ ∃ n, w' = w.drewN n := by
  obtain ⟨s, hs⟩ : ∃ s, s = addS 0 (l.take 10) := ⟨_, rfl⟩
  have hs1 : s ≤ 65535 := by rw [hs]; exact addS_le 0 _ (Nat.zero_le _)
  obtain ⟨t, ht⟩ : ∃ t, t = addS s (l.drop 12) := ⟨_, rfl⟩
  have ht1 : t ≤ 65535 := by rw [ht]; exact addS_le s _ hs1
  have hR : headS l = 65535 - t := by unfold headS; rw [← hs, ← ht]
  have b1 : Byt w B (some ⟨g, o, none⟩) (l.take 10) := fun hp => by
    obtain ⟨b, off, e, hB, hc⟩ := hb (by omega)
    exact ⟨b, off, e, hB, fun i hi => by rw [hc i (by simp at hi; omega)]; simp⟩
  have b2 := hb.cut 12
  have l1 : (l.take 10).length = 10 := by simp; omega
  have l2 : (l.drop 12).length = l.length - 12 := by simp
  have C1 : ∀ c', 10 ≤ c' → Calls Tryz.prog 69 #[.int .u16 0, .slice (some ⟨g, o, none⟩) (l.take 10).length c'] w fun e w' => e = .returned (.int .u16 (addS 0 (l.take 10) : Nat)) ∧ ∃ n, w' = w.drewN n := fun c' hc' => add_any 0 (some ⟨g, o, none⟩) c' (l.take 10) B w (by omega) (by omega) (by omega) b1
  have C2 := fun n => add_any s (some ⟨g, o + 12, none⟩) (c - 12) (l.drop 12) B (w.drewN n) hs1 (by omega) (by omega) (b2.drewN n)
  rw [l1] at C1
  rw [l2] at C2
  rw [← hs] at C1
  rw [← ht] at C2
  have D1 := hide C1
  have D2 := hide C2
  have HR := hide hR
  obtain ⟨n, hn⟩ : ∃ n, n = l.length := ⟨_, rfl⟩
  rw [← hn] at h12 hl hc D2 ⊢
  clear C1 C2 b1 b2 hb hs ht hR l1 l2 hn
  go_enter Tryz.func74, Tryz.ntmps74
  go_wp2_with (first | (go_at_call 69; (first | ((with_reducible refine (D1.out _ (by omega)).mono ?_); rintro _ _ ⟨rfl, n1, rfl⟩) | ((with_reducible refine (D2.out _).mono ?_); rintro _ _ ⟨rfl, n2, rfl⟩) | fail)) | fail)
  go_ret
  refine ⟨?_, n1 + n2, rfl⟩
  rw [HR.out]
  exact (show Ending.returned (Value.int .u16 (65535 - (t : Int))) = _ from by rw [show (65535 - (t : Int)) = ((65535 - t : Nat) : Int) by omega])
end Go.Proofs.YtihakjcccbionaaGreatDoor

end
