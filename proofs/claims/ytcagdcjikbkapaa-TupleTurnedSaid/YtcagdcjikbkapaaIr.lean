import Derived.Test.YtcagdcjikbkapaaIp
namespace Go.Proofs.Ytcagdcjikbkapaa
open Go.RowKit
attribute [local go_sem ↓] exec_span exec_put exec_build heap_alloc_new heap_old
attribute [local go_sem] spanQ_ptr spanC_some heap_of_drew heap_of_drewN rs_arr rs_ad rs_ip rs_rip putAt_ptr putOk_ptr oldOk_some built_none World.setRow_alloc_new
set_option maxRecDepth 100000
set_option linter.unusedVariables false
set_option linter.unusedSimpArgs false

theorem ret_b {a b : Bool} (h : a = b) : Ending.returned (.bool a) = .returned (.bool b) := by rw [h]
/-- is n from 0 to most? -/
def upS (most n : Int) : Bool := decide (0 ≤ n) && decide (n ≤ most)
set_option maxHeartbeats 400000 in
theorem upto_any (w : World) (m n : Int) : Calls Try.prog 104 #[.int .i64 m, .int .i64 n] w fun e w' => e = .returned (.bool (upS m n)) ∧ w = w' := by
  by_cases h0 : 0 ≤ n
  · have hp := hide (show upS m n = decide (n ≤ m) by unfold upS; rw [decide_eq_true h0]; rfl)
    go_enter Try.func104, Try.ntmps104
    go_wp2
    go_ret
    exact ⟨by rw [hp.out]; rfl, rfl⟩
  · have hp := hide (show upS m n = false by unfold upS; rw [decide_eq_false h0]; rfl)
    go_enter Try.func104, Try.ntmps104
    go_wp2
    go_ret
    exact ⟨by rw [hp.out]; rfl, rfl⟩
set_option maxHeartbeats 400000 in
theorem within_num (w : World) (m n : Int) : Calls Try.prog 106 #[.int .i64 n, .int .i64 m] w fun e w' => e = .returned (.bool (upS m n)) ∧ w = w' := by
  by_cases h0 : 0 ≤ n
  · have hp := hide (show upS m n = decide (n ≤ m) by unfold upS; rw [decide_eq_true h0]; rfl)
    go_enter Try.func106, Try.ntmps106
    go_wp2
    go_ret
    exact ⟨by rw [hp.out]; rfl, rfl⟩
  · have hp := hide (show upS m n = false by unfold upS; rw [decide_eq_false h0]; rfl)
    go_enter Try.func106, Try.ntmps106
    go_wp2
    go_ret
    exact ⟨by rw [hp.out]; rfl, rfl⟩

set_option maxHeartbeats 1000000 in
theorem rightaddr_any (w : World) (X : Array Value) (v b : Bool) (l : List UInt8) (h : AdV X v l) :
    Calls Try.prog 103 #[.agg X, .bool b] w fun e w' => e = .returned (.bool (rightL v l && v == b)) ∧ Below w.heap.size w w' := by
  have hxs := h.size
  have hx0 := h.x0
  obtain ⟨W, hW, h1, hz, hb⟩ := one_block w (.cells X 24)
  have K := hide (right_any W X v l h)
  obtain ⟨R, hR⟩ : ∃ R, R = rightL v l := ⟨_, rfl⟩
  rw [← hR] at K ⊢
  have hk := h.kind h1
  have HK := hide (fun w' (hb : Below W.heap.size W w') => (h.kind (row_kept hb (by omega) h1) : w'.cell? ⟨w.heap.size, 0, none⟩ = some (.bool v)))
  have hB := hide hb
  have hZ := hide hz
  clear hR hz hb h
  cases R
  · go_enter Try.func103, Try.ntmps103
    go_wp2_with (first | (go_at_call 72; (with_reducible refine K.out.mono ?_); rintro e w1 ⟨rfl, hb1⟩; have B1 := hide hb1; clear hb1) | fail)
    go_ret
    exact ⟨rfl, hB.out.trans (B1.out.mono (by have := hZ.out; omega))⟩
  · go_enter Try.func103, Try.ntmps103
    go_wp2_with (first | (go_at_call 72; (with_reducible refine K.out.mono ?_); rintro e w1 ⟨rfl, hb1⟩; have B1 := hide hb1; have kk := HK.out w1 hb1; clear hb1) | fail)
    go_ret
    exact ⟨rfl, hB.out.trans (B1.out.mono (by have := hZ.out; omega))⟩

/-- can it be? -/
def rightH (h : Ip) : Bool :=
  (rightL h.sv h.sb && h.sv == h.v) && (rightL h.dv h.db && h.dv == h.v) && upS 255 h.p && upS 255 h.ttl && upS 255 h.tos &&
  (if h.v then h.id == 0 && !h.df && h.no == 0 && upS 1048575 h.lab else upS 65535 h.id && h.lab == 0 && decide (h.no ≤ 40) && h.no % 4 == 0)

set_option maxHeartbeats 16000000 in
theorem rightH_any (w : World) (X : Array Value) (h : Ip) (x : IpV X h) (hn : h.no ≤ 140737488355328) :
    Calls Try.prog 75 #[.agg X] w fun e w' => e = .returned (.bool (rightH h)) ∧ Below w.heap.size w w' := by
  have hxs := x.size
  have hxr := x.x0
  obtain ⟨S, hS⟩ : ∃ S, S = (adL h.sv h.sb).toArray := ⟨_, rfl⟩
  obtain ⟨D, hD⟩ : ∃ D, D = (adL h.dv h.db).toArray := ⟨_, rfl⟩
  have hsrc := x.src
  have hdst := x.dst
  rw [← hS] at hsrc
  rw [← hD] at hdst
  have aS : AdV S h.sv h.sb := by rw [hS]; exact AdV.mk' x.ls
  have aD : AdV D h.dv h.db := by rw [hD]; exact AdV.mk' x.ld
  have K1 := hide (fun W => rightaddr_any W S h.sv h.v h.sb aS)
  have K2 := hide (fun W => rightaddr_any W D h.dv h.v h.db aD)
  have U1 := hide (fun W => upto_any W 255 h.p)
  have U2 := hide (fun W => upto_any W 255 h.ttl)
  have U3 := hide (fun W => upto_any W 255 h.tos)
  have U4 := hide (fun W => upto_any W 1048575 h.lab)
  have U5 := hide (fun W => upto_any W 65535 h.id)
  obtain ⟨W, hW, h1, hz, hb⟩ := one_block w (.cells X 36)
  have HC := hide (fun w' (hb : Below W.heap.size W w') => (⟨row_kept hb (by omega) h1, x.cells (row_kept hb (by omega) h1)⟩ : w'.heap[w.heap.size]? = some (.cells X 36 (0, 0)) ∧ IpC w' w.heap.size h))
  obtain ⟨r1, hr1⟩ : ∃ r, r = (rightL h.sv h.sb && h.sv == h.v) := ⟨_, rfl⟩
  obtain ⟨r2, hr2⟩ : ∃ r, r = (rightL h.dv h.db && h.dv == h.v) := ⟨_, rfl⟩
  obtain ⟨u1, hu1⟩ : ∃ r, r = upS 255 h.p := ⟨_, rfl⟩
  obtain ⟨u2, hu2⟩ : ∃ r, r = upS 255 h.ttl := ⟨_, rfl⟩
  obtain ⟨u3, hu3⟩ : ∃ r, r = upS 255 h.tos := ⟨_, rfl⟩
  obtain ⟨u4, hu4⟩ : ∃ r, r = upS 1048575 h.lab := ⟨_, rfl⟩
  obtain ⟨u5, hu5⟩ : ∃ r, r = upS 65535 h.id := ⟨_, rfl⟩
  have HR : Hid (rightH h = (r1 && r2 && u1 && u2 && u3 && (if h.v then h.id == 0 && !h.df && h.no == 0 && u4 else u5 && h.lab == 0 && decide (h.no ≤ 40) && h.no % 4 == 0))) := by
    rw [hr1, hr2, hu1, hu2, hu3, hu4, hu5]; exact hide rfl
  rw [← hr1] at K1
  rw [← hr2] at K2
  rw [← hu1] at U1
  rw [← hu2] at U2
  rw [← hu3] at U3
  rw [← hu4] at U4
  rw [← hu5] at U5
  obtain ⟨c0, c1, c2, c3, c4, c5, c6, c7, c8, c9, c10⟩ := x.cells h1
  have hB := hide hb
  have hz := hide hz
  obtain ⟨v, hv⟩ : ∃ v, v = h.v := ⟨_, rfl⟩
  obtain ⟨df, hdf⟩ : ∃ v, v = h.df := ⟨_, rfl⟩
  obtain ⟨idn, hid⟩ : ∃ v, v = h.id := ⟨_, rfl⟩
  obtain ⟨lab, hlab⟩ : ∃ v, v = h.lab := ⟨_, rfl⟩
  obtain ⟨no, hno⟩ : ∃ v, v = h.no := ⟨_, rfl⟩
  have HC : Hid (∀ w', Below W.heap.size W w' → w'.heap[w.heap.size]? = some (.cells X 36 (0, 0)) ∧ w'.cell? ⟨w.heap.size, 0, none⟩ = some (.bool v) ∧ w'.cell? ⟨w.heap.size, 1, none⟩ = some (.bool h.sv) ∧ w'.cell? ⟨w.heap.size, 18, none⟩ = some (.bool h.dv) ∧ w'.cell? ⟨w.heap.size, 35, none⟩ = some (.int .i64 h.p) ∧ w'.cell? ⟨w.heap.size, 36, none⟩ = some (.int .i64 h.ttl) ∧ w'.cell? ⟨w.heap.size, 37, none⟩ = some (.int .i64 h.tos) ∧ w'.cell? ⟨w.heap.size, 38, none⟩ = some (.int .i64 idn) ∧ w'.cell? ⟨w.heap.size, 39, none⟩ = some (.bool df) ∧ w'.cell? ⟨w.heap.size, 40, none⟩ = some (.int .i64 lab) ∧ w'.cell? ⟨w.heap.size, 41, none⟩ = some (.slice h.ao no h.co) ∧ w'.cell? ⟨w.heap.size, 42, none⟩ = some (.slice h.ad h.nd h.cd)) := by
    rw [hv, hdf, hid, hlab, hno]
    exact hide fun w' hb => by
      obtain ⟨g, q⟩ := HC.out w' hb
      exact ⟨g, q.c0, q.c1, q.c18, q.c35, q.c36, q.c37, q.c38, q.c39, q.c40, q.c41, q.c42⟩
  rw [← hv] at c0 HR K1 K2
  rw [← hdf] at c7 HR
  rw [← hid] at c6 HR U5
  rw [← hlab] at c8 HR U4
  rw [← hno] at c9 HR hn
  clear hr1 hr2 hu1 hu2 hu3 hu4 hu5 hv hdf hid hlab hno hb aS aD hS hD x
  subst hW
  cases r1
  · go_enter Try.func75, Try.ntmps75
    go_wp2_with (first | (go_at_call 103; (with_reducible refine (K1.out _).mono ?_); rintro e w1 ⟨rfl, hb1⟩; have B1 := hide hb1; obtain ⟨g1, q⟩ := HC.out w1 hb1; obtain ⟨k0, k1, k2, k3, k4, k5, k6, k7, k8, k9, k10⟩ := q) | (go_at_call 103; (with_reducible refine (K2.out _).mono ?_); rintro e w2 ⟨rfl, hb2⟩; have B2 := hide (B1.out.trans (hb2.mono B1.out.size)); obtain ⟨g2, q⟩ := HC.out w2 B2.out; obtain ⟨m0, m1, m2, m3, m4, m5, m6, m7, m8, m9, m10⟩ := q; clear k0 k1 k2 k3 k4 k5 k6 k7 k8 k9 k10 g1) | (go_at_call 104; (with_reducible refine (U1.out _).mono ?_); rintro e wx ⟨rfl, rfl⟩) | (go_at_call 104; (with_reducible refine (U2.out _).mono ?_); rintro e wx ⟨rfl, rfl⟩) | (go_at_call 104; (with_reducible refine (U3.out _).mono ?_); rintro e wx ⟨rfl, rfl⟩) | (go_at_call 104; (with_reducible refine (U4.out _).mono ?_); rintro e wx ⟨rfl, rfl⟩) | (go_at_call 104; (with_reducible refine (U5.out _).mono ?_); rintro e wx ⟨rfl, rfl⟩) | fail)
    go_ret
    exact ⟨ret_b (by rw [HR.out]; simp [*]), hB.out.trans (B1.out.mono (by have := hz.out; omega))⟩
  · cases r2
    · go_enter Try.func75, Try.ntmps75
      go_wp2_with (first | (go_at_call 103; (with_reducible refine (K1.out _).mono ?_); rintro e w1 ⟨rfl, hb1⟩; have B1 := hide hb1; obtain ⟨g1, q⟩ := HC.out w1 hb1; obtain ⟨k0, k1, k2, k3, k4, k5, k6, k7, k8, k9, k10⟩ := q) | (go_at_call 103; (with_reducible refine (K2.out _).mono ?_); rintro e w2 ⟨rfl, hb2⟩; have B2 := hide (B1.out.trans (hb2.mono B1.out.size)); obtain ⟨g2, q⟩ := HC.out w2 B2.out; obtain ⟨m0, m1, m2, m3, m4, m5, m6, m7, m8, m9, m10⟩ := q; clear k0 k1 k2 k3 k4 k5 k6 k7 k8 k9 k10 g1) | (go_at_call 104; (with_reducible refine (U1.out _).mono ?_); rintro e wx ⟨rfl, rfl⟩) | (go_at_call 104; (with_reducible refine (U2.out _).mono ?_); rintro e wx ⟨rfl, rfl⟩) | (go_at_call 104; (with_reducible refine (U3.out _).mono ?_); rintro e wx ⟨rfl, rfl⟩) | (go_at_call 104; (with_reducible refine (U4.out _).mono ?_); rintro e wx ⟨rfl, rfl⟩) | (go_at_call 104; (with_reducible refine (U5.out _).mono ?_); rintro e wx ⟨rfl, rfl⟩) | fail)
      go_ret
      exact ⟨ret_b (by rw [HR.out]; simp [*]), hB.out.trans (B2.out.mono (by have := hz.out; omega))⟩
    · cases u1
      · go_enter Try.func75, Try.ntmps75
        go_wp2_with (first | (go_at_call 103; (with_reducible refine (K1.out _).mono ?_); rintro e w1 ⟨rfl, hb1⟩; have B1 := hide hb1; obtain ⟨g1, q⟩ := HC.out w1 hb1; obtain ⟨k0, k1, k2, k3, k4, k5, k6, k7, k8, k9, k10⟩ := q) | (go_at_call 103; (with_reducible refine (K2.out _).mono ?_); rintro e w2 ⟨rfl, hb2⟩; have B2 := hide (B1.out.trans (hb2.mono B1.out.size)); obtain ⟨g2, q⟩ := HC.out w2 B2.out; obtain ⟨m0, m1, m2, m3, m4, m5, m6, m7, m8, m9, m10⟩ := q; clear k0 k1 k2 k3 k4 k5 k6 k7 k8 k9 k10 g1) | (go_at_call 104; (with_reducible refine (U1.out _).mono ?_); rintro e wx ⟨rfl, rfl⟩) | (go_at_call 104; (with_reducible refine (U2.out _).mono ?_); rintro e wx ⟨rfl, rfl⟩) | (go_at_call 104; (with_reducible refine (U3.out _).mono ?_); rintro e wx ⟨rfl, rfl⟩) | (go_at_call 104; (with_reducible refine (U4.out _).mono ?_); rintro e wx ⟨rfl, rfl⟩) | (go_at_call 104; (with_reducible refine (U5.out _).mono ?_); rintro e wx ⟨rfl, rfl⟩) | fail)
        go_ret
        exact ⟨ret_b (by rw [HR.out]; simp [*]), hB.out.trans (B2.out.mono (by have := hz.out; omega))⟩
      · cases u2
        · go_enter Try.func75, Try.ntmps75
          go_wp2_with (first | (go_at_call 103; (with_reducible refine (K1.out _).mono ?_); rintro e w1 ⟨rfl, hb1⟩; have B1 := hide hb1; obtain ⟨g1, q⟩ := HC.out w1 hb1; obtain ⟨k0, k1, k2, k3, k4, k5, k6, k7, k8, k9, k10⟩ := q) | (go_at_call 103; (with_reducible refine (K2.out _).mono ?_); rintro e w2 ⟨rfl, hb2⟩; have B2 := hide (B1.out.trans (hb2.mono B1.out.size)); obtain ⟨g2, q⟩ := HC.out w2 B2.out; obtain ⟨m0, m1, m2, m3, m4, m5, m6, m7, m8, m9, m10⟩ := q; clear k0 k1 k2 k3 k4 k5 k6 k7 k8 k9 k10 g1) | (go_at_call 104; (with_reducible refine (U1.out _).mono ?_); rintro e wx ⟨rfl, rfl⟩) | (go_at_call 104; (with_reducible refine (U2.out _).mono ?_); rintro e wx ⟨rfl, rfl⟩) | (go_at_call 104; (with_reducible refine (U3.out _).mono ?_); rintro e wx ⟨rfl, rfl⟩) | (go_at_call 104; (with_reducible refine (U4.out _).mono ?_); rintro e wx ⟨rfl, rfl⟩) | (go_at_call 104; (with_reducible refine (U5.out _).mono ?_); rintro e wx ⟨rfl, rfl⟩) | fail)
          go_ret
          exact ⟨ret_b (by rw [HR.out]; simp [*]), hB.out.trans (B2.out.mono (by have := hz.out; omega))⟩
        · cases u3
          · go_enter Try.func75, Try.ntmps75
            go_wp2_with (first | (go_at_call 103; (with_reducible refine (K1.out _).mono ?_); rintro e w1 ⟨rfl, hb1⟩; have B1 := hide hb1; obtain ⟨g1, q⟩ := HC.out w1 hb1; obtain ⟨k0, k1, k2, k3, k4, k5, k6, k7, k8, k9, k10⟩ := q) | (go_at_call 103; (with_reducible refine (K2.out _).mono ?_); rintro e w2 ⟨rfl, hb2⟩; have B2 := hide (B1.out.trans (hb2.mono B1.out.size)); obtain ⟨g2, q⟩ := HC.out w2 B2.out; obtain ⟨m0, m1, m2, m3, m4, m5, m6, m7, m8, m9, m10⟩ := q; clear k0 k1 k2 k3 k4 k5 k6 k7 k8 k9 k10 g1) | (go_at_call 104; (with_reducible refine (U1.out _).mono ?_); rintro e wx ⟨rfl, rfl⟩) | (go_at_call 104; (with_reducible refine (U2.out _).mono ?_); rintro e wx ⟨rfl, rfl⟩) | (go_at_call 104; (with_reducible refine (U3.out _).mono ?_); rintro e wx ⟨rfl, rfl⟩) | (go_at_call 104; (with_reducible refine (U4.out _).mono ?_); rintro e wx ⟨rfl, rfl⟩) | (go_at_call 104; (with_reducible refine (U5.out _).mono ?_); rintro e wx ⟨rfl, rfl⟩) | fail)
            go_ret
            exact ⟨ret_b (by rw [HR.out]; simp [*]), hB.out.trans (B2.out.mono (by have := hz.out; omega))⟩
          · cases v
            · cases u5
              · go_enter Try.func75, Try.ntmps75
                go_wp2_with (first | (go_at_call 103; (with_reducible refine (K1.out _).mono ?_); rintro e w1 ⟨rfl, hb1⟩; have B1 := hide hb1; obtain ⟨g1, q⟩ := HC.out w1 hb1; obtain ⟨k0, k1, k2, k3, k4, k5, k6, k7, k8, k9, k10⟩ := q) | (go_at_call 103; (with_reducible refine (K2.out _).mono ?_); rintro e w2 ⟨rfl, hb2⟩; have B2 := hide (B1.out.trans (hb2.mono B1.out.size)); obtain ⟨g2, q⟩ := HC.out w2 B2.out; obtain ⟨m0, m1, m2, m3, m4, m5, m6, m7, m8, m9, m10⟩ := q; clear k0 k1 k2 k3 k4 k5 k6 k7 k8 k9 k10 g1) | (go_at_call 104; (with_reducible refine (U1.out _).mono ?_); rintro e wx ⟨rfl, rfl⟩) | (go_at_call 104; (with_reducible refine (U2.out _).mono ?_); rintro e wx ⟨rfl, rfl⟩) | (go_at_call 104; (with_reducible refine (U3.out _).mono ?_); rintro e wx ⟨rfl, rfl⟩) | (go_at_call 104; (with_reducible refine (U4.out _).mono ?_); rintro e wx ⟨rfl, rfl⟩) | (go_at_call 104; (with_reducible refine (U5.out _).mono ?_); rintro e wx ⟨rfl, rfl⟩) | fail)
                go_ret
                exact ⟨ret_b (by rw [HR.out]; simp [*]), hB.out.trans (B2.out.mono (by have := hz.out; omega))⟩
              · by_cases q1 : lab = 0
                · subst q1
                  by_cases q3 : no ≤ 40
                  · have q3' : (no : Int) ≤ 40 := by omega
                    by_cases q4 : no % 4 = 0
                    · have e4 : ((no : Int) % 4 == 0) = true := by simp; omega
                      have e5 : (no % 4 == 0) = true := by simp; omega
                      clear q4
                      go_enter Try.func75, Try.ntmps75
                      go_wp2_with (first | (go_at_call 103; (with_reducible refine (K1.out _).mono ?_); rintro e w1 ⟨rfl, hb1⟩; have B1 := hide hb1; obtain ⟨g1, q⟩ := HC.out w1 hb1; obtain ⟨k0, k1, k2, k3, k4, k5, k6, k7, k8, k9, k10⟩ := q) | (go_at_call 103; (with_reducible refine (K2.out _).mono ?_); rintro e w2 ⟨rfl, hb2⟩; have B2 := hide (B1.out.trans (hb2.mono B1.out.size)); obtain ⟨g2, q⟩ := HC.out w2 B2.out; obtain ⟨m0, m1, m2, m3, m4, m5, m6, m7, m8, m9, m10⟩ := q; clear k0 k1 k2 k3 k4 k5 k6 k7 k8 k9 k10 g1) | (go_at_call 104; (with_reducible refine (U1.out _).mono ?_); rintro e wx ⟨rfl, rfl⟩) | (go_at_call 104; (with_reducible refine (U2.out _).mono ?_); rintro e wx ⟨rfl, rfl⟩) | (go_at_call 104; (with_reducible refine (U3.out _).mono ?_); rintro e wx ⟨rfl, rfl⟩) | (go_at_call 104; (with_reducible refine (U4.out _).mono ?_); rintro e wx ⟨rfl, rfl⟩) | (go_at_call 104; (with_reducible refine (U5.out _).mono ?_); rintro e wx ⟨rfl, rfl⟩) | fail)
                      go_ret
                      exact ⟨ret_b (by rw [HR.out]; simp [*]), hB.out.trans (B2.out.mono (by have := hz.out; omega))⟩
                    · have e4 : ((no : Int) % 4 == 0) = false := by simp; omega
                      have e5 : (no % 4 == 0) = false := by simp; omega
                      clear q4
                      go_enter Try.func75, Try.ntmps75
                      go_wp2_with (first | (go_at_call 103; (with_reducible refine (K1.out _).mono ?_); rintro e w1 ⟨rfl, hb1⟩; have B1 := hide hb1; obtain ⟨g1, q⟩ := HC.out w1 hb1; obtain ⟨k0, k1, k2, k3, k4, k5, k6, k7, k8, k9, k10⟩ := q) | (go_at_call 103; (with_reducible refine (K2.out _).mono ?_); rintro e w2 ⟨rfl, hb2⟩; have B2 := hide (B1.out.trans (hb2.mono B1.out.size)); obtain ⟨g2, q⟩ := HC.out w2 B2.out; obtain ⟨m0, m1, m2, m3, m4, m5, m6, m7, m8, m9, m10⟩ := q; clear k0 k1 k2 k3 k4 k5 k6 k7 k8 k9 k10 g1) | (go_at_call 104; (with_reducible refine (U1.out _).mono ?_); rintro e wx ⟨rfl, rfl⟩) | (go_at_call 104; (with_reducible refine (U2.out _).mono ?_); rintro e wx ⟨rfl, rfl⟩) | (go_at_call 104; (with_reducible refine (U3.out _).mono ?_); rintro e wx ⟨rfl, rfl⟩) | (go_at_call 104; (with_reducible refine (U4.out _).mono ?_); rintro e wx ⟨rfl, rfl⟩) | (go_at_call 104; (with_reducible refine (U5.out _).mono ?_); rintro e wx ⟨rfl, rfl⟩) | fail)
                      go_ret
                      exact ⟨ret_b (by rw [HR.out]; simp [*]), hB.out.trans (B2.out.mono (by have := hz.out; omega))⟩
                  · have q3' : ¬ (no : Int) ≤ 40 := by omega
                    go_enter Try.func75, Try.ntmps75
                    go_wp2_with (first | (go_at_call 103; (with_reducible refine (K1.out _).mono ?_); rintro e w1 ⟨rfl, hb1⟩; have B1 := hide hb1; obtain ⟨g1, q⟩ := HC.out w1 hb1; obtain ⟨k0, k1, k2, k3, k4, k5, k6, k7, k8, k9, k10⟩ := q) | (go_at_call 103; (with_reducible refine (K2.out _).mono ?_); rintro e w2 ⟨rfl, hb2⟩; have B2 := hide (B1.out.trans (hb2.mono B1.out.size)); obtain ⟨g2, q⟩ := HC.out w2 B2.out; obtain ⟨m0, m1, m2, m3, m4, m5, m6, m7, m8, m9, m10⟩ := q; clear k0 k1 k2 k3 k4 k5 k6 k7 k8 k9 k10 g1) | (go_at_call 104; (with_reducible refine (U1.out _).mono ?_); rintro e wx ⟨rfl, rfl⟩) | (go_at_call 104; (with_reducible refine (U2.out _).mono ?_); rintro e wx ⟨rfl, rfl⟩) | (go_at_call 104; (with_reducible refine (U3.out _).mono ?_); rintro e wx ⟨rfl, rfl⟩) | (go_at_call 104; (with_reducible refine (U4.out _).mono ?_); rintro e wx ⟨rfl, rfl⟩) | (go_at_call 104; (with_reducible refine (U5.out _).mono ?_); rintro e wx ⟨rfl, rfl⟩) | fail)
                    go_ret
                    exact ⟨ret_b (by rw [HR.out]; simp [*]), hB.out.trans (B2.out.mono (by have := hz.out; omega))⟩
                · have e1 : (lab == 0) = false := by simpa using q1
                  clear q1
                  go_enter Try.func75, Try.ntmps75
                  go_wp2_with (first | (go_at_call 103; (with_reducible refine (K1.out _).mono ?_); rintro e w1 ⟨rfl, hb1⟩; have B1 := hide hb1; obtain ⟨g1, q⟩ := HC.out w1 hb1; obtain ⟨k0, k1, k2, k3, k4, k5, k6, k7, k8, k9, k10⟩ := q) | (go_at_call 103; (with_reducible refine (K2.out _).mono ?_); rintro e w2 ⟨rfl, hb2⟩; have B2 := hide (B1.out.trans (hb2.mono B1.out.size)); obtain ⟨g2, q⟩ := HC.out w2 B2.out; obtain ⟨m0, m1, m2, m3, m4, m5, m6, m7, m8, m9, m10⟩ := q; clear k0 k1 k2 k3 k4 k5 k6 k7 k8 k9 k10 g1) | (go_at_call 104; (with_reducible refine (U1.out _).mono ?_); rintro e wx ⟨rfl, rfl⟩) | (go_at_call 104; (with_reducible refine (U2.out _).mono ?_); rintro e wx ⟨rfl, rfl⟩) | (go_at_call 104; (with_reducible refine (U3.out _).mono ?_); rintro e wx ⟨rfl, rfl⟩) | (go_at_call 104; (with_reducible refine (U4.out _).mono ?_); rintro e wx ⟨rfl, rfl⟩) | (go_at_call 104; (with_reducible refine (U5.out _).mono ?_); rintro e wx ⟨rfl, rfl⟩) | fail)
                  go_ret
                  exact ⟨ret_b (by rw [HR.out]; simp [*]), hB.out.trans (B2.out.mono (by have := hz.out; omega))⟩
            · by_cases q1 : idn = 0
              · subst q1
                cases df
                · by_cases q2 : no = 0
                  · subst q2
                    cases u4
                    · go_enter Try.func75, Try.ntmps75
                      go_wp2_with (first | (go_at_call 103; (with_reducible refine (K1.out _).mono ?_); rintro e w1 ⟨rfl, hb1⟩; have B1 := hide hb1; obtain ⟨g1, q⟩ := HC.out w1 hb1; obtain ⟨k0, k1, k2, k3, k4, k5, k6, k7, k8, k9, k10⟩ := q) | (go_at_call 103; (with_reducible refine (K2.out _).mono ?_); rintro e w2 ⟨rfl, hb2⟩; have B2 := hide (B1.out.trans (hb2.mono B1.out.size)); obtain ⟨g2, q⟩ := HC.out w2 B2.out; obtain ⟨m0, m1, m2, m3, m4, m5, m6, m7, m8, m9, m10⟩ := q; clear k0 k1 k2 k3 k4 k5 k6 k7 k8 k9 k10 g1) | (go_at_call 104; (with_reducible refine (U1.out _).mono ?_); rintro e wx ⟨rfl, rfl⟩) | (go_at_call 104; (with_reducible refine (U2.out _).mono ?_); rintro e wx ⟨rfl, rfl⟩) | (go_at_call 104; (with_reducible refine (U3.out _).mono ?_); rintro e wx ⟨rfl, rfl⟩) | (go_at_call 104; (with_reducible refine (U4.out _).mono ?_); rintro e wx ⟨rfl, rfl⟩) | (go_at_call 104; (with_reducible refine (U5.out _).mono ?_); rintro e wx ⟨rfl, rfl⟩) | fail)
                      go_ret
                      exact ⟨ret_b (by rw [HR.out]; simp [*]), hB.out.trans (B2.out.mono (by have := hz.out; omega))⟩
                    · go_enter Try.func75, Try.ntmps75
                      go_wp2_with (first | (go_at_call 103; (with_reducible refine (K1.out _).mono ?_); rintro e w1 ⟨rfl, hb1⟩; have B1 := hide hb1; obtain ⟨g1, q⟩ := HC.out w1 hb1; obtain ⟨k0, k1, k2, k3, k4, k5, k6, k7, k8, k9, k10⟩ := q) | (go_at_call 103; (with_reducible refine (K2.out _).mono ?_); rintro e w2 ⟨rfl, hb2⟩; have B2 := hide (B1.out.trans (hb2.mono B1.out.size)); obtain ⟨g2, q⟩ := HC.out w2 B2.out; obtain ⟨m0, m1, m2, m3, m4, m5, m6, m7, m8, m9, m10⟩ := q; clear k0 k1 k2 k3 k4 k5 k6 k7 k8 k9 k10 g1) | (go_at_call 104; (with_reducible refine (U1.out _).mono ?_); rintro e wx ⟨rfl, rfl⟩) | (go_at_call 104; (with_reducible refine (U2.out _).mono ?_); rintro e wx ⟨rfl, rfl⟩) | (go_at_call 104; (with_reducible refine (U3.out _).mono ?_); rintro e wx ⟨rfl, rfl⟩) | (go_at_call 104; (with_reducible refine (U4.out _).mono ?_); rintro e wx ⟨rfl, rfl⟩) | (go_at_call 104; (with_reducible refine (U5.out _).mono ?_); rintro e wx ⟨rfl, rfl⟩) | fail)
                      go_ret
                      exact ⟨ret_b (by rw [HR.out]; simp [*]), hB.out.trans (B2.out.mono (by have := hz.out; omega))⟩
                  · have e2 : ((no : Int) == 0) = false := by simp; omega
                    have e3 : (no == 0) = false := by simp; omega
                    clear q2
                    go_enter Try.func75, Try.ntmps75
                    go_wp2_with (first | (go_at_call 103; (with_reducible refine (K1.out _).mono ?_); rintro e w1 ⟨rfl, hb1⟩; have B1 := hide hb1; obtain ⟨g1, q⟩ := HC.out w1 hb1; obtain ⟨k0, k1, k2, k3, k4, k5, k6, k7, k8, k9, k10⟩ := q) | (go_at_call 103; (with_reducible refine (K2.out _).mono ?_); rintro e w2 ⟨rfl, hb2⟩; have B2 := hide (B1.out.trans (hb2.mono B1.out.size)); obtain ⟨g2, q⟩ := HC.out w2 B2.out; obtain ⟨m0, m1, m2, m3, m4, m5, m6, m7, m8, m9, m10⟩ := q; clear k0 k1 k2 k3 k4 k5 k6 k7 k8 k9 k10 g1) | (go_at_call 104; (with_reducible refine (U1.out _).mono ?_); rintro e wx ⟨rfl, rfl⟩) | (go_at_call 104; (with_reducible refine (U2.out _).mono ?_); rintro e wx ⟨rfl, rfl⟩) | (go_at_call 104; (with_reducible refine (U3.out _).mono ?_); rintro e wx ⟨rfl, rfl⟩) | (go_at_call 104; (with_reducible refine (U4.out _).mono ?_); rintro e wx ⟨rfl, rfl⟩) | (go_at_call 104; (with_reducible refine (U5.out _).mono ?_); rintro e wx ⟨rfl, rfl⟩) | fail)
                    go_ret
                    exact ⟨ret_b (by rw [HR.out]; simp [*]), hB.out.trans (B2.out.mono (by have := hz.out; omega))⟩
                · go_enter Try.func75, Try.ntmps75
                  go_wp2_with (first | (go_at_call 103; (with_reducible refine (K1.out _).mono ?_); rintro e w1 ⟨rfl, hb1⟩; have B1 := hide hb1; obtain ⟨g1, q⟩ := HC.out w1 hb1; obtain ⟨k0, k1, k2, k3, k4, k5, k6, k7, k8, k9, k10⟩ := q) | (go_at_call 103; (with_reducible refine (K2.out _).mono ?_); rintro e w2 ⟨rfl, hb2⟩; have B2 := hide (B1.out.trans (hb2.mono B1.out.size)); obtain ⟨g2, q⟩ := HC.out w2 B2.out; obtain ⟨m0, m1, m2, m3, m4, m5, m6, m7, m8, m9, m10⟩ := q; clear k0 k1 k2 k3 k4 k5 k6 k7 k8 k9 k10 g1) | (go_at_call 104; (with_reducible refine (U1.out _).mono ?_); rintro e wx ⟨rfl, rfl⟩) | (go_at_call 104; (with_reducible refine (U2.out _).mono ?_); rintro e wx ⟨rfl, rfl⟩) | (go_at_call 104; (with_reducible refine (U3.out _).mono ?_); rintro e wx ⟨rfl, rfl⟩) | (go_at_call 104; (with_reducible refine (U4.out _).mono ?_); rintro e wx ⟨rfl, rfl⟩) | (go_at_call 104; (with_reducible refine (U5.out _).mono ?_); rintro e wx ⟨rfl, rfl⟩) | fail)
                  go_ret
                  exact ⟨ret_b (by rw [HR.out]; simp [*]), hB.out.trans (B2.out.mono (by have := hz.out; omega))⟩
              · have e1 : (idn == 0) = false := by simpa using q1
                clear q1
                go_enter Try.func75, Try.ntmps75
                go_wp2_with (first | (go_at_call 103; (with_reducible refine (K1.out _).mono ?_); rintro e w1 ⟨rfl, hb1⟩; have B1 := hide hb1; obtain ⟨g1, q⟩ := HC.out w1 hb1; obtain ⟨k0, k1, k2, k3, k4, k5, k6, k7, k8, k9, k10⟩ := q) | (go_at_call 103; (with_reducible refine (K2.out _).mono ?_); rintro e w2 ⟨rfl, hb2⟩; have B2 := hide (B1.out.trans (hb2.mono B1.out.size)); obtain ⟨g2, q⟩ := HC.out w2 B2.out; obtain ⟨m0, m1, m2, m3, m4, m5, m6, m7, m8, m9, m10⟩ := q; clear k0 k1 k2 k3 k4 k5 k6 k7 k8 k9 k10 g1) | (go_at_call 104; (with_reducible refine (U1.out _).mono ?_); rintro e wx ⟨rfl, rfl⟩) | (go_at_call 104; (with_reducible refine (U2.out _).mono ?_); rintro e wx ⟨rfl, rfl⟩) | (go_at_call 104; (with_reducible refine (U3.out _).mono ?_); rintro e wx ⟨rfl, rfl⟩) | (go_at_call 104; (with_reducible refine (U4.out _).mono ?_); rintro e wx ⟨rfl, rfl⟩) | (go_at_call 104; (with_reducible refine (U5.out _).mono ?_); rintro e wx ⟨rfl, rfl⟩) | fail)
                go_ret
                exact ⟨ret_b (by rw [HR.out]; simp [*]), hB.out.trans (B2.out.mono (by have := hz.out; omega))⟩
end Go.Proofs.Ytcagdcjikbkapaa
