/-
  The walk of the document's Right.
-/
import Derived.Test.YtnhcfmmmghghgaaJa
namespace Go.Proofs.Ytnhcfmmmghghgaa
open Go.RowKit
attribute [local go_sem ↓] exec_span exec_put exec_build heap_alloc_new heap_old
attribute [local go_sem] spanQ_ptr spanC_some heap_of_drew heap_of_drewN rs_arr rs_ad rs_ip rs_rip putAt_ptr putOk_ptr oldOk_some World.setRow_alloc_new
set_option maxRecDepth 100000
set_option linter.unusedVariables false
set_option linter.unusedSimpArgs false

set_option maxHeartbeats 8000000 in
theorem refrightH_any (w : World) (X : Array Value) (h : Ip) (x : IpV X h) (hn : h.no ≤ 140737488355328) :
    Calls Try.prog 25 #[.agg X] w fun e w' => e = .returned (.bool (rightH h)) ∧ Below w.heap.size w w' := by
  have hxs := x.size
  have hxr := x.x0
  obtain ⟨S, hS⟩ : ∃ S, S = (adL h.sv h.sb).toArray := ⟨_, rfl⟩
  obtain ⟨D, hD⟩ : ∃ D, D = (adL h.dv h.db).toArray := ⟨_, rfl⟩
  have hsrc := x.src
  have hdst := x.dst
  rw [← hS] at hsrc
  rw [← hD] at hdst
  have aS : AdV S h.sv h.sb := by rw [hS]; exact AdV.mk' x.ls
  have aD : AdV D h.dv h.db := by rw [hD]; exact AdV.mk' x.ld
  have K1 := hide (fun W => refright_any W S h.sv h.sb aS)
  have K2 := hide (fun W => refright_any W D h.dv h.db aD)
  have U1 := hide (fun W => within_num W 255 h.p)
  have U2 := hide (fun W => within_num W 255 h.ttl)
  have U3 := hide (fun W => within_num W 255 h.tos)
  have U4 := hide (fun W => within_num W 1048575 h.lab)
  have U5 := hide (fun W => within_num W 65535 h.id)
  obtain ⟨W, hW, h1, hz, hb⟩ := one_block w (.cells X 27)
  obtain ⟨rs, hr1⟩ : ∃ r, r = rightL h.sv h.sb := ⟨_, rfl⟩
  obtain ⟨rd, hr2⟩ : ∃ r, r = rightL h.dv h.db := ⟨_, rfl⟩
  obtain ⟨u1, hu1⟩ : ∃ r, r = upS 255 h.p := ⟨_, rfl⟩
  obtain ⟨u2, hu2⟩ : ∃ r, r = upS 255 h.ttl := ⟨_, rfl⟩
  obtain ⟨u3, hu3⟩ : ∃ r, r = upS 255 h.tos := ⟨_, rfl⟩
  obtain ⟨u4, hu4⟩ : ∃ r, r = upS 1048575 h.lab := ⟨_, rfl⟩
  obtain ⟨u5, hu5⟩ : ∃ r, r = upS 65535 h.id := ⟨_, rfl⟩
  obtain ⟨R, hR⟩ : ∃ R, R = rightH h := ⟨_, rfl⟩
  obtain ⟨sv, hsv⟩ : ∃ r, r = h.sv := ⟨_, rfl⟩
  obtain ⟨dv, hdv⟩ : ∃ r, r = h.dv := ⟨_, rfl⟩
  obtain ⟨v, hv⟩ : ∃ v, v = h.v := ⟨_, rfl⟩
  obtain ⟨df, hdf⟩ : ∃ v, v = h.df := ⟨_, rfl⟩
  obtain ⟨idn, hid⟩ : ∃ v, v = h.id := ⟨_, rfl⟩
  obtain ⟨lab, hlab⟩ : ∃ v, v = h.lab := ⟨_, rfl⟩
  obtain ⟨no, hno⟩ : ∃ v, v = h.no := ⟨_, rfl⟩
  have HR : R = ((rs && sv == v) && (rd && dv == v) && u1 && u2 && u3 && (if v then idn == 0 && !df && no == 0 && u4 else u5 && lab == 0 && decide (no ≤ 40) && no % 4 == 0)) := by
    rw [hR, hr1, hr2, hu1, hu2, hu3, hu4, hu5, hsv, hdv, hv, hdf, hid, hlab, hno]; rfl
  have HC : Hid (∀ w', Below W.heap.size W w' → w'.heap[w.heap.size]? = some (.cells X 27 (0, 0)) ∧ w'.cell? ⟨w.heap.size, 0, none⟩ = some (.bool v) ∧ w'.cell? ⟨w.heap.size, 1, none⟩ = some (.bool sv) ∧ w'.cell? ⟨w.heap.size, 18, none⟩ = some (.bool dv) ∧ w'.cell? ⟨w.heap.size, 35, none⟩ = some (.int .i64 h.p) ∧ w'.cell? ⟨w.heap.size, 36, none⟩ = some (.int .i64 h.ttl) ∧ w'.cell? ⟨w.heap.size, 37, none⟩ = some (.int .i64 h.tos) ∧ w'.cell? ⟨w.heap.size, 38, none⟩ = some (.int .i64 idn) ∧ w'.cell? ⟨w.heap.size, 39, none⟩ = some (.bool df) ∧ w'.cell? ⟨w.heap.size, 40, none⟩ = some (.int .i64 lab) ∧ w'.cell? ⟨w.heap.size, 41, none⟩ = some (.slice h.ao no h.co) ∧ w'.cell? ⟨w.heap.size, 42, none⟩ = some (.slice h.ad h.nd h.cd)) := by
    rw [hv, hsv, hdv, hdf, hid, hlab, hno]
    exact hide fun w' hb => by
      have q := x.cells (row_kept hb (by omega) h1)
      exact ⟨row_kept hb (by omega) h1, q.c0, q.c1, q.c18, q.c35, q.c36, q.c37, q.c38, q.c39, q.c40, q.c41, q.c42⟩
  rw [← hsv] at K1
  rw [← hdv] at K2
  have hr1' : rs = rightL sv h.sb := by rw [hsv]; exact hr1
  have hr2' : rd = rightL dv h.db := by rw [hdv]; exact hr2
  rw [← hr1'] at K1
  rw [← hr2'] at K2
  rw [← hu1] at U1
  rw [← hu2] at U2
  rw [← hu3] at U3
  rw [← hlab, show upS 1048575 lab = u4 by rw [hu4, hlab]] at U4
  rw [← hid, show upS 65535 idn = u5 by rw [hu5, hid]] at U5
  rw [← hR]
  rw [← hno] at hn
  obtain ⟨c0', c1', c2', c3', c4', c5', c6', c7', c8', c9', c10', c11'⟩ := HC.out W (Below.refl _ _)
  have hB := hide hb
  have hz := hide hz
  clear hr1 hr2 hr1' hr2' hu1 hu2 hu3 hu4 hu5 hsv hdv hv hdf hid hlab hno hb aS aD hS hD x hR
  have key : (rs = false ∧ R = false) ∨ (rs = true ∧ rd = false ∧ R = false) ∨ (rs = true ∧ rd = true ∧ sv = true ∧ v = false ∧ R = false) ∨ (rs = true ∧ rd = true ∧ sv = false ∧ v = true ∧ R = false)
    ∨ (rs = true ∧ rd = true ∧ sv = false ∧ v = false ∧ dv = true ∧ R = false) ∨ (rs = true ∧ rd = true ∧ sv = true ∧ v = true ∧ dv = false ∧ R = false)
    ∨ (rs = true ∧ rd = true ∧ sv = false ∧ v = false ∧ dv = false ∧ u1 = false ∧ R = false) ∨ (rs = true ∧ rd = true ∧ sv = false ∧ v = false ∧ dv = false ∧ u1 = true ∧ u2 = false ∧ R = false) ∨ (rs = true ∧ rd = true ∧ sv = false ∧ v = false ∧ dv = false ∧ u1 = true ∧ u2 = true ∧ u3 = false ∧ R = false)
    ∨ (rs = true ∧ rd = true ∧ sv = true ∧ v = true ∧ dv = true ∧ u1 = false ∧ R = false) ∨ (rs = true ∧ rd = true ∧ sv = true ∧ v = true ∧ dv = true ∧ u1 = true ∧ u2 = false ∧ R = false) ∨ (rs = true ∧ rd = true ∧ sv = true ∧ v = true ∧ dv = true ∧ u1 = true ∧ u2 = true ∧ u3 = false ∧ R = false)
    ∨ (rs = true ∧ rd = true ∧ sv = false ∧ v = false ∧ dv = false ∧ u1 = true ∧ u2 = true ∧ u3 = true ∧ u5 = false ∧ R = false)
    ∨ (rs = true ∧ rd = true ∧ sv = false ∧ v = false ∧ dv = false ∧ u1 = true ∧ u2 = true ∧ u3 = true ∧ u5 = true ∧ (lab == 0) = false ∧ R = false)
    ∨ (rs = true ∧ rd = true ∧ sv = false ∧ v = false ∧ dv = false ∧ u1 = true ∧ u2 = true ∧ u3 = true ∧ u5 = true ∧ lab = 0 ∧ ¬ (no : Int) ≤ 40 ∧ R = false)
    ∨ (rs = true ∧ rd = true ∧ sv = false ∧ v = false ∧ dv = false ∧ u1 = true ∧ u2 = true ∧ u3 = true ∧ u5 = true ∧ lab = 0 ∧ (no : Int) ≤ 40 ∧ ((no : Int) % 4 == 0) = R)
    ∨ (rs = true ∧ rd = true ∧ sv = true ∧ v = true ∧ dv = true ∧ u1 = true ∧ u2 = true ∧ u3 = true ∧ (idn == 0) = false ∧ R = false)
    ∨ (rs = true ∧ rd = true ∧ sv = true ∧ v = true ∧ dv = true ∧ u1 = true ∧ u2 = true ∧ u3 = true ∧ idn = 0 ∧ df = true ∧ R = false)
    ∨ (rs = true ∧ rd = true ∧ sv = true ∧ v = true ∧ dv = true ∧ u1 = true ∧ u2 = true ∧ u3 = true ∧ idn = 0 ∧ df = false ∧ ((no : Int) == 0) = false ∧ R = false)
    ∨ (rs = true ∧ rd = true ∧ sv = true ∧ v = true ∧ dv = true ∧ u1 = true ∧ u2 = true ∧ u3 = true ∧ idn = 0 ∧ df = false ∧ no = 0 ∧ u4 = R) := by
    rw [HR]
    clear HR K1 K2 U1 U2 U3 U4 U5 HC
    have n4 : ((no : Int) % 4 == 0) = (no % 4 == 0) := by
      rw [Bool.eq_iff_iff]; simp; omega
    rw [n4]
    by_cases i0 : idn = 0 <;> by_cases l0 : lab = 0 <;> by_cases n0 : no = 0 <;> by_cases n40 : no ≤ 40 <;>
    cases rs <;> cases rd <;> cases sv <;> cases v <;> cases dv <;> (try simp) <;> (try (cases u1 <;> (try simp) <;> cases u2 <;> (try simp) <;> cases u3 <;> (try simp [*]) <;> cases df <;> (try simp [*]) <;> cases u5 <;> (try simp [*]) <;> (try omega)))
  clear HR
  rcases key with ⟨rfl, rfl⟩ | ⟨rfl, rfl, rfl⟩ | ⟨rfl, rfl, rfl, rfl, rfl⟩ | ⟨rfl, rfl, rfl, rfl, rfl⟩ | ⟨rfl, rfl, rfl, rfl, rfl, rfl⟩ | ⟨rfl, rfl, rfl, rfl, rfl, rfl⟩ | ⟨rfl, rfl, rfl, rfl, rfl, rfl, rfl⟩ | ⟨rfl, rfl, rfl, rfl, rfl, rfl, rfl, rfl⟩ | ⟨rfl, rfl, rfl, rfl, rfl, rfl, rfl, rfl, rfl⟩ | ⟨rfl, rfl, rfl, rfl, rfl, rfl, rfl⟩ | ⟨rfl, rfl, rfl, rfl, rfl, rfl, rfl, rfl⟩ | ⟨rfl, rfl, rfl, rfl, rfl, rfl, rfl, rfl, rfl⟩ | ⟨rfl, rfl, rfl, rfl, rfl, rfl, rfl, rfl, rfl, rfl⟩ | ⟨rfl, rfl, rfl, rfl, rfl, rfl, rfl, rfl, rfl, q1, rfl⟩ | ⟨rfl, rfl, rfl, rfl, rfl, rfl, rfl, rfl, rfl, rfl, q1, rfl⟩ | ⟨rfl, rfl, rfl, rfl, rfl, rfl, rfl, rfl, rfl, rfl, q1, q2⟩ | ⟨rfl, rfl, rfl, rfl, rfl, rfl, rfl, rfl, q1, rfl⟩ | ⟨rfl, rfl, rfl, rfl, rfl, rfl, rfl, rfl, rfl, rfl, rfl⟩ | ⟨rfl, rfl, rfl, rfl, rfl, rfl, rfl, rfl, rfl, rfl, q1, rfl⟩ | ⟨rfl, rfl, rfl, rfl, rfl, rfl, rfl, rfl, rfl, rfl, rfl, rfl⟩
  all_goals (
    subst hW
    go_enter Try.func25, Try.ntmps25
    go_wp2_with (first
      | (go_at_call 37; (with_reducible refine (K1.out _).mono ?_); rintro e w1 ⟨rfl, hb1⟩; have B1 := hide hb1; obtain ⟨g1, k0, k1, k2, k3, k4, k5, k6, k7, k8, k9, k10⟩ := HC.out w1 hb1; clear hb1)
      | (go_at_call 37; (with_reducible refine (K2.out _).mono ?_); rintro e w2 ⟨rfl, hb2⟩; have B1 := hide (B1.out.trans (hb2.mono B1.out.size)); obtain ⟨g2, m0, m1, m2, m3, m4, m5, m6, m7, m8, m9, m10⟩ := HC.out w2 B1.out; clear k0 k1 k2 k3 k4 k5 k6 k7 k8 k9 k10 g1 hb2)
      | (go_at_call 38; (with_reducible refine (U1.out _).mono ?_); rintro e wx ⟨rfl, rfl⟩)
      | (go_at_call 38; (with_reducible refine (U2.out _).mono ?_); rintro e wx ⟨rfl, rfl⟩)
      | (go_at_call 38; (with_reducible refine (U3.out _).mono ?_); rintro e wx ⟨rfl, rfl⟩)
      | (go_at_call 38; (with_reducible refine (U4.out _).mono ?_); rintro e wx ⟨rfl, rfl⟩)
      | (go_at_call 38; (with_reducible refine (U5.out _).mono ?_); rintro e wx ⟨rfl, rfl⟩)
      | fail)
    go_ret
    exact ⟨ret_b (by first | rfl | assumption | (simp [*]; done)), hB.out.trans (B1.out.mono (by have := hz.out; omega))⟩)
end Go.Proofs.Ytnhcfmmmghghgaa
