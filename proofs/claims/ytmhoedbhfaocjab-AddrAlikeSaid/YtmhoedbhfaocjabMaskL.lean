/-
  The walk of the statement AddrMask: true; nothing that was there is written.
-/
import Derived.Test.YtmhoedbhfaocjabAdz
namespace Go.Proofs.Ytmhoedbhfaocjab
open Go.RowKit
attribute [local go_sem ↓] exec_span exec_put exec_build heap_alloc_new heap_old
attribute [local go_sem] spanQ_ptr spanC_some heap_of_drew heap_of_drewN rs_arr rs_ad putAt_ptr putOk_ptr oldOk_some built_none World.setRow_alloc_new
set_option maxRecDepth 100000
set_option linter.unusedVariables false
set_option linter.unusedSimpArgs false

theorem AdV.uniq {X Y : Array Value} {v : Bool} {l : List UInt8} (h : AdV X v l) (h' : AdV Y v l) : X = Y := by rw [h.eq, h'.eq]
theorem mask_right {v : Bool} {l : List UInt8} {n : Int} (h : maskOk v l n = true) : rightL v (maskL l n.toNat) = true := by
  unfold maskOk at h
  simp only [Bool.and_eq_true, decide_eq_true_eq] at h
  obtain ⟨⟨h1, h2⟩, h3⟩ := h
  cases v
  · unfold rightL
    unfold sizeA at h3
    rw [maskL_maskL, Nat.min_eq_left (by simp at h3; omega)]
    simp
  · rfl
theorem mask_again {v : Bool} {l : List UInt8} {n : Int} (m : Int) (h : maskOk v l n = true) : maskOk v (maskL l n.toNat) m = maskOk v l m := by
  have h1 := mask_right h
  have h2 : rightL v l = true := by
    unfold maskOk at h
    simp only [Bool.and_eq_true] at h
    exact h.1.1
  unfold maskOk
  rw [h1, h2]

theorem rows4 {B : Nat} {W w2 : World} {g1 g2 g3 g4 : Nat} {o1 o2 o3 o4 : Obj} (hb : Below B W w2) (hB : g1 < B ∧ g2 < B ∧ g3 < B ∧ g4 < B) (h : W.heap[g1]? = some o1 ∧ W.heap[g2]? = some o2 ∧ W.heap[g3]? = some o3 ∧ W.heap[g4]? = some o4) : w2.heap[g1]? = some o1 ∧ w2.heap[g2]? = some o2 ∧ w2.heap[g3]? = some o3 ∧ w2.heap[g4]? = some o4 :=
  ⟨row_kept hb hB.1 h.1, row_kept hb hB.2.1 h.2.1, row_kept hb hB.2.2.1 h.2.2.1, row_kept hb hB.2.2.2 h.2.2.2⟩

set_option maxHeartbeats 4000000 in
theorem addrMask_any (w : World) (X Y : Array Value) (v v' : Bool) (l l' : List UInt8) (n m : Int) (h : AdV X v l) (h' : AdV Y v' l') (hn0 : -9223372036854775808 ≤ n) (hn1 : n ≤ 9223372036854775807) (hm0 : -9223372036854775808 ≤ m) (hm1 : m ≤ 9223372036854775807) :
    Calls Try.prog 5 #[.agg X, .agg Y, .int .i64 n, .int .i64 m] w fun e w' => e = .returned (.bool true) ∧ Below w.heap.size w w' := by
  go_enter Try.func5, Try.ntmps5
  have hxs := h.size
  have hys := h'.size
  have hxr := h.x0
  have hyr := h'.x0
  obtain ⟨W, hW, h1, h2, hz, hb⟩ := two_blocks w (.cells X 25) (.cells Y 25)
  have hB := hide hb
  have hlt : Hid (W.heap.size = w.heap.size + 2) := hide hz
  have H12 := hide (And.intro h1 h2)
  have hm := hide (fun W => mask_any W X v l n h hn0 hn1)
  have hrm := hide (fun W => refmask_any W X v l n h hn0 hn1)
  have hwi := hide (fun W => within_any W X Y v v' l l' n h h' hn0 hn1)
  have hrw := hide (fun W => refwithin_any W X Y v v' l l' n h h' hn0 hn1)
  have hkn := hide (fun W => knownA_any W)
  obtain ⟨E, hE⟩ : ∃ E, E = maskE v l n := ⟨_, rfl⟩
  rw [← hE] at hm hrm
  have HE := hide hE
  obtain ⟨S, hS⟩ : ∃ S, S = withinS v l v' l' n := ⟨_, rfl⟩
  rw [← hS] at hwi hrw
  clear hz hb hE hS
  go_wp2_with fail
  refine (hm.out _).mono ?_
  rintro e w2 ⟨⟨A, rfl, hA⟩, hb2⟩
  have hAs := hA.size
  have hAo : allOne A = true := hA.one
  have hAr := hA.x0
  have HA := hide hA
  have HR2 := hide (And.intro (row_kept hb2 (by have := hlt.out; omega) H12.out.1) (row_kept hb2 (by have := hlt.out; omega) H12.out.2))
  obtain ⟨hx2, hy2⟩ := HR2.out
  have L1 : LtN w.heap.size w2.heap.size := by have := hlt.out; have := hb2.size; show _ < _; omega
  have L2 : LtN (w.heap.size + 1) w2.heap.size := by have := hlt.out; have := hb2.size; show _ < _; omega
  have HB2 : Hid (Below W.heap.size W w2) := hide hb2
  clear hA hb2 h1 h2 hW
  go_wp2_with fail
  refine (hrm.out _).mono ?_
  rintro e w3 ⟨⟨A', rfl, hA'⟩, hb3⟩
  obtain rfl : A' = A := hA'.uniq HA.out
  have hx3 := row_kept hb3 (by have : _ < _ := L1; simp; omega) (((Below.refl w2.heap.size w2).alloc (Nat.le_refl _) (.cells A' 25)).block _ L1 |>.trans hx2)
  have hy3 := row_kept hb3 (by have : _ < _ := L2; simp; omega) (((Below.refl w2.heap.size w2).alloc (Nat.le_refl _) (.cells A' 25)).block _ L2 |>.trans hy2)
  have ha3 := row_kept hb3 (by simp) (heap_alloc_new w2 (.cells A' 25))
  have HB3 : Hid (Below W.heap.size W w3) := hide ((HB2.out.alloc HB2.out.size _).trans (hb3.mono (by have := HB2.out.size; simp; omega)))
  have L3 : Hid (w2.heap.size < w3.heap.size) := hide (by have := hb3.size; simp at this; omega)
  obtain ⟨W3, hW3, hr3, hz3, hbb3⟩ := one_block w3 (.cells A' 25)
  have HS3 : Hid (W3.heap[w.heap.size]? = some (.cells X 25 (0, 0)) ∧ W3.heap[w.heap.size + 1]? = some (.cells Y 25 (0, 0)) ∧ W3.heap[w2.heap.size]? = some (.cells A' 25 (0, 0)) ∧ W3.heap[w3.heap.size]? = some (.cells A' 25 (0, 0))) :=
    hide ⟨row_kept hbb3 (by have : _ < _ := L1; have := L3.out; omega) hx3, row_kept hbb3 (by have : _ < _ := L2; have := L3.out; omega) hy3, row_kept hbb3 L3.out ha3, hr3⟩
  have HBW3 : Hid (Below W.heap.size W W3) := hide (HB3.out.trans (hbb3.mono HB3.out.size))
  have HL3 : Hid (w.heap.size + 1 < W3.heap.size ∧ w2.heap.size < W3.heap.size ∧ w3.heap.size < W3.heap.size) := hide (by have : _ < _ := L2; have := L3.out; omega)
  have HL34 : Hid (w.heap.size < W3.heap.size ∧ w.heap.size + 1 < W3.heap.size ∧ w2.heap.size < W3.heap.size ∧ w3.heap.size < W3.heap.size) := hide (by have := HL3.out; omega)
  have hneA := fun W => neq_ad W A' A' _ _ _ _ HA.out HA.out
  simp only [beq_self_eq_true, Bool.and_self, Bool.not_true] at hneA
  clear hA' hx2 hy2 hx3 hy3 ha3 hr3 hz3 hbb3 hb3 HR2 L1 L2
  go_wp2
  go_region_held3 (fun w' => w'.heap[w.heap.size]? = some (.cells X 25 (0, 0)) ∧ w'.heap[w.heap.size + 1]? = some (.cells Y 25 (0, 0)) ∧ w'.heap[w2.heap.size]? = some (.cells A' 25 (0, 0)) ∧ w'.heap[w3.heap.size]? = some (.cells A' 25 (0, 0)))
    (first | exact HS3.out | assumption)
    (first
      | (go_at_call 26; (with_reducible refine (hwi.out _).mono ?_); rintro e w4 ⟨rfl, hb4⟩; have HB4 : Hid (Below W.heap.size W w4) := hide (HBW3.out.trans ((below_undrew' hb4).mono HBW3.out.size)); have HR4 := rows4 (below_undrew' hb4) HL34.out HS3.out)
      | (go_at_call 27; (with_reducible refine (hrw.out _).mono ?_); rintro e w5 ⟨rfl, hb5⟩; have HB5 : Hid (Below W.heap.size W w5) := hide (HB4.out.trans (hb5.mono HB4.out.size)); have HR5 := rows4 hb5 (by have h1 := hb4.size; have := HL34.out; simp at h1; omega) HR4))
  obtain ⟨hx5, hy5, ha5, hr5⟩ := HR5
  have HL5 : Hid (w.heap.size < w5.heap.size ∧ w2.heap.size < w5.heap.size ∧ w3.heap.size < w5.heap.size) := hide (by have := HL34.out; have h1 := hb4.size; have := hb5.size; simp at h1; omega)
  clear HR4 hb4 hb5
  by_cases ho : maskOk v l n = true
  · obtain rfl : E = 0 := by rw [HE.out, mask_yes ho]
    have HO := hide ho
    have HA2 := HA.out
    rw [mask_yesV ho, mask_yesB ho] at HA2
    have hpm := hide (fun W => mask_any W A' v (maskL l n.toNat) m HA2 hm0 hm1)
    have hqm := hide (fun W => mask_any W X v l m h hm0 hm1)
    have hag := mask_again m ho
    have hE2 : maskE v (maskL l n.toNat) m = maskE v l m := by unfold maskE; rw [hag]
    rw [hE2] at hpm
    obtain ⟨F, hF⟩ : ∃ F, F = maskE v l m := ⟨_, rfl⟩
    rw [← hF] at hpm hqm
    have HF := hide hF
    have HAG := hide hag
    have HA2' := hide HA2
    clear ho hag hE2 hF HA2
    go_wp2_with fail
    refine (hpm.out _).mono ?_
    rintro e w6 ⟨⟨P, rfl, hP⟩, hb6⟩
    have hPs := hP.size
    have hPo : allOne P = true := hP.one
    have hPr := hP.x0
    have HP := hide hP
    have hx6 := row_kept hb6 (by have := HL5.out; omega) hx5
    have ha6 := row_kept hb6 (by have := HL5.out; omega) ha5
    have hr6 := row_kept hb6 (by have := HL5.out; omega) hr5
    have L6 : LtN w.heap.size w6.heap.size := by have := HL5.out; have := hb6.size; show _ < _; omega
    have L6a : Hid (w2.heap.size < w6.heap.size) := hide (by have := HL5.out; have := hb6.size; omega)
    have HB6 : Hid (Below W.heap.size W w6) := hide (HB5.out.trans (hb6.mono HB5.out.size))
    clear hP hb6 hx5 hy5 ha5 hr5
    go_wp2_with fail
    refine (hqm.out _).mono ?_
    rintro e w7 ⟨⟨Q, rfl, hQ⟩, hb7⟩
    have hQs := hQ.size
    have hQo : allOne Q = true := hQ.one
    have hQr := hQ.x0
    have HQ := hide hQ
    have hba := (Below.refl w6.heap.size w6).alloc (Nat.le_refl _) (.cells P 25)
    have ha7 := row_kept hb7 (by have := L6a.out; simp; omega) ((hba.block _ L6a.out).trans ha6)
    have hp7 := row_kept hb7 (by simp) (heap_alloc_new w6 (.cells P 25))
    have L7 : LtN w2.heap.size w7.heap.size := by have := L6a.out; have := hb7.size; simp at this; show _ < _; omega
    have L7p : LtN w6.heap.size w7.heap.size := by have := hb7.size; simp at this; show _ < _; omega
    have HB7 : Hid (Below W.heap.size W w7) := hide ((HB6.out.alloc HB6.out.size _).trans (hb7.mono (by have := HB6.out.size; simp; omega)))
    have HB8 : Hid (Below W.heap.size W (w7.alloc (.cells Q 25))) := hide (HB7.out.alloc HB7.out.size _)
    clear hQ hb7 hba hx6 ha6 hr6 L6
    by_cases hom : maskOk v l m = true
    · obtain rfl : F = 0 := by rw [HF.out, mask_yes hom]
      have hP2 := HP.out
      rw [mask_yesV (by rw [HAG.out]; exact hom), mask_yesB (by rw [HAG.out]; exact hom), maskL_maskL] at hP2
      have hQ2 := HQ.out
      rw [mask_yesV hom, mask_yesB hom] at hQ2
      have hA3 := HA.out
      rw [mask_yesV HO.out, mask_yesB HO.out] at hA3
      have hnn := HO.out
      have hmm := hom
      unfold maskOk at hnn hmm
      simp only [Bool.and_eq_true, decide_eq_true_eq] at hnn hmm
      by_cases hle : m ≤ n
      · have hmin : min n.toNat m.toNat = m.toNat := by omega
        rw [hmin] at hP2
        obtain rfl : Q = P := hQ2.uniq hP2
        have heq := fun W => eql_ad W Q Q _ _ _ _ hP2 hP2
        simp only [beq_self_eq_true, Bool.and_self] at heq
        clear hP2 hQ2 hA3 hnn hmm hom
        go_wp2_with fail
        refine (hkn.out _).mono ?_
        rintro e wk ⟨rfl, hbk⟩
        dsimp only
        go_wp2
        go_ret
        exact ⟨rfl, (hB.out.trans (HB8.out.mono (by have := hlt.out; omega))).trans (hbk.mono (by have := HB8.out.size; have := hlt.out; omega))⟩
      · have hmin : min n.toNat m.toNat = n.toNat := by omega
        rw [hmin] at hP2
        obtain rfl : A' = P := hA3.uniq hP2
        have heq := fun W => eql_ad W A' A' _ _ _ _ hP2 hP2
        simp only [beq_self_eq_true, Bool.and_self] at heq
        clear hP2 hQ2 hA3 hnn hmm hom
        go_wp2_with fail
        refine (hkn.out _).mono ?_
        rintro e wk ⟨rfl, hbk⟩
        dsimp only
        go_wp2
        go_ret
        exact ⟨rfl, (hB.out.trans (HB8.out.mono (by have := hlt.out; omega))).trans (hbk.mono (by have := HB8.out.size; have := hlt.out; omega))⟩
    · obtain rfl : F = 1 := by rw [HF.out, mask_no (Bool.eq_false_iff.2 hom)]
      clear hom
      go_wp2_with fail
      refine (hkn.out _).mono ?_
      rintro e wk ⟨rfl, hbk⟩
      dsimp only
      go_wp2
      go_ret
      exact ⟨rfl, (hB.out.trans (HB8.out.mono (by have := hlt.out; omega))).trans (hbk.mono (by have := HB8.out.size; have := hlt.out; omega))⟩
  · obtain rfl : E = 1 := by rw [HE.out, mask_no (Bool.eq_false_iff.2 ho)]
    clear ho
    go_wp2_with fail
    refine (hkn.out _).mono ?_
    rintro e wk ⟨rfl, hbk⟩
    dsimp only
    go_wp2
    go_ret
    exact ⟨rfl, (hB.out.trans (HB5.out.mono (by have := hlt.out; omega))).trans (hbk.mono (by have := HB5.out.size; have := hlt.out; omega))⟩
end Go.Proofs.Ytmhoedbhfaocjab
