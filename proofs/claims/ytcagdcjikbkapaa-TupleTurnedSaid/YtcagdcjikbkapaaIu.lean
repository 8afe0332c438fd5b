/-
  The walk of header.Put.
-/
import Derived.Test.YtcagdcjikbkapaaIx
import Derived.Test.YtcagdcjikbkapaaMad
import Derived.Deep.RegionHeld3
namespace Go.Proofs.Ytcagdcjikbkapaa
open Go.RowKit
attribute [local go_sem ↓] exec_span exec_put exec_build heap_alloc_new heap_old
attribute [local go_sem] spanQ_ptr spanC_some heap_of_drew heap_of_drewN rs_arr rs_ad rs_ip rs_rip putAt_ptr putOk_ptr oldOk_some built_none World.setRow_alloc_new
set_option maxRecDepth 100000
set_option linter.unusedVariables false
set_option linter.unusedSimpArgs false

/-- how long its head is, as a number of bytes. -/
def sizeN (h : Ip) : Nat := if h.v then 40 else 20 + h.no
theorem sizeH_nat (h : Ip) : sizeH h = (sizeN h : Int) := by unfold sizeH sizeN; split <;> simp
def zerB (n : Nat) : List UInt8 := List.replicate n 0
/-- the error of Put, and its bytes. -/
def pktE (h : Ip) : Int := if rightH h = true then (if 65535 < sizeN h + h.nd then 3 else 0) else 1
def pktB (h : Ip) (O D : List UInt8) : List UInt8 :=
  if pktE h = 0 then splice (if h.v then sixB h (zerB (sizeN h + h.nd)) else fourB h (zerB (sizeN h + h.nd)) O (sizeN h)) (sizeN h) D else []
theorem right_facts {h : Ip} (hr : rightH h = true) : (0 ≤ h.p ∧ h.p ≤ 255) ∧ (0 ≤ h.ttl ∧ h.ttl ≤ 255) ∧ (0 ≤ h.tos ∧ h.tos ≤ 255) ∧ (h.v = true → 0 ≤ h.lab ∧ h.lab ≤ 1048575) ∧ (h.v = false → (0 ≤ h.id ∧ h.id ≤ 65535) ∧ h.no ≤ 40 ∧ h.no % 4 = 0) := by
  unfold rightH upS at hr
  cases hv : h.v <;> simp [hv] at hr <;> simp <;> omega
theorem zerB_made (n : Nat) : madeCells #[.int .u8 0] n = ((zerB n).map byteV).toArray := by
  apply Array.toList_inj.1
  rw [toList_madeCells_one, zerB, List.map_replicate]; rfl

theorem length_sixB {h : Ip} {B : List UInt8} (ls : h.sb.length = 16) (ld : h.db.length = 16) (hB : 40 ≤ B.length) : (sixB h B).length = B.length := by
  have hF : (fldB (sixF h)).length = 8 := by unfold sixF; simp [fldB, length_numBytes]
  unfold sixB
  have e1 : (splice B 0 (fldB (sixF h))).length = B.length := length_splice _ _ _ (by omega)
  have e2 : (splice (splice B 0 (fldB (sixF h))) 8 h.sb).length = B.length := by rw [length_splice _ _ _ (by omega), e1]
  rw [length_splice _ _ _ (by omega), e2]
theorem length_four1 {h : Ip} {B O : List UInt8} {n : Nat} (ls : h.sb.length = 16) (ld : h.db.length = 16) (hB : 20 + O.length ≤ B.length) : (four1 h B O n).length = B.length := by
  have hF : (fldB (fourF h n)).length = 10 := by unfold fourF; simp [fldB, length_numBytes]
  have h4 : (h.sb.take 4).length = 4 := by simp [ls]
  have h5 : (h.db.take 4).length = 4 := by simp [ld]
  unfold four1
  have e1 : (splice B 0 (fldB (fourF h n))).length = B.length := length_splice _ _ _ (by omega)
  have e2 : (splice (splice B 0 (fldB (fourF h n))) 12 (h.sb.take 4)).length = B.length := by rw [length_splice _ _ _ (by omega), e1]
  have e3 : (splice (splice (splice B 0 (fldB (fourF h n))) 12 (h.sb.take 4)) 16 (h.db.take 4)).length = B.length := by rw [length_splice _ _ _ (by omega), e2]
  rw [length_splice _ _ _ (by omega), e3]
theorem length_fourB {h : Ip} {B O : List UInt8} {n : Nat} (ls : h.sb.length = 16) (ld : h.db.length = 16) (hB : 20 + O.length ≤ B.length) : (fourB h B O n).length = B.length := by
  have e := length_four1 (n := n) ls ld hB
  unfold fourB
  rw [length_splice _ _ _ (by rw [length_numBytes]; omega), e]

set_option maxHeartbeats 4000000 in
theorem putH_any (w : World) (X : Array Value) (h : Ip) (x : IpV X h) (O D : List UInt8) (hO : Byt w w.heap.size h.ao O) (hOl : O.length = h.no) (hD : Byt w w.heap.size h.ad D) (hDl : D.length = h.nd) (hn : h.no ≤ 140737488355328) (hnd : h.nd ≤ 140737488355328) :
    Calls Try.prog 48 #[.agg X] w fun e w' => ∃ A c, e = .returned (.tuple #[.slice A (pktB h O D).length c, .int .i64 (pktE h)]) ∧ OwnB w' w.heap.size (.slice A (pktB h O D).length c) (pktB h O D) ∧ Below w.heap.size w w' := by
  have hxs := x.size
  have hxr := x.x0
  obtain ⟨W, hW, h1, hz, hb⟩ := one_block w (.cells X 36)
  have KR := hide (fun W => rightH_any W X h x hn)
  have KS := hide (fun W => sizeh_any W X h x hn)
  obtain ⟨S, hS⟩ : ∃ S, S = sizeN h := ⟨_, rfl⟩
  have hSb : S ≤ 140737488355400 := by rw [hS]; unfold sizeN; split <;> omega
  rw [sizeH_nat, ← hS] at KS
  obtain ⟨R, hR⟩ : ∃ R, R = rightH h := ⟨_, rfl⟩
  rw [← hR] at KR
  obtain ⟨nd, hndd⟩ : ∃ k, k = h.nd := ⟨_, rfl⟩
  obtain ⟨v, hv⟩ : ∃ v, v = h.v := ⟨_, rfl⟩
  have HC : Hid (∀ w', Below W.heap.size W w' → w'.heap[w.heap.size]? = some (.cells X 36 (0, 0)) ∧ w'.cell? ⟨w.heap.size, 0, none⟩ = some (.bool v) ∧ w'.cell? ⟨w.heap.size, 42, none⟩ = some (.slice h.ad nd h.cd)) := hide (fun w' hb' => by
    have hr := row_kept hb' (by omega) h1
    rw [hv, hndd]
    exact ⟨hr, (x.cells hr).c0, (x.cells hr).c42⟩)
  rw [← hndd] at hnd
  have hB := hide hb
  have hZ := hide hz
  have HR := hide hR
  have HS := hide hS
  have HND := hide hndd
  have HV := hide hv
  have HO := hide hO
  have HD := hide hD
  have HOl := hide hOl
  have HDl := hide hDl
  obtain ⟨g0, k0, k42⟩ := HC.out W (Below.refl _ _)
  clear hb hz hR hS hndd hv hO hD hOl hDl h1
  subst hW
  cases R
  · have hE := hide (show pktE h = 1 by unfold pktE; rw [← HR.out]; rfl)
    have hBb := hide (show pktB h O D = [] by unfold pktB; rw [hE.out]; rfl)
    go_enter Try.func48, Try.ntmps48
    go_wp2_with fail
    refine (KR.out _).mono ?_
    rintro e w1 ⟨rfl, hb1⟩
    have B1 := hide hb1
    clear hb1
    go_wp2_with fail
    go_ret2
    rw [hE.out, hBb.out]
    exact ⟨none, 0, rfl, OwnB.nil _ _, hB.out.trans (B1.out.mono hB.out.size)⟩
  · have hrf := right_facts HR.out.symm
    obtain ⟨T, hT⟩ : ∃ T : Nat, T = S + nd := ⟨_, rfl⟩
    have hws : IntKind.i64.wrap ((S : Int) + (nd : Int)) = (T : Int) := by rw [IntWalk.i64_in _ (by omega)]; omega
    have HT := hide hT
    have hRf := hide hrf
    clear hT hrf
    by_cases hbig : 65535 < T
    · have hbI : (65535 : Int) < (T : Int) := by omega
      have hE := hide (show pktE h = 3 by unfold pktE; rw [if_pos HR.out.symm, if_pos (by rw [← HND.out, ← HS.out, ← HT.out]; exact hbig)])
      have hBb := hide (show pktB h O D = [] by unfold pktB; rw [hE.out]; rfl)
      go_enter Try.func48, Try.ntmps48
      go_wp2_with fail
      refine (KR.out _).mono ?_
      rintro e w1 ⟨rfl, hb1⟩
      have B1 := hide hb1
      obtain ⟨g1, k10, k142⟩ := HC.out w1 hb1
      have HH := hide (And.intro g1 (And.intro k10 k142))
      clear hb1 g1 k10 k142
      go_wp2_with fail
      go_region_held3 (fun w' => w'.heap[w.heap.size]? = some (.cells X 36 (0, 0)) ∧ w'.cell? ⟨w.heap.size, 0, none⟩ = some (.bool v) ∧ w'.cell? ⟨w.heap.size, 42, none⟩ = some (.slice h.ad nd h.cd))
        (first | exact HH.out | assumption)
        (first
          | (go_at_call 76; (with_reducible refine (KS.out _).mono ?_); rintro e w2 ⟨rfl, hb2⟩; have B2 := hide (B1.out.trans ((below_undrew' hb2).mono B1.out.size)); have HR2 := HC.out w2 B2.out))
      clear HR2 hb2
      go_wp2_with fail
      go_ret2
      rw [hE.out, hBb.out]
      exact ⟨none, 0, rfl, OwnB.nil _ _, hB.out.trans (B2.out.mono hB.out.size)⟩
    · have hbI : ¬ (65535 : Int) < (T : Int) := by omega
      have hE := hide (show pktE h = 0 by unfold pktE; rw [if_pos HR.out.symm, if_neg (by rw [← HND.out, ← HS.out, ← HT.out]; exact hbig)])
      have hmk := fun W => make_bytes W T (by omega)
      rw [zerB_made] at hmk
      have hST : S ≤ T := by have := HT.out; omega
      have hSTi : (S : Int) ≤ (T : Int) := by omega
      go_enter Try.func48, Try.ntmps48
      go_wp2_with fail
      refine (KR.out _).mono ?_
      rintro e w1 ⟨rfl, hb1⟩
      have B1 := hide hb1
      obtain ⟨g1, k10, k142⟩ := HC.out w1 hb1
      have HH := hide (And.intro g1 (And.intro k10 k142))
      clear hb1 g1 k10 k142
      go_wp2_with fail
      go_region_held3 (fun w' => w'.heap[w.heap.size]? = some (.cells X 36 (0, 0)) ∧ w'.cell? ⟨w.heap.size, 0, none⟩ = some (.bool v) ∧ w'.cell? ⟨w.heap.size, 42, none⟩ = some (.slice h.ad nd h.cd))
        (first | exact HH.out | assumption)
        (first
          | (go_at_call 76; (with_reducible refine (KS.out _).mono ?_); rintro e w2 ⟨rfl, hb2⟩; have B2 := hide (B1.out.trans ((below_undrew' hb2).mono B1.out.size)); have HR2 := HC.out w2 B2.out))
      have HR2 := hide HR2
      clear hb2
      obtain ⟨W3, hW3⟩ : ∃ W3, W3 = w2.alloc (.cells ((zerB T).map byteV).toArray 5) := ⟨_, rfl⟩
      have B3 := hide (show Below (w.alloc (.cells X 36)).heap.size (w.alloc (.cells X 36)) W3 by rw [hW3]; exact B2.out.alloc B2.out.size _)
      have g3 : W3.heap[w2.heap.size]? = some (.cells ((zerB T).map byteV).toArray 5 (0, 0)) := by rw [hW3]; exact heap_alloc_new w2 _
      have G3 := hide g3
      have h30 := (HC.out W3 B3.out).2.1
      rw [hW3] at h30
      clear g3
      obtain ⟨g, hg⟩ : ∃ g, g = w2.heap.size := ⟨_, rfl⟩
      have HG := hide hg
      obtain ⟨PB, hPB⟩ : ∃ PB, PB = if h.v then sixB h (zerB (sizeN h + h.nd)) else fourB h (zerB (sizeN h + h.nd)) O (sizeN h) := ⟨_, rfl⟩
      have hTT : sizeN h + h.nd = T := by rw [← HS.out, ← HND.out, ← HT.out]
      have HPL : Hid (PB.length = T) := hide (by
        rw [hPB, hTT]
        have hz : (zerB T).length = T := by simp [zerB]
        have hsz := HS.out
        unfold sizeN at hsz
        split at hsz
        · rename_i hv; rw [if_pos hv, length_sixB x.ls x.ld (by rw [hz]; omega), hz]
        · rename_i hv; rw [if_neg hv, length_fourB x.ls x.ld (by rw [hz, HOl.out]; omega), hz])
      have HPB : Hid (pktB h O D = splice PB S D) := hide (by unfold pktB; rw [if_pos hE.out, ← hPB, ← HS.out])
      have KP : Hid (∀ W4 : World, Below w.heap.size w W4 → W4.heap[g]? = some (.cells ((zerB T).map byteV).toArray 5 (0, 0)) → Calls Try.prog (if v then 77 else 78) #[.slice (some ⟨g, 0, none⟩) S T, .agg X] W4 fun e w' => e = .returned (.tuple #[]) ∧ w'.heap[g]? = some (.cells (PB.map byteV).toArray 5 (0, 0)) ∧ W4.grownBy w' (some g)) := hide (fun W4 hb4 hg4 => by
        obtain ⟨f1, f2, f3, f4, f5⟩ := hRf.out
        have hz : (zerB T).length = T := by simp [zerB]
        rw [hPB, hTT]
        have hsz := HS.out
        have hnd' := HND.out
        have ht := HT.out
        have hgb : w.heap.size ≤ g := by rw [HG.out]; exact Nat.le_trans hB.out.size B2.out.size
        rw [HV.out]
        unfold sizeN at hsz
        cases hv : h.v
        · simp only [hv] at hsz
          obtain ⟨i1, i2, i3⟩ := f5 hv
          have hs' : S = 20 + h.no := by simpa using hsz
          rw [← HS.out]
          exact putfour_any W4 g S T 5 X h x (zerB T) O hg4 hs' (by rw [hz]; omega) (by omega) f3 f1 f2 i1 i2 i3 (by omega) ((HO.out.keep fun p hp => hb4.cell hp).more hgb) HOl.out
        · simp only [hv] at hsz
          have hs' : S = 40 := by simpa using hsz
          rw [hs']
          exact putsix_any W4 g T 5 X h x (zerB T) hg4 (by rw [hz]; omega) (by omega) f3 f1 f2 (f4 hv) (by omega))
      rw [← hg] at G3
      clear hPB hTT hg
      cases v
      · have KQ : Hid (∀ W4 : World, Below w.heap.size w W4 → W4.heap[g]? = some (.cells ((zerB T).map byteV).toArray 5 (0, 0)) → Calls Try.prog 78 #[.slice (some ⟨g, 0, none⟩) S T, .agg X] W4 fun e w' => e = .returned (.tuple #[]) ∧ w'.heap[g]? = some (.cells (PB.map byteV).toArray 5 (0, 0)) ∧ W4.grownBy w' (some g)) := KP
        go_wp2_with fail
        rw [← hW3, ← HG.out]
        have HH3 := hide (HC.out W3 B3.out)
        have R3 : Hid (W3.heap.size = w2.heap.size + 1) := hide (by rw [hW3]; simp)
        clear hW3 h30 KP
        go_region_held3 (fun w' => w'.heap[w.heap.size]? = some (.cells X 36 (0, 0)))
          (first | exact HH3.out.1 | assumption)
          (first
            | (go_at_call 76; (with_reducible refine (KS.out _).mono ?_); rintro e w4 ⟨rfl, hb4⟩; have q4 : Hid (Below W3.heap.size W3 w4) := hide (below_undrew' hb4); have B4 := hide (B3.out.trans (q4.out.mono B3.out.size)); have HR4 := (HC.out w4 B4.out).1; have G4 := hide (row_kept q4.out (by have := R3.out; have := HG.out; omega) G3.out))
            | (go_at_call 78; (refine (KQ.out _ (hB.out.trans (B4.out.mono hB.out.size)) G4.out).mono ?_); rintro e w5 ⟨rfl, hg5, hgr5⟩; have G5 := hide hg5; have R5 := hide hgr5; have HR5 := (R5.out.block w.heap.size (by have := hB.out; have := B4.out.size; have := hZ.out; omega) (by have := HG.out; have := B2.out.size; have := hZ.out; simp; omega)).trans HR4))
        obtain ⟨b5, k542⟩ := And.intro ((hB.out.trans (B4.out.mono hB.out.size)).grown R5.out (Nat.le_trans hB.out.size B4.out.size) (fun k hk => by cases hk; have := HG.out; have := B2.out.size; have := hB.out.size; omega)) (x.cells HR5).c42
        rw [← HND.out] at k542
        have B5 := hide b5
        have HR5' := hide HR5
        have hl5 : w5.heap.size ≥ g + 1 := (Array.getElem?_eq_some_iff.1 G5.out).1
        have HL5 : Hid (g < w5.heap.size) := hide hl5
        have HXL : Hid (w.heap.size < w5.heap.size) := hide (Array.getElem?_eq_some_iff.1 HR5).1
        obtain ⟨dp, hdp⟩ : ∃ d, (if T = S then some (⟨g, 0, none⟩ : Addr) else some ⟨g, S, none⟩) = d := ⟨_, rfl⟩
        have HDP : Hid (0 < nd → dp = some ⟨g, S, none⟩) := hide (fun hp => by rw [← hdp, if_neg (by have := HT.out; omega)])
        clear hg5 hgr5 HR4 hb4 b5 HR5 hl5
        have d5 : w5.drew.heap[w.heap.size]? = some (.cells X 36 (0, 0)) := HR5'.out
        have d542 : w5.drew.cell? ⟨w.heap.size, 42, none⟩ = some (.slice h.ad nd h.cd) := k542
        go_wp2_with fail
        go_region_law (first
          | (go_simp; go_at_call 76; refine (KS.out _).mono ?_; rintro e w6 ⟨rfl, hb6⟩
             have q6 : Hid (Below w5.heap.size w5 w6) := hide (below_undrew' hb6)
             have r6 := row_kept q6.out HXL.out HR5'.out
             have k642 := (x.cells r6).c42
             rw [← HND.out] at k642
             have G6 := hide (row_kept q6.out HL5.out G5.out)
             have D6 := hide ((HD.out.keep fun p hp => B5.out.cell hp).keep fun p hp => (q6.out.mono B5.out.size).cell hp))
          | (refine step_copy_bytes rfl (.tmp 36) (.tmp 38) rfl g S dp (T - S) (T - S) h.ad nd h.cd PB D w.heap.size 5 (by rfl) HDP.out (by rfl) (HDl.out.trans HND.out.symm) G6.out D6.out (by have := HT.out; omega) (by rw [HPL.out, HT.out]; exact Nat.le_refl _) ?_; intro w7 hg7 hgr7)
          | fail)
        all_goals (
          have hown : OwnB w7 w.heap.size (.slice (some ⟨g, 0, none⟩) (pktB h O D).length T) (pktB h O D) := by
            have hl : (splice PB S D).length = T := by rw [length_splice _ _ _ (by rw [HPL.out, HDl.out, ← HND.out]; have := HT.out; omega), HPL.out]
            rw [HPB.out]
            refine ⟨by simp, .inr ⟨g, T, _, rfl, by rw [HG.out]; exact Nat.le_trans hB.out.size B2.out.size, hg7, by omega, by unfold maxLen; omega, by simp [hl], ?_⟩⟩
            rw [Nat.mul_one]
            exact List.take_of_length_le (by simp)
          have hb7 : Below w.heap.size w w7 := (B5.out.trans (q6.out.mono B5.out.size)).grown hgr7 (Nat.le_trans B5.out.size q6.out.size) (fun k hk => by cases hk; rw [HG.out]; exact Nat.le_trans hB.out.size B2.out.size)
          have hlen : Hid ((pktB h O D).length = T) := hide (by rw [HPB.out, length_splice _ _ _ (by rw [HPL.out, HDl.out, ← HND.out]; have := HT.out; omega), HPL.out])
          rw [hlen.out] at hown
          have HW7 := hide hown
          have HB7 := hide hb7
          clear hown hb7 hg7 hgr7 r6 k642 hb6 d5 d542
          go_wp2_with fail
          go_ret2
          rw [hE.out]
          exact ⟨some ⟨g, 0, none⟩, T, by rw [hlen.out]; rfl, by rw [hlen.out]; exact HW7.out, HB7.out⟩)
      · have KQ : Hid (∀ W4 : World, Below w.heap.size w W4 → W4.heap[g]? = some (.cells ((zerB T).map byteV).toArray 5 (0, 0)) → Calls Try.prog 77 #[.slice (some ⟨g, 0, none⟩) S T, .agg X] W4 fun e w' => e = .returned (.tuple #[]) ∧ w'.heap[g]? = some (.cells (PB.map byteV).toArray 5 (0, 0)) ∧ W4.grownBy w' (some g)) := KP
        go_wp2_with fail
        rw [← hW3, ← HG.out]
        have HH3 := hide (HC.out W3 B3.out)
        have R3 : Hid (W3.heap.size = w2.heap.size + 1) := hide (by rw [hW3]; simp)
        clear hW3 h30 KP
        go_region_held3 (fun w' => w'.heap[w.heap.size]? = some (.cells X 36 (0, 0)))
          (first | exact HH3.out.1 | assumption)
          (first
            | (go_at_call 76; (with_reducible refine (KS.out _).mono ?_); rintro e w4 ⟨rfl, hb4⟩; have q4 : Hid (Below W3.heap.size W3 w4) := hide (below_undrew' hb4); have B4 := hide (B3.out.trans (q4.out.mono B3.out.size)); have HR4 := (HC.out w4 B4.out).1; have G4 := hide (row_kept q4.out (by have := R3.out; have := HG.out; omega) G3.out))
            | (go_at_call 77; (refine (KQ.out _ (hB.out.trans (B4.out.mono hB.out.size)) G4.out).mono ?_); rintro e w5 ⟨rfl, hg5, hgr5⟩; have G5 := hide hg5; have R5 := hide hgr5; have HR5 := (R5.out.block w.heap.size (by have := hB.out; have := B4.out.size; have := hZ.out; omega) (by have := HG.out; have := B2.out.size; have := hZ.out; simp; omega)).trans HR4))
        obtain ⟨b5, k542⟩ := And.intro ((hB.out.trans (B4.out.mono hB.out.size)).grown R5.out (Nat.le_trans hB.out.size B4.out.size) (fun k hk => by cases hk; have := HG.out; have := B2.out.size; have := hB.out.size; omega)) (x.cells HR5).c42
        rw [← HND.out] at k542
        have B5 := hide b5
        have HR5' := hide HR5
        have hl5 : w5.heap.size ≥ g + 1 := (Array.getElem?_eq_some_iff.1 G5.out).1
        have HL5 : Hid (g < w5.heap.size) := hide hl5
        have HXL : Hid (w.heap.size < w5.heap.size) := hide (Array.getElem?_eq_some_iff.1 HR5).1
        obtain ⟨dp, hdp⟩ : ∃ d, (if T = S then some (⟨g, 0, none⟩ : Addr) else some ⟨g, S, none⟩) = d := ⟨_, rfl⟩
        have HDP : Hid (0 < nd → dp = some ⟨g, S, none⟩) := hide (fun hp => by rw [← hdp, if_neg (by have := HT.out; omega)])
        clear hg5 hgr5 HR4 hb4 b5 HR5 hl5
        have d5 : w5.drew.heap[w.heap.size]? = some (.cells X 36 (0, 0)) := HR5'.out
        have d542 : w5.drew.cell? ⟨w.heap.size, 42, none⟩ = some (.slice h.ad nd h.cd) := k542
        go_wp2_with fail
        go_region_law (first
          | (go_simp; go_at_call 76; refine (KS.out _).mono ?_; rintro e w6 ⟨rfl, hb6⟩
             have q6 : Hid (Below w5.heap.size w5 w6) := hide (below_undrew' hb6)
             have r6 := row_kept q6.out HXL.out HR5'.out
             have k642 := (x.cells r6).c42
             rw [← HND.out] at k642
             have G6 := hide (row_kept q6.out HL5.out G5.out)
             have D6 := hide ((HD.out.keep fun p hp => B5.out.cell hp).keep fun p hp => (q6.out.mono B5.out.size).cell hp))
          | (refine step_copy_bytes rfl (.tmp 36) (.tmp 38) rfl g S dp (T - S) (T - S) h.ad nd h.cd PB D w.heap.size 5 (by rfl) HDP.out (by rfl) (HDl.out.trans HND.out.symm) G6.out D6.out (by have := HT.out; omega) (by rw [HPL.out, HT.out]; exact Nat.le_refl _) ?_; intro w7 hg7 hgr7)
          | fail)
        all_goals (
          have hown : OwnB w7 w.heap.size (.slice (some ⟨g, 0, none⟩) (pktB h O D).length T) (pktB h O D) := by
            have hl : (splice PB S D).length = T := by rw [length_splice _ _ _ (by rw [HPL.out, HDl.out, ← HND.out]; have := HT.out; omega), HPL.out]
            rw [HPB.out]
            refine ⟨by simp, .inr ⟨g, T, _, rfl, by rw [HG.out]; exact Nat.le_trans hB.out.size B2.out.size, hg7, by omega, by unfold maxLen; omega, by simp [hl], ?_⟩⟩
            rw [Nat.mul_one]
            exact List.take_of_length_le (by simp)
          have hb7 : Below w.heap.size w w7 := (B5.out.trans (q6.out.mono B5.out.size)).grown hgr7 (Nat.le_trans B5.out.size q6.out.size) (fun k hk => by cases hk; rw [HG.out]; exact Nat.le_trans hB.out.size B2.out.size)
          have hlen : Hid ((pktB h O D).length = T) := hide (by rw [HPB.out, length_splice _ _ _ (by rw [HPL.out, HDl.out, ← HND.out]; have := HT.out; omega), HPL.out])
          rw [hlen.out] at hown
          have HW7 := hide hown
          have HB7 := hide hb7
          clear hown hb7 hg7 hgr7 r6 k642 hb6 d5 d542
          go_wp2_with fail
          go_ret2
          rw [hE.out]
          exact ⟨some ⟨g, 0, none⟩, T, by rw [hlen.out]; rfl, by rw [hlen.out]; exact HW7.out, HB7.out⟩)
end Go.Proofs.Ytcagdcjikbkapaa
