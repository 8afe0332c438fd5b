/-
  The walks of the document's own Put: a segment that can't be, one that is too long; whatever segment.
-/
import Derived.Test.YtcfckhdohcaffaaLs
namespace Go.Proofs.Ytcfckhdohcaffaa
open Go.RowKit
attribute [local go_sem ↓] exec_span exec_put exec_build heap_alloc_new heap_old heap_alloc_drew
attribute [local go_sem] spanQ_ptr spanC_some heap_of_drew heap_of_drewN rs_arr rs_ad rs_ip rs_rip rs_seg rs_rseg putAt_ptr putOk_ptr oldOk_some World.setRow_alloc_new setRow_drew
set_option maxRecDepth 100000
set_option linter.unusedVariables false
set_option linter.unusedSimpArgs false

set_option maxHeartbeats 1600000 in
theorem refputP_any (w : World) (X Y : Array Value) (h : Ip) (s : Sg) (x : IpV X h) (y : SgV Y s) (hbad : ¬ ((h.p = 6 ∨ h.p = 17) ∧ s.p = h.p)) :
    Calls Try.prog 10 #[.agg X, .agg Y] w fun e w' => e = .returned (.tuple #[.slice none 0 0, .int .i64 14]) ∧ Below w.heap.size w w' := by
  obtain ⟨W, hW⟩ : ∃ W, (w.alloc (.cells X 27)).alloc (.cells Y 30) = W := ⟨_, rfl⟩
  obtain ⟨r1, r2, hz, hbW⟩ := two_packs w X _ _ _ W hW
  have hxs := x.size
  have hys := y.size
  have c35 := (x.cells r1).c35
  have d0 := (y.cells r2).c0
  obtain ⟨hp, hhp⟩ : ∃ v, v = h.p := ⟨_, rfl⟩
  obtain ⟨sp, hsp⟩ : ∃ v, v = s.p := ⟨_, rfl⟩
  rw [← hhp] at c35 hbad
  rw [← hsp] at d0 hbad
  have HB := hide hbW
  have HW := hide hW
  have key : ((hp != 6) = true ∧ (hp != 17) = true) ∨ (hp = 6 ∧ (sp != 6) = true) ∨ (hp = 17 ∧ (sp != 17) = true) := by
    by_cases h6 : hp = 6
    · subst h6; exact .inr (.inl ⟨rfl, by simpa using hbad⟩)
    · by_cases h17 : hp = 17
      · subst h17; exact .inr (.inr ⟨rfl, by simpa using hbad⟩)
      · exact .inl ⟨by simpa using h6, by simpa using h17⟩
  clear hz hbW hW x y hhp hsp hbad
  rcases key with ⟨q1, q2⟩ | ⟨rfl, q1⟩ | ⟨rfl, q1⟩
  all_goals (
    go_enter Try.func10, Try.ntmps10
    go_upto_region 1 with (fail)
    change Code.wp _ _ _ _ ((w.alloc (.cells X 27)).alloc (.cells Y 30))
    rw [HW.out]
    go_wp2
    go_ret2
    exact ⟨rfl, HB.out⟩)

set_option maxHeartbeats 1600000 in
theorem refputA_any (w : World) (X Y : Array Value) (h : Ip) (s : Sg) (x : IpV X h) (y : SgV Y s) (p : Int) (hp : p = h.p) (hpp : p = 6 ∨ p = 17) (sp : s.p = h.p) (hbad : rightR5 h s = false) :
    Calls Try.prog 10 #[.agg X, .agg Y] w fun e w' => e = .returned (.tuple #[.slice none 0 0, .int .i64 1]) ∧ Below w.heap.size w w' := by
  obtain ⟨W, hW⟩ : ∃ W, (w.alloc (.cells X 27)).alloc (.cells Y 30) = W := ⟨_, rfl⟩
  obtain ⟨r1, r2, hz, hbW⟩ := two_packs w X _ _ _ W hW
  have hxs := x.size
  have hxr := x.x0
  have hys := y.size
  have hyr := y.x0
  have KR := hide (fun W1 => refright5_any W1 X Y h s x y)
  rw [hbad] at KR
  have c35 := (x.cells r1).c35
  have d0 := (y.cells r2).c0
  rw [← hp] at c35
  rw [sp, ← hp] at d0
  have HB := hide hbW
  have HW := hide hW
  clear hz hbW hW x y hp sp hbad
  rcases hpp with rfl | rfl
  all_goals (
    go_enter Try.func10, Try.ntmps10
    go_upto_region 1 with (fail)
    change Code.wp _ _ _ _ ((w.alloc (.cells X 27)).alloc (.cells Y 30))
    rw [HW.out]
    go_wp2_with fail
    refine (KR.out W).mono ?_
    rintro e w1 ⟨rfl, b1⟩
    have B1 : Hid (Below W.heap.size W w1) := hide b1
    clear b1
    dsimp only
    go_wp2
    go_ret2
    exact ⟨rfl, HB.out.trans (B1.out.mono HB.out.size)⟩)

set_option maxHeartbeats 1600000 in
theorem refputZ_any (w : World) (X Y : Array Value) (h : Ip) (s : Sg) (x : IpV X h) (y : SgV Y s) (p : Int) (hp : p = h.p) (hpp : p = 6 ∨ p = 17) (sp : s.p = h.p) (hno : p = 6 → s.no ≤ 40) (hnd : s.nd ≤ 140737488355328) (hr : rightR5 h s = true) (hbig : 65535 < hdN s + s.nd) :
    Calls Try.prog 10 #[.agg X, .agg Y] w fun e w' => e = .returned (.tuple #[.slice none 0 0, .int .i64 3]) ∧ Below w.heap.size w w' := by
  obtain ⟨W, hW⟩ : ∃ W, (w.alloc (.cells X 27)).alloc (.cells Y 30) = W := ⟨_, rfl⟩
  obtain ⟨r1, r2, hz, hbW⟩ := two_packs w X _ _ _ W hW
  have hxs := x.size
  have hxr := x.x0
  have hys := y.size
  have hyr := y.x0
  have KR := hide (fun W1 => refright5_any W1 X Y h s x y)
  rw [hr] at KR
  have hkeep := hide (fun (W1 : World) (b : Below W.heap.size W W1) => ((b.block (w.heap.size + 1) (by omega)).trans r2 : W1.heap[w.heap.size + 1]? = some (.cells Y 30 (0, 0))))
  have HY := hide (fun (W1 : World) (b : Below W.heap.size W W1) => y.cells (hkeep.out W1 b))
  have c35 := (x.cells r1).c35
  have d0 := (y.cells r2).c0
  rw [← hp] at c35
  rw [sp, ← hp] at d0
  obtain ⟨nd, hnd'⟩ : ∃ v, v = s.nd := ⟨_, rfl⟩
  obtain ⟨no, hno'⟩ : ∃ v, v = s.no := ⟨_, rfl⟩
  have hbg : (p = 6 → 65535 < 20 + no + nd ∧ no ≤ 40) ∧ (p = 17 → 65535 < 8 + nd) := by
    unfold hdN at hbig
    rw [← hno', ← hnd'] at hbig
    rw [← hno'] at hno
    refine ⟨fun e => ?_, fun e => ?_⟩
    · rw [if_pos (by omega)] at hbig; exact ⟨hbig, hno e⟩
    · rw [if_neg (by omega)] at hbig; exact hbig
  rw [← hnd'] at hnd
  have HC := hide (fun (W1 : World) (b : Below W.heap.size W W1) => (⟨(HY.out W1 b).c0, (HY.out W1 b).c9, (HY.out W1 b).c10⟩ : W1.cell? ⟨w.heap.size + 1, 0, none⟩ = some (.int .i64 s.p) ∧ W1.cell? ⟨w.heap.size + 1, 9, none⟩ = some (.slice s.ao s.no s.co) ∧ W1.cell? ⟨w.heap.size + 1, 10, none⟩ = some (.slice s.ad s.nd s.cd)))
  rw [sp, ← hp, ← hno', ← hnd'] at HC
  have HB := hide hbW
  have HW := hide hW
  clear hz hbW hW x y hp sp hbig hno hno' hnd' hkeep HY
  rcases hpp with rfl | rfl
  · obtain ⟨hb1, hb2⟩ := hbg.1 rfl
    have hw20 : IntKind.i64.wrap (20 + (no : Int)) = 20 + (no : Int) := IntWalk.i64_in _ (by omega)
    have hws : IntKind.i64.wrap (65535 - (20 + (no : Int))) = 65535 - (20 + (no : Int)) := IntWalk.i64_in _ (by omega)
    have hgt : 65535 - (20 + (no : Int)) < (nd : Int) := by omega
    clear hbg
    go_enter Try.func10, Try.ntmps10
    go_upto_region 1 with (fail)
    change Code.wp _ _ _ _ ((w.alloc (.cells X 27)).alloc (.cells Y 30))
    rw [HW.out]
    go_wp2_with fail
    refine (KR.out W).mono ?_
    rintro e w1 ⟨rfl, b1⟩
    have B1 : Hid (Below W.heap.size W w1) := hide b1
    obtain ⟨e0, e9, e10⟩ := HC.out w1 b1
    clear b1
    dsimp only
    go_wp2
    go_ret2
    exact ⟨rfl, HB.out.trans (B1.out.mono HB.out.size)⟩
  · have hb1 := hbg.2 rfl
    have hws : IntKind.i64.wrap (65535 - 8) = 65527 := by rfl
    have hgt : (65527 : Int) < (nd : Int) := by omega
    clear hbg
    go_enter Try.func10, Try.ntmps10
    go_upto_region 1 with (fail)
    change Code.wp _ _ _ _ ((w.alloc (.cells X 27)).alloc (.cells Y 30))
    rw [HW.out]
    go_wp2_with fail
    refine (KR.out W).mono ?_
    rintro e w1 ⟨rfl, b1⟩
    have B1 : Hid (Below W.heap.size W w1) := hide b1
    obtain ⟨e0, e9, e10⟩ := HC.out w1 b1
    clear b1
    dsimp only
    go_wp2
    go_ret2
    exact ⟨rfl, HB.out.trans (B1.out.mono HB.out.size)⟩

/-- the document's Put of whatever segment, whatever packet it is within. -/
theorem refputS_any (w : World) (X Y : Array Value) (h : Ip) (s : Sg) (x : IpV X h) (y : SgV Y s) (O D : List UInt8) (hO : Byt w w.heap.size s.ao O) (hOl : O.length = s.no) (honil : s.ao = none → s.co = 0) (hD : Byt w w.heap.size s.ad D) (hDl : D.length = s.nd) (hnil : s.ad = none → s.cd = 0) (hnd : s.nd ≤ 140737488355328) :
    Calls Try.prog 10 #[.agg X, .agg Y] w fun e w' => ∃ A c, e = .returned (.tuple #[.slice A (putB h s O D).length c, .int .i64 (putE h s)]) ∧ OwnB w' w.heap.size (.slice A (putB h s O D).length c) (putB h s O D) ∧ Below w.heap.size w w' := by
  have bad : ∀ E : Int, E ≠ 0 → putE h s = E → (Calls Try.prog 10 #[.agg X, .agg Y] w fun e w' => e = .returned (.tuple #[.slice none 0 0, .int .i64 E]) ∧ Below w.heap.size w w') → Calls Try.prog 10 #[.agg X, .agg Y] w fun e w' => ∃ A c, e = .returned (.tuple #[.slice A (putB h s O D).length c, .int .i64 (putE h s)]) ∧ OwnB w' w.heap.size (.slice A (putB h s O D).length c) (putB h s O D) ∧ Below w.heap.size w w' := fun E h0 hE hc => by
    have hB : putB h s O D = [] := by unfold putB; rw [if_neg (by rw [hE]; exact h0)]
    rw [hB, hE]
    exact hc.mono fun e w' ⟨h1, h2⟩ => ⟨none, 0, h1, OwnB.nil _ _, h2⟩
  by_cases hps : (h.p = 6 ∨ h.p = 17) ∧ s.p = h.p
  · obtain ⟨hp, sp⟩ := hps
    by_cases hk : rightS s = true ∧ (s.ns && h.v) = false
    · have hR := rightR5_of.2 hk
      by_cases hz : 65535 < hdN s + s.nd
      · exact bad 3 (by decide) (by unfold putE; rw [if_pos ⟨hp, sp⟩, if_pos hk, if_pos hz]) (refputZ_any w X Y h s x y h.p rfl hp sp (fun e => ((rightS_facts hk.1).2.2.1 (by rw [sp]; exact e)).2.2.2.1) hnd hR hz)
      · have hE : putE h s = 0 := by unfold putE; rw [if_pos ⟨hp, sp⟩, if_pos hk, if_neg hz]
        have hB : putB h s O D = segB h s O D := by unfold putB; rw [if_pos hE]
        have fin : (Calls Try.prog 10 #[.agg X, .agg Y] w fun e w' => ∃ v, e = .returned (.tuple #[v, .int .i64 0]) ∧ OwnB w' w.heap.size v (segB h s O D) ∧ Below w.heap.size w w') → _ := fun hc => hc.mono (R' := fun e w' => ∃ A c, e = .returned (.tuple #[.slice A (putB h s O D).length c, .int .i64 (putE h s)]) ∧ OwnB w' w.heap.size (.slice A (putB h s O D).length c) (putB h s O D) ∧ Below w.heap.size w w') fun e w' ⟨v, h1, h2, h3⟩ => by
          obtain ⟨A, c, rfl, -⟩ := h2.shape
          rw [hB, hE]
          exact ⟨A, c, h1, h2, h3⟩
        rcases hp with hp | hp
        · exact fin (refputT_any w X Y h s x y hp (by rw [sp]; exact hp) hk.1 hk.2 O D hO hOl honil hD hDl hnil (by omega))
        · exact fin (refputU_any w X Y h s x y hp (by rw [sp]; exact hp) hk.1 hk.2 O D hO hOl honil hD hDl hnil (by omega))
    · exact bad 1 (by decide) (by unfold putE; rw [if_pos ⟨hp, sp⟩, if_neg hk]) (refputA_any w X Y h s x y h.p rfl hp sp (by
        cases e : rightR5 h s
        · rfl
        · exact absurd (rightR5_of.1 e) hk))
  · exact bad 14 (by decide) (by unfold putE; rw [if_neg hps]) (refputP_any w X Y h s x y hps)
end Go.Proofs.Ytcfckhdohcaffaa
