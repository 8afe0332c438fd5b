/-
  A store asked: how many live, how many of one backend; is one busy, until when it may be used; one that is not there.
-/
import Derived.Test.YtbkipfmnbfjkcaaVt
namespace Go.Proofs.Ytbkipfmnbfjkcaa
open Go.RowKit
set_option maxRecDepth 100000
set_option linter.unusedVariables false
set_option linter.unusedSimpArgs false
attribute [local go_sem ↓] exec_span exec_put exec_build heap_alloc_new heap_old
attribute [local go_sem] spanQ_ptr spanC_some heap_of_drew heap_of_drewN putAt_ptr putOk_ptr oldOk_some World.setRow_alloc_new rs_Flow rs_Pin rs_Com rs_Sto rs_Que rs_tup built_pin0 built_com built_pin pinZ_lit tkZ_lit
theorem built_que (now : Int) (f : FuncId) (caps : Array Value) : Try.prog.built 105 [(0, .int .i64 now), (1, .func (.func f) #[] caps)] = some #[.int .i64 now, .func (.func f) #[] caps] := by kernel_rfl
attribute [local go_sem] built_que
/-- how many live. -/
def lenL (now : Int) (l : List PinR) : Nat := (l.filter (fun q => liveB q.f now)).length
def cntL (b g now : Int) (l : List PinR) : Nat := (l.filter (fun q => liveB q.f now && (q.b == b && q.g == g))).length
def busyL (b g now : Int) (l : List PinR) (u : List ((Int × Int) × Int)) : Bool := (lookU (b, g) u).isSome && decide (now ≤ (lookU (b, g) u).getD 0) || decide (0 < cntL b g now l)
section
variable {w : World} {p bp bu : Nat} {most : Int} {l : List PinR} {u : List ((Int × Int) × Int)}
set_option maxHeartbeats 2000000 in
theorem lenS_any (h : StoS w p bp bu most l u) (hlen : l.length ≤ 100000) (now : Int) :
    Calls Try.prog 33 #[.pointer (some ⟨p, 0, none⟩), .int .i64 now] w (RetV w (.int .i64 (lenL now l : Int))) := by
  have KA := hide (answerA_any h hlen now)
  have HE : Hid (lenL now l = (l.filter (fun q => liveB q.f now && true)).length) := hide (by unfold lenL; simp)
  obtain ⟨N, hN⟩ : ∃ N, N = lenL now l := ⟨_, rfl⟩
  rw [← hN] at HE ⊢
  clear h hlen hN
  go_enter Try.func33, Try.ntmps33
  go_wp2_with fail
  go_at_call 54
  with_reducible refine KA.out.mono ?_
  rintro e w2 ⟨A, c, R, rfl, hp, -, hb⟩
  have HL : Hid (R.length = N) := hide (by rw [HE.out]; exact hp.length_eq)
  have HB := hide hb
  clear hb hp
  obtain ⟨n, hn⟩ : ∃ n, n = R.length := ⟨_, rfl⟩
  rw [← hn] at HL ⊢
  clear hn
  go_wp2
  go_ret
  exact ⟨by rw [← HL.out]; rfl, HB.out⟩
set_option maxHeartbeats 2000000 in
theorem cntS_any (h : StoS w p bp bu most l u) (hlen : l.length ≤ 100000) (b g now : Int) :
    Calls Try.prog 34 #[.pointer (some ⟨p, 0, none⟩), .int .i64 b, .int .i64 g, .int .i64 now] w (RetV w (.int .i64 (cntL b g now l : Int))) := by
  obtain ⟨w1, hw1, r1, z1, b1⟩ := alloc_nm w (.cells #[.int .i64 b] 3)
  obtain ⟨w2, hw2, r2, z2, b2⟩ := alloc_nm w1 (.cells #[.int .i64 g] 2)
  have B2 : Below w.heap.size w w2 := b1.trans (b2.mono b1.size)
  have KA := hide (answerC_any (h.below B2) hlen now w.heap.size w1.heap.size b g ((cell_of_row w2 _ 0 _ _ (0, 0) (keepB b2 r1)).trans rfl) ((cell_of_row w2 _ 0 _ _ (0, 0) r2).trans rfl) (by omega) (by omega))
  have HE : Hid (cntL b g now l = (l.filter (fun q => liveB q.f now && (q.b == b && q.g == g))).length) := hide rfl
  obtain ⟨N, hN⟩ : ∃ N, N = cntL b g now l := ⟨_, rfl⟩
  rw [← hN] at HE ⊢
  have HB2 := hide B2
  clear h hlen hN b1 b2 z1 z2 r1 r2 B2
  go_enter Try.func34, Try.ntmps34
  go_wp2_with fail
  go_at_call 54
  with_reducible refine KA.out.mono ?_
  rintro e w3 ⟨A, c, R, rfl, hp, -, hb⟩
  have HL : Hid (R.length = N) := hide (by rw [HE.out]; exact hp.length_eq)
  have HB := hide (HB2.out.trans (hb.mono HB2.out.size))
  clear hb hp
  obtain ⟨n, hn⟩ : ∃ n, n = R.length := ⟨_, rfl⟩
  rw [← hn] at HL ⊢
  clear hn
  go_wp2
  go_ret
  exact ⟨by rw [← HL.out]; rfl, HB.out⟩
set_option maxHeartbeats 2000000 in
theorem untS_any (h : StoS w p bp bu most l u) (b g : Int) :
    Calls Try.prog 37 #[.pointer (some ⟨p, 0, none⟩), .int .i64 b, .int .i64 g] w (RetV w (.int .i64 ((lookU (b, g) u).getD 0))) := by
  have hl := unt_look h (b, g) false
  have c2 : w.cell? ⟨p, 2, none⟩ = some (.map (some bu)) := (cell_of_row w p 2 _ _ (0, 0) h.blk).trans rfl
  simp only [Bool.false_eq_true, if_false] at hl
  generalize (lookU (b, g) u).getD 0 = z at hl ⊢
  clear h
  go_enter Try.func37, Try.ntmps37
  go_wp2
  go_ret
  exact ⟨rfl, Below.refl _ _⟩
set_option maxHeartbeats 2000000 in
theorem busyS_any (h : StoS w p bp bu most l u) (hlen : l.length ≤ 100000) (b g now : Int) :
    Calls Try.prog 31 #[.pointer (some ⟨p, 0, none⟩), .int .i64 b, .int .i64 g, .int .i64 now] w (RetV w (.bool (busyL b g now l u))) := by
  have hl := unt_look h (b, g) true
  have c2 : w.cell? ⟨p, 2, none⟩ = some (.map (some bu)) := (cell_of_row w p 2 _ _ (0, 0) h.blk).trans rfl
  have KC := hide (cntS_any h hlen b g now)
  simp only [if_true] at hl
  have HE : Hid (busyL b g now l u = ((lookU (b, g) u).isSome && decide (now ≤ (lookU (b, g) u).getD 0) || decide (0 < cntL b g now l))) := hide rfl
  obtain ⟨B, hB⟩ : ∃ B, B = busyL b g now l u := ⟨_, rfl⟩
  rw [← hB] at HE ⊢
  generalize (lookU (b, g) u).getD 0 = z at hl HE
  generalize (lookU (b, g) u).isSome = ok at hl HE
  generalize cntL b g now l = n at KC HE
  have HR := hide (Below.refl w.heap.size w)
  clear h hB hlen
  cases ok
  · have HE2 : Hid (B = decide (0 < n)) := hide (by rw [HE.out]; simp)
    clear HE
    go_enter Try.func31, Try.ntmps31
    go_wp2_with (first | (go_at_call 34; (with_reducible refine KC.out.mono ?_); rintro e w2 ⟨rfl, hb⟩; have HB := hide hb; clear hb; dsimp only) | fail)
    all_goals go_ret
    all_goals exact ⟨ret_bool (by first | (rw [HE2.out]; done) | (rw [HE2.out]; simp)), HB.out⟩
  · by_cases hz : now ≤ z
    · have d1 : decide (z ≥ now) = true := by simpa using hz
      have HE2 : Hid (B = true) := hide (by rw [HE.out]; simp [hz])
      clear HE hz
      go_enter Try.func31, Try.ntmps31
      go_wp2_with fail
      go_ret
      exact ⟨ret_bool HE2.out.symm, HR.out⟩
    · have d1 : decide (z ≥ now) = false := by simpa using hz
      have HE2 : Hid (B = decide (0 < n)) := hide (by rw [HE.out]; simp [hz])
      clear HE hz
      go_enter Try.func31, Try.ntmps31
      go_wp2_with (first | (go_at_call 34; (with_reducible refine KC.out.mono ?_); rintro e w2 ⟨rfl, hb⟩; have HB := hide hb; clear hb; dsimp only) | fail)
      all_goals go_ret
      all_goals exact ⟨ret_bool (by first | (rw [HE2.out]; done) | (rw [HE2.out]; simp)), HB.out⟩
end
end Go.Proofs.Ytbkipfmnbfjkcaa
