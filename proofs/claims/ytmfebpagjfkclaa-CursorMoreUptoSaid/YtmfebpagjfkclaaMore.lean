/-
  The walk of the statement CursorMore: true; nothing that was there is written.
-/
import Derived.Test.YtmfebpagjfkclaaSame
import Derived.Test.YtmfebpagjfkclaaMorem
namespace Go.Proofs.Ytmfebpagjfkclaa
open Go.RowKit

set_option maxRecDepth 100000 in
set_option maxHeartbeats 4000000 in
theorem cursorMore_any (A B Al : Option Addr) (c d cl : Nat) (l m : List UInt8) (ops : List (Int × Int)) (w : World) (hl : l.length ≤ c) (_hm : m.length ≤ d) (hlen : l.length + m.length ≤ 140737488355328)
    (hb : Byt w w.heap.size A l) (hbm : Byt w w.heap.size B m) (hnil : A = none → c = 0) (hnil2 : B = none → d = 0) (hops : Ops w w.heap.size Al ops) (hno : ops.length ≤ 1099511627776) :
    Calls Try.prog 5 #[.slice A l.length c, .slice B m.length d, .slice Al ops.length cl] w fun e w' => e = .returned (.bool true) ∧ Below w.heap.size w w' := by
  obtain ⟨res, hres⟩ : ∃ res, res = runS l ops 0 := ⟨_, rfl⟩
  have C1 := hide (ops_any w Al cl ops hno hops)
  go_enter Try.func5, Try.ntmps5
  go_wp2_with fail
  refine C1.out.mono ?_
  rintro e w1 ⟨v1, rfl, ho1, hb1⟩
  obtain ⟨A1, c1, rfl, hops1, _⟩ := ho1.shape
  have C2 := run_any w1 A A1 l c c1 ops hl (by omega) ((hb.below hb1).more hb1.size) hops1 hno
  rw [← hres] at C2
  have hle := runS_le (b := l) ops 0 (Nat.zero_le _)
  have hlen1 := runS_len (b := l) ops 0
  have hmore := runS_more (b := l) (more := m) ops 0 (Nat.zero_le _)
  rw [← hres] at hle hlen1 hmore
  clear hres
  obtain ⟨its, n, er⟩ := res
  simp only at C2 hle hlen1 hmore
  have HC2 := hide C2
  have HM := hide hmore
  clear hmore ho1 hops1 C1 C2
  go_wp2_with fail
  refine HC2.out.mono ?_
  rintro e w2 ⟨vv, items, rfl, hov, hit, hb2'⟩
  have hb2 : Below w.heap.size w w2 := hb1.trans (hb2'.mono hb1.size)
  have hops2 : Ops w2 w2.heap.size Al ops := hops.keep hb2.size (fun p hp => hb2.cell hp)
  have HO := hide hov
  have HI := hide hit
  have HB2 := hide hb2
  clear hov hit hb2' hb1 HC2 hb2
  go_wp2
  go_loop [10] (fun i => ∃ j : Nat, j ≤ ops.length ∧ i = .int .i64 (j : Int) ∧ Hid (∀ k (h : k < ops.length), k < j → ops[k].1 ≠ 4)) (fun i => ops.length - (intOf i).toNat)
  case atStart => exact ⟨0, by omega, rfl, hide (fun k h h0 => by omega)⟩
  case round =>
    obtain ⟨j, hj, rfl, h4⟩ := hrel
    by_cases hlt : j < ops.length
    · obtain ⟨b, off, rfl, _, hcell⟩ := hops2 (by omega)
      obtain ⟨hk, hs⟩ := hcell j hlt
      obtain ⟨kd, hkd⟩ : ∃ kd, kd = ops[j].1 := ⟨_, rfl⟩
      rw [← hkd] at hk
      have hj0 : (0 : Int) ≤ (j : Int) := by omega
      have hj1 : (j : Int) < (ops.length : Int) := by omega
      by_cases hk4 : kd = 4
      · subst hk4
        have K := hide (knownC_any w2)
        clear hcell hs hkd
        go_wp2_with fail
        refine K.out.mono ?_
        rintro e w3 ⟨rfl, hb3⟩
        go_wp2
        go_ret
        exact ⟨rfl, HB2.out.trans (hb3.mono HB2.out.size)⟩
      · have hk4i : (kd == 4) = false := by simpa using hk4
        clear hcell hs
        have HKD := hide hkd
        clear hkd
        go_wp2
        go_round
        case rel => exact ⟨j + 1, by omega, by go_num, hide (fun k h hkj => by
          rcases Nat.lt_or_eq_of_le (Nat.le_of_lt_succ hkj) with h1 | h1
          · exact h4.out k h h1
          · subst h1; rw [← HKD.out]; exact hk4)⟩
        case measure => simp [intOf]; omega
    · obtain rfl : j = ops.length := by omega
      have h4a : ∀ o ∈ ops, o.1 ≠ 4 := fun o ho => by
        obtain ⟨k, hk, rfl⟩ := List.getElem_of_mem ho
        exact h4.out k hk hk
      have HM' := hide (HM.out h4a)
      clear HM h4 hlt h4a
      by_cases h10 : er = 10
      · subst h10
        have hnl : (n : Int) ≤ (l.length : Int) := by omega
        have K := hide (knownC_any w2)
        go_wp2_with fail
        refine K.out.mono ?_
        rintro e w3 ⟨rfl, hb3⟩
        go_wp2
        go_ret
        exact ⟨rfl, HB2.out.trans (hb3.mono HB2.out.size)⟩
      · have h10i : ((er : Int) == 10) = false := by simp; omega
        have hrun := HM'.out h10
        clear HM'
        obtain ⟨L, hL⟩ : ∃ L, L = l ++ m := ⟨_, rfl⟩
        have hLl : L.length ≤ 140737488355328 := by rw [hL]; simp; exact hlen
        have HL := hide hL
        rw [← hL] at hrun
        have HR := hide hrun
        clear hL hrun
        go_wp2_with (at_builtin; refine wpList_app_bytes rfl (.tmp 45) (.tmp 46) rfl w2.heap.size (.slice none 0 0) [] l w.heap.size c A rfl rfl (OwnB.nil _ _) (by exact hb.below HB2.out) hnil (by simp; omega) (by simp) ?_)
        intro v3 w3 hown3 hgr3 hat3
        have hb3 : Below w2.heap.size w2 w3 := (Below.refl _ _).grown hgr3 (by simp) (fun k hk => by simp [Value.ownBlock] at hk)
        go_wp2_with (at_builtin; refine wpList_app_bytes rfl (.tmp 48) (.tmp 49) rfl w2.heap.size v3 l m w.heap.size d B rfl rfl (by exact hown3) (by exact hbm.below (HB2.out.trans (hb3.mono HB2.out.size))) hnil2 hlen hb3.size ?_)
        intro v4 w4 hown4 hgr4 hat4
        have hb4 : Below w2.heap.size w2 w4 := hb3.grown hgr4 hb3.size (fun k hk => by
          rcases hat3 with e | e <;> rw [e] at hk <;> simp [Value.ownBlock] at hk; omega)
        rw [← HL.out] at hown4
        obtain ⟨A4, c4, rfl, hl4, hby4, _, _⟩ := hown4.shape
        have hops4 : Ops w4 w4.heap.size Al ops := hops2.keep hb4.size (fun p hp => hb4.cell hp)
        have C3 := hide (ops_any w4 Al cl ops hno hops4)
        have HB4 := hide hb4
        clear hown3 hown4 hgr3 hgr4 hat3 hat4 hb3 hb4 hops4
        go_wp2_with fail
        refine C3.out.mono ?_
        rintro e w5 ⟨v5, rfl, ho5, hb5⟩
        obtain ⟨A5, c5, rfl, hops5, _⟩ := ho5.shape
        have C4 := run_any w5 A4 A5 L c4 c5 ops hl4 hLl ((hby4.below hb5).more hb5.size) hops5 hno
        rw [HR.out] at C4
        simp only at C4
        have HC4 := hide C4
        have HB5 := hide (HB4.out.trans (hb5.mono HB4.out.size))
        clear C3 C4 ho5 hops5 hb5 HB4
        go_wp2_with fail
        refine HC4.out.mono ?_
        rintro e w6 ⟨vv2, items2, rfl, hov2, hit2, hb6⟩
        have hb6' : Below w2.heap.size w2 w6 := HB5.out.trans (hb6.mono HB5.out.size)
        obtain ⟨Av, cv, rfl, hrv, hrb⟩ := HO.out.reads
        obtain ⟨Av2, cv2, rfl, hrv2, hrb2⟩ := hov2.reads
        have hrv := hrv.keep hb6'.size (fun p hp => hb6'.cell hp)
        have hrb := hrb.keep hb6'.size (fun p hp => hb6'.cell hp)
        have hil : items.length ≤ 1099511627776 := by
          have e : items.length = its.length := by rw [← HI.out, List.length_map]
          omega
        have hil2 : items2.length ≤ 1099511627776 := by
          have e : items2.length = its.length := by rw [← hit2, List.length_map]
          omega
        have C5 := hide (told_any w6 Av cv items (by omega) hrv hrb)
        have HB6 := hide hb6'
        have HI2 := hide (HI.out.trans hit2.symm)
        clear HC4 HB5 hov2 hit2 hb6 hb6' HO
        go_wp2_with fail
        refine C5.out.mono ?_
        rintro e w7 ⟨t1, rfl, hr7, hb7⟩
        obtain ⟨A7, c7, rfl, hrd7⟩ := row_reads hr7
        have hrv2 := hrv2.keep hb7.size (fun p hp => hb7.cell hp)
        have hrb2 := hrb2.keep hb7.size (fun p hp => hb7.cell hp)
        have hrb := hrb.keep hb7.size (fun p hp => hb7.cell hp)
        have C6 := hide (told_any w7 Av2 cv2 items2 (by omega) hrv2 hrb2)
        have HB7 := hide (HB6.out.trans (hb7.mono HB6.out.size))
        clear C5 hr7 hb7 HB6
        go_wp2_with fail
        refine C6.out.mono ?_
        rintro e w8 ⟨t2, rfl, hr8, hb8⟩
        obtain ⟨A8, c8, rfl, hrd8⟩ := row_reads hr8
        have C7 := hide (same_any w8 A7 A8 c7 c8 items items2 HI2.out (by omega) (hrd7.keep hb8.size (fun p hp => hb8.cell hp)) hrd8 (hrb.keep hb8.size (fun p hp => hb8.cell hp)) (hrb2.keep hb8.size (fun p hp => hb8.cell hp)))
        have HB8 := hide (HB7.out.trans (hb8.mono HB7.out.size))
        clear C6 hr8 hb8 HB7
        go_wp2_with fail
        refine C7.out.mono ?_
        rintro e w9 ⟨rfl, q, rfl⟩
        have K := hide (knownC_any (w8.drewN q))
        clear C7
        go_wp2_with fail
        refine K.out.mono ?_
        rintro e w10 ⟨rfl, hb10⟩
        have hb8q : Below w2.heap.size w2 (w8.drewN q) := ⟨HB8.out.os, HB8.out.tape, HB8.out.output, HB8.out.size, HB8.out.block⟩
        have hbe : Below w.heap.size w w10 := HB2.out.trans ((hb8q.trans (hb10.mono hb8q.size)).mono HB2.out.size)
        go_wp2
        go_ret
        exact ⟨rfl, hbe⟩
end Go.Proofs.Ytmfebpagjfkclaa
