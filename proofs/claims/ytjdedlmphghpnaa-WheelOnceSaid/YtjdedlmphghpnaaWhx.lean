/-
  Something set.
-/
import Derived.Test.YtjdedlmphghpnaaWhw
namespace Go.Proofs.Ytjdedlmphghpnaa
open Go.RowKit
set_option maxRecDepth 100000
set_option linter.unusedVariables false
set_option linter.unusedSimpArgs false
attribute [local go_sem ↓] exec_span exec_put exec_build heap_alloc_new heap_old
attribute [local go_sem] spanQ_ptr spanC_some heap_of_drew heap_of_drewN putAt_ptr putOk_ptr oldOk_some World.setRow_alloc_new rs_Due built_due built_due0

def setE (now : Int) (D : List (Int × Int)) (id at_ : Int) : Int :=
  if at_ ≤ now then 21 else if 1099511627776 < at_ then 1 else if atD id D = 0 ∧ 4096 ≤ D.length then 4 else 0
def setR (now : Int) (D : List (Int × Int)) (id at_ : Int) : List (Int × Int) := if setE now D id at_ = 0 then setD id at_ D else D
theorem atD_zero {now id : Int} {D : List (Int × Int)} (h : OkD now D) : atD id D = 0 ↔ findD id D = none := by
  unfold atD
  cases hf : findD id D with
  | none => simp
  | some q =>
    have := h.low q (findD_some hf).1
    have := h.clock
    simp
    omega
theorem dropD_few {now id : Int} {D : List (Int × Int)} (h : OkD now D) (hn : ¬ (atD id D = 0 ∧ 4096 ≤ D.length)) : (dropD id D).length < 4096 := by
  have hl := h.len
  cases hf : findD id D with
  | none =>
    have := (atD_zero (id := id) h).2 hf
    rw [dropD_none hf]
    omega
  | some q =>
    obtain ⟨h1, h2⟩ := findD_some hf
    have := dropD_len h.ids h1
    rw [h2] at this
    omega
theorem eq_map (w : World) (b : Nat) : (binOp .eql 60 (.map (some b)) (.map none)).run Try.prog w = .ok (.bool false) w := by kernel_rfl
theorem eq_map0 (w : World) : (binOp .eql 60 (.map none) (.map none)).run Try.prog w = .ok (.bool true) w := by kernel_rfl
/-- what the last step of Set asks, and leaves: the map has it already. -/
theorem put_step {w : World} {p : Nat} {now : Int} {mv : Value} {S : List Value} {lv : Value} {T : List (Int × Value)} {D : List (Int × Int)} {id at_ : Int} (h : WhP w p now mv S lv (putK id (.int .i64 at_) T) (soonL D (now + 64)) (lateL D (now + 64))) (ht : TimesOk T D) (hd : OkD now D)
    (hn : findD id D = none) (ha : now < at_ ∧ at_ ≤ 1099511627776) (hl : D.length < 4096) :
    ∃ (pl : Value) (F : FuncId), (pl = plS p ∧ F = 30 ∧ at_ - now ≤ 64 ∨ pl = plL p ∧ F = 62 ∧ ¬ at_ - now ≤ 64) ∧
      Calls Try.prog F #[.pointer (some ⟨p, if at_ - now ≤ 64 then 2 else 66, none⟩), .agg #[.int .i64 id, .int .i64 at_]] w fun e w' => ∃ F', e = .returned (.tuple #[]) ∧ WhW w' p now (insL ltD (id, at_) D) F' ∧ StW w w' (OwnWh p mv S lv) F' := by
  have hnot : (id, at_) ∉ D := fun hm => findD_none hn _ hm rfl
  have hT := ht.set (at_ := at_) hn
  have hD : OkD now (insL ltD (id, at_) D) := by
    have := setD_ok (id := id) hd ha (by rw [dropD_none hn]; exact hl)
    unfold setD at this
    rwa [dropD_none hn] at this
  have hc := hd.clock
  by_cases hs : at_ - now ≤ 64
  · refine ⟨_, _, .inl ⟨rfl, rfl, hs⟩, ?_⟩
    rw [if_pos hs]
    obtain ⟨r, hr64, hr⟩ : ∃ r : Nat, r < 64 ∧ at_ % 64 = (r : Int) := ⟨(at_ % 64).toNat, by omega, by omega⟩
    obtain ⟨v, hv, hov⟩ := h.rows.soon r hr64
    refine (putS_any w p now mv S lv v (soonL D (now + 64) r) r id at_ h.blk h.sl hr64 hv hov (soonL_rises hd r) (by have := soonL_len (D := D) (lim := now + 64) r; omega) ⟨by omega, hr⟩).mono ?_
    rintro e w' ⟨v', rfl, g1, g2, g3⟩
    obtain ⟨h5, hst2⟩ := h.setS hr64 hv g1 g2 g3
    refine ⟨_, rfl, ⟨_, _, _, _, h5.rowEq (fun s hs64 => ?_) ?_, hT, hD, rfl⟩, hst2⟩
    · rw [soon_insD hd.rises (fun q hq => (hd.low q hq).1) (Int.le_refl _) hnot ha.1]
      by_cases e : s = r
      · subst e; rw [if_pos ⟨by omega, hr⟩, if_pos rfl]
      · rw [if_neg (by omega), if_neg e]
    · rw [late_insD hd.rises hnot, if_neg (by omega)]
  · refine ⟨_, _, .inr ⟨rfl, rfl, hs⟩, ?_⟩
    rw [if_neg hs]
    refine (putL_any w p now mv S lv (lateL D (now + 64)) id at_ h.blk h.sl h.rows.late (hd.rises.filter _) (by have := lateL_len (D := D) (lim := now + 64); omega)).mono ?_
    rintro e w' ⟨v', rfl, g1, g2, g3⟩
    obtain ⟨h5, hst2⟩ := h.setL g1 g2 g3
    refine ⟨_, rfl, ⟨_, _, _, _, h5.rowEq (fun s hs64 => ?_) ?_, hT, hD, rfl⟩, hst2⟩
    · rw [soon_insD hd.rises (fun q hq => (hd.low q hq).1) (Int.le_refl _) hnot ha.1, if_neg (by omega)]
    · rw [late_insD hd.rises hnot, if_pos (by omega)]
set_option maxHeartbeats 8000000 in
theorem setW_any {w : World} {p : Nat} {now : Int} {D : List (Int × Int)} {F : Nat → Prop} (h : WhW w p now D F) (id at_ : Int) :
    Calls Try.prog 12 #[.pointer (some ⟨p, 0, none⟩), .int .i64 id, .int .i64 at_] w fun e w' => ∃ F', e = .returned (.int .i64 (setE now D id at_)) ∧ WhW w' p now (setR now D id at_) F' ∧ StW w w' F F' := by
  have c0 : w.cell? ⟨p, 0, none⟩ = some (.int .i64 now) := by obtain ⟨mv, S, lv, T, h1, _⟩ := h; exact h1.c0
  have KA := hide (atW_any h id)
  have KD := hide (dropW_any h id)
  have hok := h.ok
  by_cases h1 : at_ ≤ now
  · have e1 : setE now D id at_ = 21 := by unfold setE; rw [if_pos h1]
    have HF : Hid (∃ F', Ending.returned (.int .i64 21) = .returned (.int .i64 (setE now D id at_)) ∧ WhW w p now (setR now D id at_) F' ∧ StW w w F F') := hide ⟨F, by rw [e1], by unfold setR; rw [e1]; exact h, StW.refl _ _⟩
    clear h KA KD hok e1
    go_enter Try.func12, Try.ntmps12
    go_wp2
    go_ret
    obtain ⟨F', g1, g2, g3⟩ := HF.out
    first | exact ⟨F', g1, g2, g3⟩ | exact ⟨g1, F', g2, g3⟩
  by_cases h2 : 1099511627776 < at_
  · have e1 : setE now D id at_ = 1 := by unfold setE; rw [if_neg h1, if_pos h2]
    have HF : Hid (∃ F', Ending.returned (.int .i64 1) = .returned (.int .i64 (setE now D id at_)) ∧ WhW w p now (setR now D id at_) F' ∧ StW w w F F') := hide ⟨F, by rw [e1], by unfold setR; rw [e1]; exact h, StW.refl _ _⟩
    clear h KA KD hok e1
    go_enter Try.func12, Try.ntmps12
    go_wp2
    go_ret
    obtain ⟨F', g1, g2, g3⟩ := HF.out
    first | exact ⟨F', g1, g2, g3⟩ | exact ⟨g1, F', g2, g3⟩
  obtain ⟨mv, hc1, hlen⟩ : ∃ mv, w.cell? ⟨p, 1, none⟩ = some mv ∧ ∀ ty, (Builtin.len_ #[60] ty #[mv]).run Try.prog w = .ok (.int .i64 (D.length : Int)) w := by
    obtain ⟨mv, S, lv, T, g1, g2, _⟩ := h
    exact ⟨mv, g1.c1, mapv_len g1.map g2⟩
  obtain ⟨z, hz⟩ : ∃ z, z = atD id D := ⟨_, rfl⟩
  obtain ⟨n, hn⟩ : ∃ n, n = D.length := ⟨_, rfl⟩
  rw [← hz] at KA
  rw [← hn] at hlen
  by_cases h3 : z = 0 ∧ 4096 ≤ n
  · have e1 : setE now D id at_ = 4 := by unfold setE; rw [if_neg h1, if_neg h2, if_pos (by rw [← hz, ← hn]; exact h3)]
    have HF : Hid (∃ F', Ending.returned (.int .i64 4) = .returned (.int .i64 (setE now D id at_)) ∧ WhW w p now (setR now D id at_) F' ∧ StW w w F F') := hide ⟨F, by rw [e1], by unfold setR; rw [e1]; exact h, StW.refl _ _⟩
    obtain ⟨hz0, hn0⟩ := h3
    have hn1 : ((n : Int) : Int) ≥ 4096 := by omega
    clear h KD hok e1 hz hn
    subst hz0
    go_enter Try.func12, Try.ntmps12
    go_wp2_with (first | (go_at_call 23; (with_reducible refine KA.out.mono ?_); rintro e w2 ⟨rfl, rfl⟩) | fail)
    go_ret
    obtain ⟨F', g1, g2, g3⟩ := HF.out
    first | exact ⟨F', g1, g2, g3⟩ | exact ⟨g1, F', g2, g3⟩
  · have e1 : setE now D id at_ = 0 := by unfold setE; rw [if_neg h1, if_neg h2, if_neg (by rw [← hz, ← hn]; exact h3)]
    have HE : Hid (setE now D id at_ = 0) := hide e1
    have HR : Hid (setR now D id at_ = insL ltD (id, at_) (dropD id D)) := hide (by unfold setR; rw [if_pos e1]; rfl)
    have HK : Hid (findD id (dropD id D) = none ∧ (dropD id D).length < 4096) := hide ⟨by rw [find_dropD, if_pos rfl], dropD_few hok (by rw [← hz, ← hn]; exact h3)⟩
    have HC := hide hok.clock
    clear h hok e1 hz hn
    have hgo : (z = 0 ∧ ¬ (n : Int) ≥ 4096) ∨ z ≠ 0 := by
      by_cases e : z = 0
      · exact .inl ⟨e, by omega⟩
      · exact .inr e
    clear h3
    rcases hgo with ⟨hz0, hn0⟩ | hz0
    · subst hz0
      go_enter Try.func12, Try.ntmps12
      go_upto_region 10 with (first | (go_at_call 23; (with_reducible refine KA.out.mono ?_); rintro e w2 ⟨rfl, rfl⟩) | (go_at_call 14; (with_reducible refine KD.out.mono ?_); rintro e w2 ⟨F2, rfl, hw2, hst2⟩; have HW2 := hide hw2; have HS2 := hide hst2; clear hw2 hst2; dsimp only) | fail)
      clear KA KD c0 hc1 hlen
      obtain ⟨mv2, S2, lv2, T2, g1, g2, g3, rfl⟩ := HW2.out
      clear HW2
      have c1 := g1.c1
      rcases g1.map with ⟨rfl, rfl⟩ | ⟨b, rfl, hm⟩
      · obtain ⟨w3, hw3, r3, z3, b3⟩ := alloc_nm w2 (.map #[] 0)
        have hm3 : MapS w3 w2.heap.size [] := ⟨#[], 0, r3, Reads.nil, Stamps.nil 0⟩
        obtain ⟨g4, hs4⟩ := g1.newM b3 (Nat.le_refl _) hm3
        have cc1 : w3.cell? ⟨p, 1, none⟩ = some (.map none) := (g1.bel b3).c1
        have cf1 : w3.frozen? ⟨p, 1, none⟩ = false := by simp [World.frozen?, (g1.bel b3).blk]
        have c4 := g4.c1
        obtain ⟨w4, hw4⟩ : ∃ w4, w3.setCell ⟨p, 1, none⟩ (.map (some w2.heap.size)) = w4 := ⟨_, rfl⟩
        rw [hw4] at g4 hs4 c4
        obtain ⟨_, _, hm4⟩ : ∃ b, Value.map (some w2.heap.size) = .map (some b) ∧ MapS w4 b [] := by
          rcases g4.map with ⟨e, _⟩ | h
          · cases e
          · exact h
        obtain ⟨o, hsto, hmd⟩ := (show MapS w4 w2.heap.size [] by
          rcases g4.map with ⟨e, _⟩ | ⟨b, e, h⟩
          · cases e
          · injection e with e; injection e with e; rw [e]; exact h).store (P := Try.prog) Try.underlying60 Try.underlying2 id (.int .i64 at_)
        obtain ⟨g5, hs5⟩ := g4.setM rfl hmd
        obtain ⟨w5, hw5⟩ : ∃ w5, w4.putObj w2.heap.size o = w5 := ⟨_, rfl⟩
        rw [hw5] at hsto g5 hs5
        obtain ⟨pl, PF, hpl, KP⟩ := put_step g5 g2 g3 HK.out.1 (by omega) HK.out.2
        have c5 := g5.c0
        have HST := hide (HS2.out.trans (hs4.trans hs5))
        have KP' := hide KP
        have hcl := g3.clock
        have hmk := @run_makeMap Try.prog 60
        have heq := eq_map0 w2
        clear g1 g2 g3 g4 g5 hs4 hs5 hm3 hm4 hmd b3 r3 z3 HS2 KP hw5
        rcases hpl with ⟨rfl, rfl, hs⟩ | ⟨rfl, rfl, hs⟩
        · have KL := hide (placeS_any w5 p now at_ c5 hcl (by omega) hs)
          unfold plS at KL
          rw [if_pos hs] at KP'
          go_wp2_with (first | (go_at_call 26; (with_reducible refine KL.out.mono ?_); rintro e w6 ⟨rfl, rfl⟩) | (go_at_call 30; (with_reducible refine KP'.out.mono ?_); rintro e w6 ⟨F6, rfl, hw6, hst6⟩; have HW6 := hide hw6; have HS6 := hide (HST.out.trans hst6); clear hw6 hst6; dsimp only) | fail)
          go_ret
          first | exact ⟨_, by rw [HE.out]; rfl, by rw [HR.out]; exact HW6.out, HS6.out⟩ | exact ⟨by rw [HE.out]; rfl, _, by rw [HR.out]; exact HW6.out, HS6.out⟩
        · have KL := hide (placeL_any w5 p now at_ c5 hcl (by omega) hs)
          unfold plL at KL
          rw [if_neg hs] at KP'
          go_wp2_with (first | (go_at_call 26; (with_reducible refine KL.out.mono ?_); rintro e w6 ⟨rfl, rfl⟩) | (go_at_call 62; (with_reducible refine KP'.out.mono ?_); rintro e w6 ⟨F6, rfl, hw6, hst6⟩; have HW6 := hide hw6; have HS6 := hide (HST.out.trans hst6); clear hw6 hst6; dsimp only) | fail)
          go_ret
          first | exact ⟨_, by rw [HE.out]; rfl, by rw [HR.out]; exact HW6.out, HS6.out⟩ | exact ⟨by rw [HE.out]; rfl, _, by rw [HR.out]; exact HW6.out, HS6.out⟩
      · obtain ⟨o, hsto, hmd⟩ := hm.store (P := Try.prog) Try.underlying60 Try.underlying2 id (.int .i64 at_)
        obtain ⟨g5, hs5⟩ := g1.setM rfl hmd
        obtain ⟨w5, hw5⟩ : ∃ w5, w2.putObj b o = w5 := ⟨_, rfl⟩
        rw [hw5] at hsto g5 hs5
        obtain ⟨pl, PF, hpl, KP⟩ := put_step g5 g2 g3 HK.out.1 (by omega) HK.out.2
        have c5 := g5.c0
        have HST := hide (HS2.out.trans hs5)
        have KP' := hide KP
        have hcl := g3.clock
        have heq := eq_map w2 b
        clear g1 g2 g3 g5 hs5 hm hmd HS2 KP hw5
        rcases hpl with ⟨rfl, rfl, hs⟩ | ⟨rfl, rfl, hs⟩
        · have KL := hide (placeS_any w5 p now at_ c5 hcl (by omega) hs)
          unfold plS at KL
          rw [if_pos hs] at KP'
          go_wp2_with (first | (go_at_call 26; (with_reducible refine KL.out.mono ?_); rintro e w6 ⟨rfl, rfl⟩) | (go_at_call 30; (with_reducible refine KP'.out.mono ?_); rintro e w6 ⟨F6, rfl, hw6, hst6⟩; have HW6 := hide hw6; have HS6 := hide (HST.out.trans hst6); clear hw6 hst6; dsimp only) | fail)
          go_ret
          first | exact ⟨_, by rw [HE.out]; rfl, by rw [HR.out]; exact HW6.out, HS6.out⟩ | exact ⟨by rw [HE.out]; rfl, _, by rw [HR.out]; exact HW6.out, HS6.out⟩
        · have KL := hide (placeL_any w5 p now at_ c5 hcl (by omega) hs)
          unfold plL at KL
          rw [if_neg hs] at KP'
          go_wp2_with (first | (go_at_call 26; (with_reducible refine KL.out.mono ?_); rintro e w6 ⟨rfl, rfl⟩) | (go_at_call 62; (with_reducible refine KP'.out.mono ?_); rintro e w6 ⟨F6, rfl, hw6, hst6⟩; have HW6 := hide hw6; have HS6 := hide (HST.out.trans hst6); clear hw6 hst6; dsimp only) | fail)
          go_ret
          first | exact ⟨_, by rw [HE.out]; rfl, by rw [HR.out]; exact HW6.out, HS6.out⟩ | exact ⟨by rw [HE.out]; rfl, _, by rw [HR.out]; exact HW6.out, HS6.out⟩
    · go_enter Try.func12, Try.ntmps12
      go_upto_region 10 with (first | (go_at_call 23; (with_reducible refine KA.out.mono ?_); rintro e w2 ⟨rfl, rfl⟩) | (go_at_call 14; (with_reducible refine KD.out.mono ?_); rintro e w2 ⟨F2, rfl, hw2, hst2⟩; have HW2 := hide hw2; have HS2 := hide hst2; clear hw2 hst2; dsimp only) | fail)
      clear KA KD c0 hc1 hlen
      obtain ⟨mv2, S2, lv2, T2, g1, g2, g3, rfl⟩ := HW2.out
      clear HW2
      have c1 := g1.c1
      rcases g1.map with ⟨rfl, rfl⟩ | ⟨b, rfl, hm⟩
      · obtain ⟨w3, hw3, r3, z3, b3⟩ := alloc_nm w2 (.map #[] 0)
        have hm3 : MapS w3 w2.heap.size [] := ⟨#[], 0, r3, Reads.nil, Stamps.nil 0⟩
        obtain ⟨g4, hs4⟩ := g1.newM b3 (Nat.le_refl _) hm3
        have cc1 : w3.cell? ⟨p, 1, none⟩ = some (.map none) := (g1.bel b3).c1
        have cf1 : w3.frozen? ⟨p, 1, none⟩ = false := by simp [World.frozen?, (g1.bel b3).blk]
        have c4 := g4.c1
        obtain ⟨w4, hw4⟩ : ∃ w4, w3.setCell ⟨p, 1, none⟩ (.map (some w2.heap.size)) = w4 := ⟨_, rfl⟩
        rw [hw4] at g4 hs4 c4
        obtain ⟨_, _, hm4⟩ : ∃ b, Value.map (some w2.heap.size) = .map (some b) ∧ MapS w4 b [] := by
          rcases g4.map with ⟨e, _⟩ | h
          · cases e
          · exact h
        obtain ⟨o, hsto, hmd⟩ := (show MapS w4 w2.heap.size [] by
          rcases g4.map with ⟨e, _⟩ | ⟨b, e, h⟩
          · cases e
          · injection e with e; injection e with e; rw [e]; exact h).store (P := Try.prog) Try.underlying60 Try.underlying2 id (.int .i64 at_)
        obtain ⟨g5, hs5⟩ := g4.setM rfl hmd
        obtain ⟨w5, hw5⟩ : ∃ w5, w4.putObj w2.heap.size o = w5 := ⟨_, rfl⟩
        rw [hw5] at hsto g5 hs5
        obtain ⟨pl, PF, hpl, KP⟩ := put_step g5 g2 g3 HK.out.1 (by omega) HK.out.2
        have c5 := g5.c0
        have HST := hide (HS2.out.trans (hs4.trans hs5))
        have KP' := hide KP
        have hcl := g3.clock
        have hmk := @run_makeMap Try.prog 60
        have heq := eq_map0 w2
        clear g1 g2 g3 g4 g5 hs4 hs5 hm3 hm4 hmd b3 r3 z3 HS2 KP hw5
        rcases hpl with ⟨rfl, rfl, hs⟩ | ⟨rfl, rfl, hs⟩
        · have KL := hide (placeS_any w5 p now at_ c5 hcl (by omega) hs)
          unfold plS at KL
          rw [if_pos hs] at KP'
          go_wp2_with (first | (go_at_call 26; (with_reducible refine KL.out.mono ?_); rintro e w6 ⟨rfl, rfl⟩) | (go_at_call 30; (with_reducible refine KP'.out.mono ?_); rintro e w6 ⟨F6, rfl, hw6, hst6⟩; have HW6 := hide hw6; have HS6 := hide (HST.out.trans hst6); clear hw6 hst6; dsimp only) | fail)
          go_ret
          first | exact ⟨_, by rw [HE.out]; rfl, by rw [HR.out]; exact HW6.out, HS6.out⟩ | exact ⟨by rw [HE.out]; rfl, _, by rw [HR.out]; exact HW6.out, HS6.out⟩
        · have KL := hide (placeL_any w5 p now at_ c5 hcl (by omega) hs)
          unfold plL at KL
          rw [if_neg hs] at KP'
          go_wp2_with (first | (go_at_call 26; (with_reducible refine KL.out.mono ?_); rintro e w6 ⟨rfl, rfl⟩) | (go_at_call 62; (with_reducible refine KP'.out.mono ?_); rintro e w6 ⟨F6, rfl, hw6, hst6⟩; have HW6 := hide hw6; have HS6 := hide (HST.out.trans hst6); clear hw6 hst6; dsimp only) | fail)
          go_ret
          first | exact ⟨_, by rw [HE.out]; rfl, by rw [HR.out]; exact HW6.out, HS6.out⟩ | exact ⟨by rw [HE.out]; rfl, _, by rw [HR.out]; exact HW6.out, HS6.out⟩
      · obtain ⟨o, hsto, hmd⟩ := hm.store (P := Try.prog) Try.underlying60 Try.underlying2 id (.int .i64 at_)
        obtain ⟨g5, hs5⟩ := g1.setM rfl hmd
        obtain ⟨w5, hw5⟩ : ∃ w5, w2.putObj b o = w5 := ⟨_, rfl⟩
        rw [hw5] at hsto g5 hs5
        obtain ⟨pl, PF, hpl, KP⟩ := put_step g5 g2 g3 HK.out.1 (by omega) HK.out.2
        have c5 := g5.c0
        have HST := hide (HS2.out.trans hs5)
        have KP' := hide KP
        have hcl := g3.clock
        have heq := eq_map w2 b
        clear g1 g2 g3 g5 hs5 hm hmd HS2 KP hw5
        rcases hpl with ⟨rfl, rfl, hs⟩ | ⟨rfl, rfl, hs⟩
        · have KL := hide (placeS_any w5 p now at_ c5 hcl (by omega) hs)
          unfold plS at KL
          rw [if_pos hs] at KP'
          go_wp2_with (first | (go_at_call 26; (with_reducible refine KL.out.mono ?_); rintro e w6 ⟨rfl, rfl⟩) | (go_at_call 30; (with_reducible refine KP'.out.mono ?_); rintro e w6 ⟨F6, rfl, hw6, hst6⟩; have HW6 := hide hw6; have HS6 := hide (HST.out.trans hst6); clear hw6 hst6; dsimp only) | fail)
          go_ret
          first | exact ⟨_, by rw [HE.out]; rfl, by rw [HR.out]; exact HW6.out, HS6.out⟩ | exact ⟨by rw [HE.out]; rfl, _, by rw [HR.out]; exact HW6.out, HS6.out⟩
        · have KL := hide (placeL_any w5 p now at_ c5 hcl (by omega) hs)
          unfold plL at KL
          rw [if_neg hs] at KP'
          go_wp2_with (first | (go_at_call 26; (with_reducible refine KL.out.mono ?_); rintro e w6 ⟨rfl, rfl⟩) | (go_at_call 62; (with_reducible refine KP'.out.mono ?_); rintro e w6 ⟨F6, rfl, hw6, hst6⟩; have HW6 := hide hw6; have HS6 := hide (HST.out.trans hst6); clear hw6 hst6; dsimp only) | fail)
          go_ret
          first | exact ⟨_, by rw [HE.out]; rfl, by rw [HR.out]; exact HW6.out, HS6.out⟩ | exact ⟨by rw [HE.out]; rfl, _, by rw [HR.out]; exact HW6.out, HS6.out⟩
end Go.Proofs.Ytjdedlmphghpnaa
