/-
  Something dropped.
-/
import Derived.Test.YtjdedlmphghpnaaWhv
import Derived.Handy
namespace Go.Proofs.Ytjdedlmphghpnaa
open Go.RowKit
set_option maxRecDepth 100000
set_option linter.unusedVariables false
set_option linter.unusedSimpArgs false
attribute [local go_sem ↓] exec_span exec_put exec_build heap_alloc_new heap_old
attribute [local go_sem] spanQ_ptr spanC_some heap_of_drew heap_of_drewN putAt_ptr putOk_ptr oldOk_some World.setRow_alloc_new rs_Due built_due built_due0

theorem WhP.rowEq {w : World} {p : Nat} {now : Int} {mv : Value} {S : List Value} {lv : Value} {T : List (Int × Value)} {SL SL' : Nat → List Int} {LL LL' : List (Int × Int)} (h : WhP w p now mv S lv T SL LL) (hS : ∀ r, r < 64 → SL' r = SL r) (hL : LL' = LL) : WhP w p now mv S lv T SL' LL' := by
  subst hL
  exact ⟨h.blk, h.sl, h.map, ⟨fun r hr => by obtain ⟨v, hv, ho⟩ := h.rows.soon r hr; exact ⟨v, hv, by rw [hS r hr]; exact ho⟩, h.rows.apart, h.rows.late⟩⟩
theorem mapv_some {w : World} {mv : Value} {T : List (Int × Value)} (h : MapV w mv T) (hT : T ≠ []) : ∃ b, mv = .map (some b) ∧ MapS w b T := by
  rcases h with ⟨_, e⟩ | h
  · exact absurd e hT
  · exact h
theorem soonL_rises {D : List (Int × Int)} {now : Int} (h : OkD now D) (r : Nat) : (soonL D (now + 64) r).Pairwise ltZ := by
  unfold soonL
  rw [List.pairwise_map]
  refine List.Pairwise.imp_of_mem ?_ (h.rises.filter _)
  intro a b ha hb hab
  rw [List.mem_filter] at ha hb
  have h1 := h.low a ha.1
  have h2 := h.low b hb.1
  have h3 := ha.2
  have h4 := hb.2
  simp only [Bool.and_eq_true, decide_eq_true_eq] at h3 h4
  unfold ltD at hab
  unfold ltZ
  omega
theorem soonL_len {D : List (Int × Int)} {lim : Int} (r : Nat) : (soonL D lim r).length ≤ D.length := by
  unfold soonL; rw [List.length_map]; exact List.length_filter_le _ _
theorem lateL_len {D : List (Int × Int)} {lim : Int} : (lateL D lim).length ≤ D.length := List.length_filter_le _ _
set_option maxHeartbeats 4000000 in
theorem dropW_any {w : World} {p : Nat} {now : Int} {D : List (Int × Int)} {F : Nat → Prop} (h : WhW w p now D F) (id : Int) :
    Calls Try.prog 14 #[.pointer (some ⟨p, 0, none⟩), .int .i64 id] w fun e w' => ∃ F', e = .returned (.bool (findD id D).isSome) ∧ WhW w' p now (dropD id D) F' ∧ StW w w' F F' := by
  have KA := hide (atW_any h id)
  cases hf : findD id D with
  | none =>
    have e0 : atD id D = 0 := by unfold atD; rw [hf]; rfl
    rw [e0] at KA
    have HF : Hid (∃ F', WhW w p now (dropD id D) F' ∧ StW w w F F') := hide ⟨F, by rw [dropD_none hf]; exact h, StW.refl _ _⟩
    clear h e0 hf
    go_enter Try.func14, Try.ntmps14
    go_wp2_with (first | (go_at_call 23; (with_reducible refine KA.out.mono ?_); rintro e w2 ⟨rfl, rfl⟩) | fail)
    go_ret
    obtain ⟨F', h1, h2⟩ := HF.out
    exact ⟨F', rfl, h1, h2⟩
  | some q =>
    obtain ⟨hq, hid⟩ := findD_some hf
    have e0 : atD id D = q.2 := by unfold atD; rw [hf]; rfl
    rw [e0] at KA
    subst hid
    obtain ⟨mv, S, lv, T, h1, h2, h3, rfl⟩ := h
    have hlow := h3.low q hq
    have hcl := h3.clock
    obtain ⟨b, rfl, hm⟩ := mapv_some h1.map (fun e => by
      have := h2.look q.1
      rw [e, hf] at this; cases this)
    obtain ⟨o, hdel, hmd⟩ := hm.del (P := Try.prog) Try.underlying60 Try.underlying2 q.1 2 0
    have hdel' : ∀ ty, (Builtin.delete_ #[60, 2] ty #[.map (some b), .int .i64 q.1]).run Try.prog w = .ok (.tuple #[]) (w.putObj b o) := fun ty => hdel
    obtain ⟨h4, hst⟩ := h1.setM rfl hmd
    have hT' := h2.drop h3.ids hq
    have hD' := dropD_ok (id := q.1) h3
    obtain ⟨w1, hw1⟩ : ∃ w1, w1 = w.putObj b o := ⟨_, rfl⟩
    rw [← hw1] at hdel' h4 hst
    have c0 := h4.c0
    have c1 := h1.c1
    obtain ⟨q1, q2⟩ := q
    dsimp only at *
    by_cases hs : q2 - now ≤ 64
    · have KP := hide (placeS_any w1 p now q2 c0 hcl (by omega) hs)
      unfold plS at KP
      obtain ⟨r, hr64, hr⟩ : ∃ r : Nat, r < 64 ∧ q2 % 64 = (r : Int) := ⟨(q2 % 64).toNat, by omega, by omega⟩
      obtain ⟨v, hv, hov⟩ := h4.rows.soon r hr64
      have hmem : q1 ∈ soonL D (now + 64) r := by
        unfold soonL
        exact List.mem_map.2 ⟨(q1, q2), List.mem_filter.2 ⟨hq, by simp; omega⟩, rfl⟩
      have KD := hide (dropS_any w1 p now _ S lv v (soonL D (now + 64) r) r q1 q2 h4.blk h4.sl hr64 hv hov (soonL_rises h3 r) (by have := soonL_len (D := D) (lim := now + 64) r; have := h3.len; omega) ⟨by omega, hr⟩ hmem)
      have HF : Hid (∀ v' w2, w2.heap[p]? = some (.cells (whL now (.map (some b)) (S.set r v') lv).toArray 65 (0, 0)) ∧ w2.ownsRow 0 2 1 v' ((soonL D (now + 64) r).filter (fun y => decide (y ≠ q1))).length (((soonL D (now + 64) r).filter (fun y => decide (y ≠ q1))).map izV) ∧ TouchW w1 w2 p v.ownBlock v'.ownBlock → ∃ F', WhW w2 p now (dropD q1 D) F' ∧ StW w w2 (OwnWh p (.map (some b)) S lv) F') := hide fun v' w2 ⟨g1, g2, g3⟩ => by
        obtain ⟨h5, hst2⟩ := h4.setS hr64 hv g1 g2 g3
        refine ⟨_, ⟨_, _, _, _, h5.rowEq (fun s hs64 => ?_) ?_, hT', hD', rfl⟩, hst.trans hst2⟩
        · rw [soon_drop h3.ids hq]
          by_cases e : s = r
          · subst e; rw [if_pos ⟨by omega, hr⟩, if_pos rfl]
          · rw [if_neg (by omega), if_neg e]
        · rw [late_drop h3.ids hq, if_neg (by omega)]
      clear h1 h2 h3 h4 hst hT' hD' hov hm hmd hdel hf hq hmem hv hw1 e0
      go_enter Try.func14, Try.ntmps14
      go_wp2_with (first | (go_at_call 23; (with_reducible refine KA.out.mono ?_); rintro e w2 ⟨rfl, rfl⟩) | (go_at_call 26; (with_reducible refine KP.out.mono ?_); rintro e w2 ⟨rfl, rfl⟩) | (go_at_call 59; (with_reducible refine KD.out.mono ?_); rintro e w2 ⟨v', rfl, hg⟩; have HG := hide (HF.out v' w2 hg); clear hg; dsimp only) | fail)
      go_ret
      obtain ⟨F', h1, h2⟩ := HG.out
      exact ⟨F', rfl, h1, h2⟩
    · have KP := hide (placeL_any w1 p now q2 c0 hcl (by omega) hs)
      unfold plL at KP
      have hmem : (q1, q2) ∈ lateL D (now + 64) := List.mem_filter.2 ⟨hq, by simp; omega⟩
      have KD := hide (dropL_any w1 p now _ S lv (lateL D (now + 64)) q1 q2 h4.blk h4.sl h4.rows.late (h3.rises.filter _) (by have := lateL_len (D := D) (lim := now + 64); have := h3.len; omega) hmem)
      have HF : Hid (∀ v' w2, w2.heap[p]? = some (.cells (whL now (.map (some b)) S v').toArray 65 (0, 0)) ∧ w2.ownsRow 0 43 2 v' ((lateL D (now + 64)).filter (fun y => decide (y ≠ (q1, q2)))).length (rowD ((lateL D (now + 64)).filter (fun y => decide (y ≠ (q1, q2))))) ∧ TouchW w1 w2 p lv.ownBlock v'.ownBlock → ∃ F', WhW w2 p now (dropD q1 D) F' ∧ StW w w2 (OwnWh p (.map (some b)) S lv) F') := hide fun v' w2 ⟨g1, g2, g3⟩ => by
        obtain ⟨h5, hst2⟩ := h4.setL g1 g2 g3
        refine ⟨_, ⟨_, _, _, _, h5.rowEq (fun s hs64 => ?_) ?_, hT', hD', rfl⟩, hst.trans hst2⟩
        · rw [soon_drop h3.ids hq, if_neg (by omega)]
        · rw [late_drop h3.ids hq, if_pos (by omega)]
      clear h1 h2 h3 h4 hst hT' hD' hm hmd hdel hf hq hmem hw1 e0
      go_enter Try.func14, Try.ntmps14
      go_wp2_with (first | (go_at_call 23; (with_reducible refine KA.out.mono ?_); rintro e w2 ⟨rfl, rfl⟩) | (go_at_call 26; (with_reducible refine KP.out.mono ?_); rintro e w2 ⟨rfl, rfl⟩) | (go_at_call 61; (with_reducible refine KD.out.mono ?_); rintro e w2 ⟨v', rfl, hg⟩; have HG := hide (HF.out v' w2 hg); clear hg; dsimp only) | fail)
      go_ret
      obtain ⟨F', h1, h2⟩ := HG.out
      exact ⟨F', rfl, h1, h2⟩
end Go.Proofs.Ytjdedlmphghpnaa
